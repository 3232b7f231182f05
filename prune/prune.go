// Package prune: questions over documents: see doc/11-prune.md.
package prune

import (
	"sync"

	"prune/api"
	"prune/pipe"
	"prune/spine"
)

const (
	maxChunk   = 10000
	maxCap     = 100
	maxWorkers = 16
)

// Options are how the work is done.
type Options struct{ Chunk, Cap, Workers int }

func (o Options) inBounds() bool {
	return o.Chunk >= 1 && o.Chunk <= maxChunk && o.Cap >= 0 && o.Cap <= maxCap && o.Workers >= 1 && o.Workers <= maxWorkers
}

// Found is what a query leads to in a document.
type Found struct {
	Doc   int
	Query int
	Texts []string
}

// Answers answers queries over documents (N1).
func Answers(docs []string, queries []string, o Options) ([]Found, api.Errno, int, int, int) {
	if !o.inBounds() {
		return nil, api.ErrRange, 0, 0, 0
	}
	if _, no, at, which := spine.Paths(queries); no != api.OK {
		return nil, no, at, which, 0
	}
	var found []Found
	for i, r := range replies(docs, queries, o) {
		if r.no != api.OK {
			return nil, r.no, r.at, 0, i + 1
		}
		for j, texts := range r.texts {
			found = append(found, Found{Doc: i + 1, Query: j + 1, Texts: texts})
		}
	}
	return found, api.OK, 0, 0, 0
}

// replies tells what comes of each document. There are as many lines of goroutines as workers; the documents go through one line after the other, so that they come out in their order.
func replies(docs []string, queries []string, o Options) []reply {
	pruned := func(doc string) pipe.Result {
		text, no, at, _ := pipe.Run(doc, queries, o.Chunk, o.Cap, o.Cap)
		return pipe.Result{Text: text, Err: no, At: at}
	}
	asked := func(r pipe.Result) reply { return ask(r, queries) }
	var all sync.WaitGroup
	lines := make([]<-chan reply, o.Workers)
	for i := range lines {
		dealt := deal(&all, docs, i, len(lines))
		lines[i] = work(&all, work(&all, dealt, pruned), asked)
	}
	told := make([]reply, len(docs))
	for i := range told {
		told[i] = <-lines[i%len(lines)]
	}
	all.Wait()
	return told
}
