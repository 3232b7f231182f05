// Package pipe: the three stages at once: see doc/09-pipe.md.
package pipe

import (
	"sync"
	"sync/atomic"

	"prune/api"
	"prune/cut"
	"prune/spine"
)

const (
	maxChunk   = 10000
	maxRoom    = 100
	maxWorkers = 16
)

// Result is a document's projection, or what is wrong with it.
type Result struct {
	Text string
	Err  api.Errno
	At   int
}

// Run projects a document by three goroutines (I1).
func Run(doc string, queries []string, chunk int, c1 int, c2 int) (string, api.Errno, int, int) {
	if chunk < 1 || chunk > maxChunk || min(c1, c2) < 0 || max(c1, c2) > maxRoom {
		return "", api.ErrRange, 0, 0
	}
	cutter, no, at, which := cut.New(queries)
	if no != api.OK {
		return "", no, at, which
	}
	l := newLine(doc, cutter, chunk, c1, c2)
	var all sync.WaitGroup
	all.Go(l.read)
	all.Go(l.prune)
	all.Go(l.write)
	all.Wait()
	if l.no != api.OK {
		return "", l.no, l.at, 0
	}
	return l.text.String(), api.OK, 0, 0
}

// All projects documents by several goroutines (I2).
func All(docs []string, queries []string, workers int) ([]Result, api.Errno, int, int) {
	if workers < 1 || workers > maxWorkers {
		return nil, api.ErrRange, 0, 0
	}
	if _, no, at, which := spine.Paths(queries); no != api.OK {
		return nil, no, at, which
	}
	results := make([]Result, len(docs))
	var taken atomic.Int64
	var all sync.WaitGroup
	for range workers {
		all.Go(func() {
			for k := taken.Add(1) - 1; k < int64(len(docs)); k = taken.Add(1) - 1 {
				results[k] = project(docs[k], queries)
			}
		})
	}
	all.Wait()
	return results, api.OK, 0, 0
}

func project(doc string, queries []string) Result {
	text, no, at, _ := cut.Project(doc, queries)
	return Result{Text: text, Err: no, At: at}
}
