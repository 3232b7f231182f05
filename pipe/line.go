package pipe

import (
	"prune/api"
	"prune/cut"
	"prune/tags"
	"prune/token"
)

// line is what three goroutines have, one for each of read, prune and write, with two channels between them.
type line struct {
	fault
	doc    string
	chunk  int
	reader *token.Reader // the pruner's, too, behind the end of the first channel
	first  chan api.Token
	nest   tags.Nest
	cutter *cut.Pruner
	second chan api.Token
	text   tags.Writer
}

func newLine(doc string, cutter *cut.Pruner, chunk, c1, c2 int) *line {
	return &line{
		fault:  fault{known: make(chan struct{})},
		doc:    doc,
		chunk:  chunk,
		reader: token.New(),
		first:  make(chan api.Token, c1),
		cutter: cutter,
		second: make(chan api.Token, c2),
	}
}

// read hands on the document's tokens, unless something is known to be wrong.
func (l *line) read() {
	defer close(l.first)
	for rest := l.doc; rest != ""; {
		n := min(l.chunk, len(rest))
		if l.isKnown() || !l.hand(l.reader.Write(rest[:n])) {
			return
		}
		rest = rest[n:]
	}
	l.hand(l.reader.Close())
}

// hand hands tokens on, unless the pruner has ended, and nobody takes them.
func (l *line) hand(tokens []api.Token) bool {
	for _, t := range tokens {
		select {
		case l.first <- t:
		case <-l.known:
			return false
		}
	}
	return true
}

// prune hands on what is kept. What is wrong is told by it alone, in the order of R1, so that it does not hang on how far the reader is.
func (l *line) prune() {
	defer close(l.second)
	for t := range l.first {
		if no := l.nest.Take(t); no != api.OK {
			l.tell(no, t.At)
			return
		}
		for _, kept := range l.cutter.Push(t) {
			l.second <- kept
		}
	}
	if no, at := l.reader.Err(); no != api.OK {
		l.tell(no, at)
	}
	if !l.nest.Whole() {
		l.tell(api.ErrForm, len(l.doc))
	}
}

// write takes all that comes: it comes to an end, as the pruner does.
func (l *line) write() {
	for t := range l.second {
		l.text.Take(t)
	}
}
