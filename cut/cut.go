// Package cut: documents without what is not needed: see doc/07-cut.md.
package cut

import (
	"prune/api"
	"prune/spine"
	"prune/tags"
	"prune/token"
	"prune/tree"
)

// Project leaves out what no query needs (X3).
func Project(doc string, queries []string) (string, api.Errno, int, int) {
	p, no, at, which := New(queries)
	if no != api.OK {
		return "", no, at, which
	}
	if _, no, at := tree.Parse(doc); no != api.OK {
		return "", no, at, 0
	}
	tokens, _, _ := token.All(doc)
	var w tags.Writer
	for _, t := range tokens {
		for _, kept := range p.Push(t) {
			w.Take(kept)
		}
	}
	return w.String(), api.OK, 0, 0
}

// Pruner leaves out tokens as they come. Make it by New.
type Pruner struct {
	spine *spine.Spine
	open  []element // the elements that are open, but those that are skipped
	told  int       // how many of these are kept, and their opening tags answered: the outer ones
	skip  int       // how many elements are open within these of which nothing can come
}

// New makes a pruner (X4).
func New(queries []string) (*Pruner, api.Errno, int, int) {
	s, no, at, which := spine.New(queries)
	if no != api.OK {
		return nil, no, at, which
	}
	return &Pruner{spine: s}, api.OK, 0, 0
}

// Push takes a token (X4).
func (p *Pruner) Push(t api.Token) []api.Token {
	t = own(t)
	switch t.Kind {
	case tags.Opening:
		return p.opening(t)
	case tags.Closing:
		return p.closing(t)
	case tags.Text:
		return p.text(t)
	}
	return nil
}
