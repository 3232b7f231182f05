// Package guide: what is where in a document: see doc/10-guide.md.
package guide

import (
	"prune/api"
	"prune/query"
	"prune/spine"
	"prune/steps"
	"prune/tree"
)

// text is the last part of a text's label.
const text = "#"

// Of tells a document's labels (D1).
func Of(doc string) ([]api.Label, api.Errno, int) {
	nodes, no, at := tree.Parse(doc)
	if no != api.OK {
		return nil, no, at
	}
	c := count{numbers: map[part]int{}}
	for _, n := range nodes {
		c.take(n)
	}
	return c.labels, api.OK, 0
}

// May tells whether a query can lead to something (D2).
func May(labels []api.Label, q string) (bool, api.Errno, int) {
	paths, no, at := query.Parse(q)
	if no != api.OK {
		return false, no, at
	}
	// The needed path of one without conditions is that path.
	var bare []string
	for _, path := range paths {
		bare = append(bare, steps.Bare(path))
	}
	s, _, _, _ := spine.New(bare)
	for _, l := range labels {
		if leads(s, l.Path) {
			return true, api.OK, 0
		}
	}
	return false, api.OK, 0
}
