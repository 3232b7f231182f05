// Package tree: documents as trees: see doc/03-tree.md.
package tree

import (
	"prune/api"
	"prune/token"
)

// Parse tells a document's nodes (R1, R2).
func Parse(s string) ([]api.Node, api.Errno, int) {
	r := token.New()
	tokens := append(r.Write(s), r.Close()...)
	g := growth{open: none}
	for _, t := range tokens {
		if no := g.take(t); no != api.OK {
			return nil, no, t.At
		}
	}
	if no, at := r.Err(); no != api.OK {
		return nil, no, at
	}
	if !g.nest.Whole() {
		return nil, api.ErrForm, len(s)
	}
	return g.nodes, api.OK, 0
}

// Print tells a document's plain form (R3).
func Print(s string) (string, api.Errno, int) {
	return write(s, 0, (*writer).plain)
}

// Sub tells a node's plain form (R3).
func Sub(s string, k int) (string, api.Errno, int) {
	return write(s, k, (*writer).plain)
}

// Value tells a node's value (R3).
func Value(s string, k int) (string, api.Errno, int) {
	return write(s, k, (*writer).value)
}

// write tells node k of a document in the way that is handed on.
func write(s string, k int, way func(w *writer, k int)) (string, api.Errno, int) {
	nodes, no, at := Parse(s)
	if no != api.OK {
		return "", no, at
	}
	if k < 0 || k >= len(nodes) {
		return "", api.ErrRange, 0
	}
	w := writer{nodes: nodes}
	way(&w, k)
	return w.String(), api.OK, 0
}
