package tree

import (
	"strings"

	"prune/api"
	"prune/chars"
	"prune/tags"
)

// writer writes nodes, in one way or another.
type writer struct {
	strings.Builder
	nodes []api.Node
}

// plain writes the plain form of node k.
func (w *writer) plain(k int) {
	n := &w.nodes[k]
	if n.Name == "" {
		w.WriteString(chars.Escape(n.Text, false))
		return
	}
	w.WriteString(tags.Begin(n.Name, n.Attrs))
	if n.Kids == nil {
		w.WriteString("/>")
		return
	}
	w.WriteString(">")
	w.kids(n, (*writer).plain)
	w.WriteString("</" + n.Name + ">")
}

// value writes the value of node k.
func (w *writer) value(k int) {
	n := &w.nodes[k]
	w.WriteString(n.Text)
	w.kids(n, (*writer).value)
}

func (w *writer) kids(n *api.Node, way func(w *writer, k int)) {
	for _, k := range n.Kids {
		way(w, k)
	}
}
