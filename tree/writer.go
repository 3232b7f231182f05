package tree

import (
	"strings"

	"prune/api"
	"prune/chars"
)

// writer writes nodes, in one way or another.
type writer struct {
	strings.Builder
	nodes []api.Node
}

// plain writes the plain form of node k.
func (w *writer) plain(k int) {
	n := &w.nodes[k]
	if n.Name == "" {
		w.WriteString(chars.Escape(n.Text, false))
		return
	}
	w.opening(n)
	if n.Kids == nil {
		w.WriteString("/>")
		return
	}
	w.WriteString(">")
	w.kids(n, (*writer).plain)
	w.WriteString("</" + n.Name + ">")
}

// opening writes an element's tag as far as its attributes go.
func (w *writer) opening(n *api.Node) {
	w.WriteString("<" + n.Name)
	for _, a := range n.Attrs {
		w.WriteString(" " + a.Name + `="` + chars.Escape(a.Value, true) + `"`)
	}
}

// value writes the value of node k.
func (w *writer) value(k int) {
	n := &w.nodes[k]
	w.WriteString(n.Text)
	w.kids(n, (*writer).value)
}

func (w *writer) kids(n *api.Node, way func(w *writer, k int)) {
	for _, k := range n.Kids {
		way(w, k)
	}
}
