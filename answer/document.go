package answer

import (
	"iter"
	"strings"

	"prune/api"
)

// root is the number by which the document itself goes, of which node 0 is the one Kid.
const root = -1

// document is what is asked of a document's nodes. Those within a node are the ones behind it, up to its last one, so that their texts stand side by side.
type document struct {
	nodes []api.Node
	last  []int  // of each node, the last one within it (itself, if there is none)
	texts string // all texts, in their order
	ahead []int  // of each node, how many bytes of the texts stand ahead of it; then how many there are
}

func newDocument(nodes []api.Node) document {
	d := document{nodes: nodes, last: make([]int, len(nodes))}
	for k := len(nodes) - 1; k >= 0; k-- {
		d.last[k] = max(d.last[k], k)
		if up := nodes[k].Up; up >= 0 {
			d.last[up] = max(d.last[up], d.last[k])
		}
	}
	var texts strings.Builder
	for _, n := range nodes {
		d.ahead = append(d.ahead, texts.Len())
		texts.WriteString(n.Text)
	}
	d.ahead = append(d.ahead, texts.Len())
	d.texts = texts.String()
	return d
}

func (d *document) value(k int) string { return d.texts[d.ahead[k]:d.ahead[d.last[k]+1]] }

// fits tells whether a node is what a step asks for, but for its conditions (E1).
func (d *document) fits(test string, k int) bool {
	name := d.nodes[k].Name
	switch test {
	case "#":
		return name == ""
	case "*":
		return name != ""
	}
	return name == test
}

// kids goes through the nodes right within some.
func (d *document) kids(from []int) iter.Seq[int] {
	return func(yield func(int) bool) {
		for _, k := range from {
			kids := []int{0}
			if k != root {
				kids = d.nodes[k].Kids
			}
			for _, kid := range kids {
				if !yield(kid) {
					return
				}
			}
		}
	}
}

// within goes through all nodes within some, which are rising, and comes to each but once, though some may lie within others.
func (d *document) within(from []int) iter.Seq[int] {
	return func(yield func(int) bool) {
		next := 0
		for _, k := range from {
			last := len(d.nodes) - 1
			if k != root {
				last = d.last[k]
			}
			for next = max(next, k+1); next <= last; next++ {
				if !yield(next) {
					return
				}
			}
		}
	}
}
