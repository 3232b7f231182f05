package guide

import (
	"strings"

	"prune/api"
	"prune/spine"
)

// document is the number by which the label around that of node 0 goes: there is none.
const document = -1

// part is the last part of a label, and the number of the label that is ahead of it.
type part struct {
	ahead int
	name  string
}

// count counts the nodes that have a label. Those of one label are found by its last part, so that no label is written for a node whose label is there already.
type count struct {
	labels  []api.Label
	numbers map[part]int // of the labels, by their last parts
	of      []int        // of each node that was taken, the number of its label
}

// take takes the next node of a document.
func (c *count) take(n api.Node) {
	p := part{document, n.Name}
	ahead := ""
	if n.Up >= 0 {
		p.ahead = c.of[n.Up]
		ahead = c.labels[p.ahead].Path
	}
	if n.Name == "" {
		p.name = text
	}
	k, ok := c.numbers[p]
	if !ok {
		k = len(c.labels)
		c.numbers[p] = k
		c.labels = append(c.labels, api.Label{Path: ahead + "/" + p.name})
	}
	c.labels[k].Count++
	c.of = append(c.of, k)
}

// leads tells whether a path of a spine leads to what a label stands for.
func leads(s *spine.Spine, label string) bool {
	rest, more := strings.CutPrefix(label, "/")
	if !more {
		return false
	}
	state := s.Start()
	for more {
		var name string
		name, rest, more = strings.Cut(rest, "/")
		if name == text && !more {
			return s.Text(state)
		}
		state = s.Next(state, name)
	}
	led, _ := s.Keep(state)
	return led
}
