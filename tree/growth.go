package tree

import (
	"prune/api"
	"prune/tags"
)

const none = -1 // the number of no node

// growth is a document's nodes as far as its tokens have come.
type growth struct {
	nest  tags.Nest
	nodes []api.Node
	open  int // the element that was opened last, of those that are open
}

// take puts a token's node where it belongs, unless the token is wrong.
func (g *growth) take(t api.Token) api.Errno {
	if no := g.nest.Take(t); no != api.OK {
		return no
	}
	switch t.Kind {
	case tags.Opening:
		g.open = g.add(api.Node{Name: t.Name, Attrs: t.Attrs})
	case tags.Closing:
		g.open = g.nodes[g.open].Up
	default:
		if g.open != none {
			g.add(api.Node{Text: t.Text})
		}
	}
	return api.OK
}

// add puts a node into the open element, and answers its number.
func (g *growth) add(n api.Node) int {
	k := len(g.nodes)
	n.Up = g.open
	if g.open != none {
		around := &g.nodes[g.open]
		around.Kids = append(around.Kids, k)
	}
	g.nodes = append(g.nodes, n)
	return k
}
