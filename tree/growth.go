package tree

import (
	"strings"

	"prune/api"
)

const (
	maxDepth = 30
	none     = -1 // the number of no node
	blanks   = "\t\n\r "
)

// growth is a document's nodes as far as its tokens have come.
type growth struct {
	nodes []api.Node
	open  int // the element that was opened last, of those that are open
	depth int // how many are open
}

func (g *growth) take(t api.Token) api.Errno {
	switch t.Kind {
	case 1:
		return g.opening(t)
	case 2:
		return g.closing(t)
	}
	return g.text(t)
}

func (g *growth) opening(t api.Token) api.Errno {
	if g.depth == 0 && g.nodes != nil {
		return api.ErrRoot
	}
	if g.depth == maxDepth {
		return api.ErrDeep
	}
	g.open = g.add(api.Node{Name: t.Name, Attrs: t.Attrs})
	g.depth++
	return api.OK
}

func (g *growth) closing(t api.Token) api.Errno {
	if g.open == none || g.nodes[g.open].Name != t.Name {
		return api.ErrMatch
	}
	g.open = g.nodes[g.open].Up
	g.depth--
	return api.OK
}

func (g *growth) text(t api.Token) api.Errno {
	if g.open != none {
		g.add(api.Node{Text: t.Text})
	} else if strings.Trim(t.Text, blanks) != "" {
		return api.ErrRoot
	}
	return api.OK
}

// add puts a node into the open element, and answers its number.
func (g *growth) add(n api.Node) int {
	k := len(g.nodes)
	n.Up = g.open
	if g.open != none {
		around := &g.nodes[g.open]
		around.Kids = append(around.Kids, k)
	}
	g.nodes = append(g.nodes, n)
	return k
}
