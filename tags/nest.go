package tags

import (
	"strings"

	"prune/api"
)

const (
	maxDepth = 30
	blanks   = "\t\n\r "
)

// Nest holds the tokens of a text against those ahead of them.
type Nest struct {
	open   []string // the names of the elements that are open
	rooted bool     // whether there was an opening tag
}

// Take tells what R1 says of the next token. One that is wrong changes nothing.
func (n *Nest) Take(t api.Token) api.Errno {
	switch t.Kind {
	case Opening:
		return n.opening(t.Name)
	case Closing:
		return n.closing(t.Name)
	}
	return n.text(t.Text)
}

// Whole tells whether the tokens so far are those of a document.
func (n *Nest) Whole() bool { return n.rooted && len(n.open) == 0 }

func (n *Nest) opening(name string) api.Errno {
	if n.Whole() {
		return api.ErrRoot
	}
	if len(n.open) == maxDepth {
		return api.ErrDeep
	}
	n.open = append(n.open, name)
	n.rooted = true
	return api.OK
}

func (n *Nest) closing(name string) api.Errno {
	last := len(n.open) - 1
	if last < 0 || n.open[last] != name {
		return api.ErrMatch
	}
	n.open = n.open[:last]
	return api.OK
}

func (n *Nest) text(s string) api.Errno {
	if len(n.open) == 0 && strings.Trim(s, blanks) != "" {
		return api.ErrRoot
	}
	return api.OK
}
