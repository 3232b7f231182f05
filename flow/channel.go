package flow

import (
	"slices"

	"prune/api"
)

// line is tokens, of which the first one goes first.
type line []api.Token

func (l *line) put(t api.Token) { *l = append(*l, t) }

func (l *line) take() api.Token {
	t := (*l)[0]
	*l = slices.Delete(*l, 0, 1)
	return t
}

// channel is a line with so much room.
type channel struct {
	line
	room int
}

func (c *channel) full() bool { return len(c.line) == c.room }
