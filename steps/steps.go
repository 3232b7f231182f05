// Package steps: how the steps of a path are written (doc/04-query.md, Q3), but for their conditions.
package steps

import (
	"strings"

	"prune/api"
)

// Text is the Test of a step that leads to texts.
const Text = "#"

// Slash is what stands ahead of a step.
func Slash(s api.Step) string {
	if s.Deep {
		return "//"
	}
	return "/"
}

// Test is what a step leads to.
func Test(s api.Step) string {
	if s.Test == Text {
		return "text()"
	}
	return s.Test
}

// Bare is a path without its conditions.
func Bare(path []api.Step) string {
	var w strings.Builder
	for _, s := range path {
		w.WriteString(Slash(s) + Test(s))
	}
	return w.String()
}
