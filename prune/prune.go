// Package prune: questions over documents: see doc/11-prune.md.
package prune

import "prune/api"

// Options are how the work is done.
type Options struct{ Chunk, Cap, Workers int }

// Found is what a query leads to in a document.
type Found struct {
	Doc   int
	Query int
	Texts []string
}

// Answers answers queries over documents (N1).
func Answers(docs []string, queries []string, o Options) ([]Found, api.Errno, int, int, int) {
	return nil, api.OK, 0, 0, 0
}
