// Package pipe: the three stages at once: see doc/09-pipe.md.
package pipe

import "prune/api"

// Result is a document's projection, or what is wrong with it.
type Result struct {
	Text string
	Err  api.Errno
	At   int
}

// Run projects a document by three goroutines (I1).
func Run(doc string, queries []string, chunk int, c1 int, c2 int) (string, api.Errno, int, int) {
	return "", api.OK, 0, 0
}

// All projects documents by several goroutines (I2).
func All(docs []string, queries []string, workers int) ([]Result, api.Errno, int, int) {
	return nil, api.OK, 0, 0
}
