// Package query: what is asked: see doc/04-query.md.
package query

import (
	"prune/api"
	"prune/chars"
)

const maxQuery = 500

// Parse tells a query's paths (Q1, Q2).
func Parse(q string) (paths [][]api.Step, no api.Errno, at int) {
	if len(q) > maxQuery {
		return nil, api.ErrLong, 0
	}
	defer func() {
		if end, ok := recover().(thrown); ok {
			paths, no, at = nil, end.no, end.at
		}
	}()
	// Behind a byte at which no character begins nothing is read, so that it is found where the text seems to end.
	r := reading{text: q[:chars.Bad(q)], whole: len(q)}
	return r.query(), api.OK, 0
}

// Print writes a query in its plain form (Q3).
func Print(q string) (string, api.Errno, int) {
	paths, no, at := Parse(q)
	if no != api.OK {
		return "", no, at
	}
	var w writer
	w.query(paths)
	return w.String(), api.OK, 0
}
