// Package answer: what a query means: see doc/05-answer.md.
package answer

import (
	"slices"

	"prune/api"
	"prune/query"
	"prune/tree"
)

// Eval tells to which nodes a query leads (E3).
func Eval(doc string, q string) ([]int, api.Errno, int, int) {
	paths, no, at := query.Parse(q)
	if no != api.OK {
		return nil, no, at, 1
	}
	nodes, no, at := tree.Parse(doc)
	if no != api.OK {
		return nil, no, at, 2
	}
	s := search{document: newDocument(nodes), found: map[asked]verdict{}}
	var all []int
	for _, path := range paths {
		all = slices.AppendSeq(all, s.led(s.steps(path, false), root))
	}
	slices.Sort(all)
	return slices.Compact(all), api.OK, 0, 0
}
