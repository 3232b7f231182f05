package spine

import (
	"slices"

	"prune/api"
	"prune/query"
	"prune/steps"
)

const text = steps.Text

// taker takes needed paths, as they are found: their steps, of which the conditions are not looked at, and whether they are whole.
type taker func(path []api.Step, whole bool)

// queries finds the needed paths of queries, up to the first one that is wrong.
func (take taker) queries(queries []string) (api.Errno, int, int) {
	for i, q := range queries {
		paths, no, at := query.Parse(q)
		if no != api.OK {
			return no, at, i + 1
		}
		for _, path := range paths {
			take.along(nil, path, true)
		}
	}
	return api.OK, 0, 0
}

// along finds what is needed along steps behind others: for their conditions, and at their end (S1).
func (take taker) along(ahead, path []api.Step, whole bool) {
	for i, s := range path {
		for _, c := range s.Preds {
			take.cond(slices.Concat(ahead, path[:i+1]), c)
		}
	}
	all := slices.Concat(ahead, path)
	take(all, whole && all[len(all)-1].Test != text)
}

// cond finds what is needed for a condition at some steps (S1).
func (take taker) cond(at []api.Step, c api.Pred) {
	switch c.Op {
	case "or", "and", "not":
		for _, kid := range c.Kids {
			take.cond(at, kid)
		}
	default:
		take.along(at, c.Steps, c.Op != "has" && c.Attr == "")
	}
}

// written tells a needed path in its plain form (S1).
func written(path []api.Step, whole bool) string {
	if whole {
		return steps.Bare(path) + "#"
	}
	return steps.Bare(path)
}
