package answer

import "prune/api"

// step is a step of a path, with the numbers of its conditions.
type step struct {
	deep  bool
	test  string
	conds []int
}

// cond is a condition, with the numbers of its Kids.
type cond struct {
	again bool // whether it may be asked at one node again: if it stands at a step of another, whose steps lead there from several nodes
	op    string
	kids  []int
	steps []step
	attr  string
	text  string
}

// conditions are those of a query, each at its number.
type conditions []cond

// steps takes in the conditions of steps: those of a path, or (inner) of another condition. Several of an inner one are taken in as one, so that no more is kept of them.
func (c *conditions) steps(steps []api.Step, inner bool) []step {
	var all []step
	for _, s := range steps {
		preds := s.Preds
		if inner && len(preds) > 1 {
			preds = []api.Pred{{Op: "and", Kids: preds}}
		}
		all = append(all, step{s.Deep, s.Test, c.numbers(preds, inner)})
	}
	return all
}

// numbers takes conditions in, and tells their numbers.
func (c *conditions) numbers(preds []api.Pred, again bool) []int {
	var all []int
	for _, p := range preds {
		one := cond{again, p.Op, c.numbers(p.Kids, false), c.steps(p.Steps, true), p.Attr, p.Text}
		all = append(all, len(*c))
		*c = append(*c, one)
	}
	return all
}
