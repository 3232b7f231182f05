package answer

import (
	"iter"
	"slices"
)

// asked is a condition, by its number, that is asked at a node.
type asked struct{ cond, node int }

// verdict is what was found out of a condition.
type verdict int

const (
	unknown verdict = iota
	holding
	failing
)

// search follows steps through a document.
type search struct {
	document
	conditions
	found map[asked]verdict // without it a condition within others would be asked anew for each node around
}

// led goes through the nodes to which steps lead from a node, each once (E1). Only those of the last step are found as one goes, and may be left.
func (s *search) led(steps []step, from int) iter.Seq[int] {
	at := []int{from}
	for i, one := range steps {
		if i == len(steps)-1 {
			return s.follow(one, at)
		}
		at = slices.Sorted(s.follow(one, at))
	}
	return slices.Values(at)
}

// follow goes through the nodes to which a step leads from some, which are rising.
func (s *search) follow(one step, from []int) iter.Seq[int] {
	around := s.kids(from)
	if one.deep {
		around = s.within(from)
	}
	return func(yield func(int) bool) {
	nodes:
		for k := range around {
			if !s.fits(one.test, k) {
				continue
			}
			for _, c := range one.conds {
				if !s.holds(c, k) {
					continue nodes
				}
			}
			if !yield(k) {
				return
			}
		}
	}
}

// holds tells whether a condition holds for a node, and keeps that, if it may be asked again.
func (s *search) holds(c, k int) bool {
	if !s.conditions[c].again {
		return s.findOut(c, k)
	}
	q := asked{c, k}
	v := s.found[q]
	if v == unknown {
		v = failing
		if s.findOut(c, k) {
			v = holding
		}
		s.found[q] = v
	}
	return v == holding
}

// findOut goes by the words of E2.
func (s *search) findOut(c, k int) bool {
	one := s.conditions[c]
	switch one.op {
	case "or":
		return slices.ContainsFunc(one.kids, func(kid int) bool { return s.holds(kid, k) })
	case "and":
		return !slices.ContainsFunc(one.kids, func(kid int) bool { return !s.holds(kid, k) })
	case "not":
		return !s.holds(one.kids[0], k)
	}
	for v := range s.values(one, k) {
		if one.op == "has" || (v == one.text) == (one.op == "=") {
			return true
		}
	}
	return false
}

// values goes through the values of a condition at a node (E2).
func (s *search) values(c cond, k int) iter.Seq[string] {
	return func(yield func(string) bool) {
		for at := range s.led(c.steps, k) {
			if c.attr == "" {
				if !yield(s.value(at)) {
					return
				}
				continue
			}
			for _, a := range s.nodes[at].Attrs {
				if a.Name == c.attr && !yield(a.Value) {
					return
				}
			}
		}
	}
}
