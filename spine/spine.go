// Package spine: which nodes a query can touch: see doc/06-spine.md.
package spine

import "prune/api"

// Paths tells the needed paths of queries (S2).
func Paths(queries []string) ([]string, api.Errno, int, int) {
	var all []string
	first := map[string]int{}
	take := taker(func(steps []api.Step, whole bool) {
		path := written(steps, whole)
		if _, ok := first[path]; !ok {
			first[path] = len(all)
			all = append(all, path)
		}
	})
	if no, at, which := take.queries(queries); no != api.OK {
		return nil, no, at, which
	}
	return all, api.OK, 0, 0
}

// Spine follows names from the document's first element on. Make it by New.
type Spine struct {
	branches branches
	states   []state        // those that were answered, each at its number
	numbers  map[string]int // of the states, by their keys
}

// New makes a spine (S3).
func New(queries []string) (*Spine, api.Errno, int, int) {
	s := &Spine{branches: newBranches(), numbers: map[string]int{}}
	take := taker(s.branches.grow)
	if no, at, which := take.queries(queries); no != api.OK {
		return nil, no, at, which
	}
	return s, api.OK, 0, 0
}

// Start is the state of the document (S3).
func (s *Spine) Start() int {
	return s.number(s.branches.start())
}

// Next is the state of an element within (S3).
func (s *Spine) Next(state int, name string) int {
	if !s.answered(state) {
		return -1
	}
	return s.number(s.branches.next(s.states[state], name))
}

// Keep tells whether a path leads to an element, and whether all of it is needed (S3).
func (s *Spine) Keep(state int) (bool, bool) {
	if !s.answered(state) {
		return false, false
	}
	return s.states[state].needed, s.states[state].whole
}

// Text tells whether a path leads to texts within an element (S3).
func (s *Spine) Text(state int) bool {
	return s.answered(state) && s.states[state].text
}

// Live tells whether a path can lead on (S3).
func (s *Spine) Live(state int) bool {
	return s.answered(state) && len(s.states[state].due) > 0
}

func (s *Spine) answered(state int) bool {
	return state >= 0 && state < len(s.states)
}

// number tells the number of a state, and gives it one if it is new.
func (s *Spine) number(x state) int {
	key := x.key()
	n, ok := s.numbers[key]
	if !ok {
		n = len(s.states)
		s.numbers[key] = n
		s.states = append(s.states, x)
	}
	return n
}
