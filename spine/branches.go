package spine

import (
	"slices"

	"prune/api"
)

// mark is a step without its conditions.
type mark struct {
	deep bool
	test string
}

// fits tells whether a step leads to an element of a name, which may be any text.
func (m mark) fits(name string) bool {
	return m.test == "*" || m.test == name && name != text
}

// branch stands for the beginning of some needed paths.
type branch struct {
	mark          // of its last step
	kids          map[mark]int
	needed, whole bool // whether it is all of a needed path, and of a whole one
}

// branches are the needed paths as a tree; the first one is that of no steps.
type branches []branch

func newBranches() branches { return branches{{kids: map[mark]int{}}} }

// grow takes a needed path in, unless it leads to nothing.
func (b *branches) grow(steps []api.Step, whole bool) {
	if leadsNowhere(steps) {
		return
	}
	at := 0
	for _, s := range steps {
		at = b.kid(at, mark{s.Deep, s.Test})
	}
	end := &(*b)[at]
	end.needed = true
	end.whole = end.whole || whole
}

// leadsNowhere tells of steps behind a text, and of a text right within the document.
func leadsNowhere(steps []api.Step) bool {
	end := len(steps) - 1
	inner := slices.ContainsFunc(steps[:end], func(s api.Step) bool { return s.Test == text })
	return inner || end == 0 && steps[0].Test == text && !steps[0].Deep
}

// kid tells the number of the branch behind another, and makes it if it is new.
func (b *branches) kid(at int, m mark) int {
	kids := (*b)[at].kids
	k, ok := kids[m]
	if !ok {
		k = len(*b)
		kids[m] = k
		*b = append(*b, branch{mark: m, kids: map[mark]int{}})
	}
	return k
}
