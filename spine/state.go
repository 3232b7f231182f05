package spine

import (
	"maps"
	"slices"
	"strconv"
)

// state is what names have led to.
type state struct {
	due           []int // the branches whose last steps may lead to what stands right within, or (deep) anywhere within; rising
	needed, whole bool
	text          bool
}

func (b branches) start() state {
	return state{due: slices.Sorted(maps.Values(b[0].kids))}
}

// next tells what a name leads to.
func (b branches) next(from state, name string) state {
	to := state{whole: from.whole}
	for _, k := range from.due {
		one := b[k]
		if one.deep {
			to.due = append(to.due, k)
		}
		if one.fits(name) {
			to.needed = to.needed || one.needed
			to.whole = to.whole || one.whole
			to.due = slices.AppendSeq(to.due, maps.Values(one.kids))
		}
	}
	slices.Sort(to.due)
	to.due = slices.Compact(to.due)
	to.text = slices.ContainsFunc(to.due, func(k int) bool { return b[k].test == text })
	return to
}

// key tells states apart.
func (x state) key() string {
	var key []byte
	for _, is := range []bool{x.needed, x.whole, x.text} {
		key = strconv.AppendBool(key, is)
	}
	for _, k := range x.due {
		key = strconv.AppendInt(append(key, ' '), int64(k), 10)
	}
	return string(key)
}
