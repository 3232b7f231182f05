package prune

import (
	"slices"
	"strconv"
	"sync"
	"testing"
	"testing/synctest"
)

// taken tells all that comes over a channel.
func taken[A any](from <-chan A) []A {
	var all []A
	for x := range from {
		all = append(all, x)
	}
	return all
}

func TestDeal(t *testing.T) {
	items := []string{"a", "b", "c", "d", "e"}
	for _, c := range []struct {
		first, step int
		want        []string
	}{{0, 1, items}, {0, 2, []string{"a", "c", "e"}}, {1, 2, []string{"b", "d"}}, {4, 16, []string{"e"}}, {5, 1, nil}, {7, 16, nil}} {
		var all sync.WaitGroup
		if l := taken(deal(&all, items, c.first, c.step)); !slices.Equal(l, c.want) {
			t.Errorf("N2: from %d on by %d: %q, want %q", c.first, c.step, l, c.want)
		}
		all.Wait()
	}
}

// What is done goes on in the order in which items come, and whatever their types are.
func TestWork(t *testing.T) {
	synctest.Test(t, func(t *testing.T) {
		var all sync.WaitGroup
		texts := work(&all, deal(&all, []int{3, 1, 2}, 0, 1), strconv.Itoa)
		pairs := work(&all, texts, func(s string) []string { return []string{s, s + s} })
		synctest.Wait()
		if first := <-pairs; !slices.Equal(first, []string{"3", "33"}) {
			t.Errorf("N2: %q", first)
		}
		if rest := taken(pairs); len(rest) != 2 || rest[0][1] != "11" || rest[1][0] != "2" {
			t.Errorf("N2: %q", rest)
		}
		all.Wait()
	})
}

// Of a text that is a plain form each node is a part.
func TestParts(t *testing.T) {
	for plain, want := range map[string][]string{
		"<a/>": {"<a/>"}, "<a>x</a>": {"<a>x</a>", "x"}, `<a k="/&gt;"/>`: {`<a k="/&gt;"/>`}, "<a><b/>&lt;<b><c/>y</b></a>": {"<a><b/>&lt;<b><c/>y</b></a>", "<b/>", "&lt;", "<b><c/>y</b>", "<c/>", "y"}, "<a><b>é</b><c/></a>": {"<a><b>é</b><c/></a>", "<b>é</b>", "é", "<c/>"},
	} {
		var got []string
		for _, p := range parts(plain) {
			got = append(got, p.of(plain))
		}
		if !slices.Equal(got, want) {
			t.Errorf("R3: %q: %q, want %q", plain, got, want)
		}
	}
}
