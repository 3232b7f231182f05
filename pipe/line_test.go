package pipe

import (
	"strings"
	"sync"
	"testing"
	"testing/synctest"

	"prune/api"
	"prune/cut"
)

func lineOf(t *testing.T, doc, q string, chunk, c1, c2 int) *line {
	t.Helper()
	cutter, no, at, _ := cut.New([]string{q})
	if no != api.OK {
		t.Fatalf("%q: %d at %d", q, no, at)
	}
	return newLine(doc, cutter, chunk, c1, c2)
}

// Each goroutine goes as far as it can without those behind it: that tells how much room there is.
func TestRooms(t *testing.T) {
	doc := "<a>" + strings.Repeat("<b>x</b>", 100) + "</a>"
	for _, c := range []struct{ chunk, c1, c2 int }{{1, 0, 0}, {1, 3, 0}, {2, 0, 4}, {50, 7, 5}, {10000, 100, 100}} {
		synctest.Test(t, func(t *testing.T) {
			l := lineOf(t, doc, "//b", c.chunk, c.c1, c.c2)
			var all sync.WaitGroup
			all.Go(l.read)
			synctest.Wait()
			if len(l.first) != c.c1 || len(l.second) != 0 {
				t.Errorf("I1: %v: behind the reader %d and %d are held", c, len(l.first), len(l.second))
			}
			all.Go(l.prune)
			synctest.Wait()
			if len(l.first) != c.c1 || len(l.second) != c.c2 {
				t.Errorf("I1: %v: behind the pruner %d and %d are held", c, len(l.first), len(l.second))
			}
			all.Go(l.write)
			all.Wait()
			if l.text.String() != doc || l.no != api.OK || l.isKnown() {
				t.Errorf("I1: %v: %q, %d", c, l.text.String(), l.no)
			}
		})
	}
}

// Where something is wrong the reader ends, though nobody takes what it has, and though nothing comes of what it reads.
func TestReaderEnds(t *testing.T) {
	for _, doc := range []string{"<a></b>" + strings.Repeat("<c/>", 1000), "<a></b><c>" + strings.Repeat("x", 100000)} {
		synctest.Test(t, func(t *testing.T) {
			l := lineOf(t, doc, "//b", 1, 0, 1)
			var all sync.WaitGroup
			all.Go(l.read)
			all.Go(l.prune)
			all.Wait()
			if _, ok := <-l.second; !ok || l.no != api.ErrMatch || l.at != 3 {
				t.Errorf("I1: %d at %d", l.no, l.at)
			}
		})
	}
	l := lineOf(t, "x<", "//b", 1, 0, 0)
	l.tell(api.ErrMatch, 0)
	l.read()
	l.reader.Close() // tells of the bytes that were read
	if _, ok := <-l.first; ok {
		t.Errorf("I1: a token behind something wrong")
	}
	if no, _ := l.reader.Err(); no != api.OK {
		t.Errorf("I1: bytes are read behind something wrong")
	}
}

// Of what is told the first counts.
func TestTell(t *testing.T) {
	f := fault{known: make(chan struct{})}
	if f.isKnown() {
		t.Errorf("I1: known ahead of all")
	}
	f.tell(api.ErrRef, 7)
	f.tell(api.ErrForm, 9)
	if !f.isKnown() || f.no != api.ErrRef || f.at != 7 {
		t.Errorf("I1: %v, %d, %d", f.isKnown(), f.no, f.at)
	}
}
