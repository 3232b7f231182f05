package pipe

import (
	"math"
	"reflect"
	"runtime"
	"strings"
	"testing"
	"time"

	"prune/api"
	"prune/cut"
	"prune/samples"
)

var (
	chunks = []int{1, 2, 3, 7, 10000}
	rooms  = [][2]int{{0, 0}, {0, 3}, {1, 0}, {2, 1}, {100, 100}}
	long   = "/" + strings.Repeat("a", 500)
	deep   = strings.Repeat("<a>", 31)
)

type sample struct {
	doc       string
	queries   []string
	text      string
	no        api.Errno
	at, which int
}

var table = []sample{
	{"<a/>", nil, "<a/>", api.OK, 0, 0},
	{"\n<a k='&#10;'>x<b/></a>\n", nil, `<a k="&#10;"/>`, api.OK, 0, 0},
	{"<a><b>x<c/></b><d><e/></d></a>", []string{"/a/b"}, "<a><b>x<c/></b></a>", api.OK, 0, 0},
	{`<a>x<d k="1"><e/></d><f/>y</a>`, []string{"/a/text()"}, `<a>x<d k="1"/>y</a>`, api.OK, 0, 0},
	{"<a><b>é&lt;</b><c/></a>", []string{"/a[b]/d", "//text()"}, "<a><b>é&lt;</b></a>", api.OK, 0, 0},
	{"<a/><!--c--><?o?> ", []string{"//b"}, "<a/>", api.OK, 0, 0},
	// a token that R1 refuses, whatever stands behind it
	{"<a><b>x</b></c>", []string{"/a/b"}, "", api.ErrMatch, 11, 0},
	{"</a>", nil, "", api.ErrMatch, 0, 0},
	{"<a></b>" + strings.Repeat("<a>x</a>", 300), []string{"//a"}, "", api.ErrMatch, 3, 0},
	{"<a></b>" + strings.Repeat("x", 3000) + "<\xff", []string{"//a"}, "", api.ErrMatch, 3, 0},
	{"<a/><b/><c/><d/><e/>", []string{"/a"}, "", api.ErrRoot, 4, 0},
	{"<a/>x", nil, "", api.ErrRoot, 4, 0},
	{" x<a/>", nil, "", api.ErrRoot, 0, 0},
	{deep + strings.Repeat("</a>", 31), []string{"//a"}, "", api.ErrDeep, 90, 0},
	{"<a/><b/>&", nil, "", api.ErrRoot, 4, 0},
	// what T1 says of the text, behind tokens in which nothing is wrong
	{"<a><b", []string{"/a/b"}, "", api.ErrForm, 5, 0},
	{"<a/><", nil, "", api.ErrForm, 5, 0},
	{"<a>\xff</a>", []string{"//text()"}, "", api.ErrChar, 3, 0},
	{"<a>x&b;</a></b>", nil, "", api.ErrRef, 4, 0},
	{"<a k='' k=''/><b/>", nil, "", api.ErrTwice, 8, 0},
	{"<a>" + strings.Repeat("<b/>", 300) + "&", []string{"//b"}, "", api.ErrRef, 1203, 0},
	// the end
	{"", nil, "", api.ErrForm, 0, 0},
	{" <!--c-->", []string{"/a"}, "", api.ErrForm, 9, 0},
	{"<a>", []string{"/a"}, "", api.ErrForm, 3, 0},
	{"<a><b></b>x", []string{"//b"}, "", api.ErrForm, 11, 0},
	// the queries' errors come first
	{"<a/>", []string{"/"}, "", api.ErrForm, 1, 1},
	{"<a></b>", []string{"/a", "/a[", "/"}, "", api.ErrForm, 3, 2},
	{"", []string{"/a", "/b", "/\xff"}, "", api.ErrChar, 1, 3},
	{"<", []string{long}, "", api.ErrLong, 0, 1},
	{"<a/>", []string{"/a", "/a[((((((((b))))))))]"}, "", api.ErrDeep, 10, 2},
}

func TestRun(t *testing.T) {
	for _, c := range table {
		for _, chunk := range chunks {
			for _, room := range rooms {
				if s, no, at, which := Run(c.doc, c.queries, chunk, room[0], room[1]); s != c.text || no != c.no || at != c.at || which != c.which {
					t.Errorf("I1: Run(%.40q, %.20q, %d, %v) = %q, %d, %d, %d, want %q, %d, %d, %d", c.doc, c.queries, chunk, room, s, no, at, which, c.text, c.no, c.at, c.which)
				}
			}
		}
	}
}

func TestRunOutOfRange(t *testing.T) {
	for _, c := range [][3]int{
		{0, 1, 1}, {-1, 1, 1}, {10001, 1, 1}, {math.MinInt, 0, 0}, {math.MaxInt, 100, 100},
		{1, -1, 0}, {1, 101, 0}, {10000, 0, -1}, {10000, 100, 101}, {5, math.MinInt, 5}, {5, 5, math.MaxInt}, {5, math.MaxInt, math.MinInt},
	} {
		for _, doc := range []string{"<a/>", "<a></b>", ""} {
			for _, queries := range [][]string{nil, {"/a"}, {"["}} { // ahead of what is wrong with these
				if s, no, at, which := Run(doc, queries, c[0], c[1], c[2]); s != "" || no != api.ErrRange || at != 0 || which != 0 {
					t.Errorf("I1: Run(%q, %q, %v) = %q, %d, %d, %d", doc, queries, c, s, no, at, which)
				}
			}
		}
	}
	for _, c := range [][3]int{{1, 0, 0}, {10000, 100, 100}, {1, 0, 100}, {10000, 100, 0}} {
		if s, no, _, _ := Run("<a/>", nil, c[0], c[1], c[2]); s != "<a/>" || no != api.OK {
			t.Errorf("I1: %v: %q, %d", c, s, no)
		}
	}
}

func TestAll(t *testing.T) {
	var docs []string
	var want []Result
	for _, c := range table {
		if c.which == 0 {
			s, no, at, _ := cut.Project(c.doc, []string{"/a/b", "//text()"})
			docs = append(docs, c.doc)
			want = append(want, Result{s, no, at})
		}
	}
	for workers := 1; workers <= 16; workers++ {
		for _, n := range []int{0, 1, 2, len(docs)} {
			l, no, at, which := All(docs[:n], []string{"/a/b", "//text()"}, workers)
			if len(l) != n || n > 0 && !reflect.DeepEqual(l, want[:n]) || no != api.OK || at != 0 || which != 0 {
				t.Errorf("I2: of %d documents by %d: %v, %d, %d, %d, want %v", n, workers, l, no, at, which, want[:n])
			}
		}
	}
	l, _, _, _ := All([]string{"<a>x<b/></a>", "<a></b>", "<a><b/><b>y</b></a>", ""}, []string{"//b"}, 2)
	if !reflect.DeepEqual(l, []Result{{"<a><b/></a>", api.OK, 0}, {"", api.ErrMatch, 3}, {"<a><b/><b>y</b></a>", api.OK, 0}, {"", api.ErrForm, 0}}) {
		t.Errorf("I2: %v", l)
	}
}

func TestAllErrors(t *testing.T) {
	for _, c := range []struct {
		queries   []string
		workers   int
		no        api.Errno
		at, which int
	}{
		{nil, 0, api.ErrRange, 0, 0}, {nil, -1, api.ErrRange, 0, 0}, {[]string{"/a"}, 17, api.ErrRange, 0, 0}, {nil, math.MinInt, api.ErrRange, 0, 0}, {nil, math.MaxInt, api.ErrRange, 0, 0},
		// the number comes first
		{[]string{"/"}, 0, api.ErrRange, 0, 0}, {[]string{"/a", "["}, 17, api.ErrRange, 0, 0},
		{[]string{"/a", "/"}, 1, api.ErrForm, 1, 2}, {[]string{"["}, 16, api.ErrForm, 0, 1}, {[]string{"/a", "/b", "/c\xff", "/"}, 3, api.ErrChar, 2, 3}, {[]string{long}, 2, api.ErrLong, 0, 1},
	} {
		for _, docs := range [][]string{nil, {"<a/>"}, {"<a></b>", ""}} {
			if l, no, at, which := All(docs, c.queries, c.workers); l != nil || no != c.no || at != c.at || which != c.which {
				t.Errorf("I2: All(%q, %.20q, %d) = %v, %d, %d, %d, want %d, %d, %d", docs, c.queries, c.workers, l, no, at, which, c.no, c.at, c.which)
			}
		}
	}
}

// Documents that numbers choose, some of them wrong: nothing hangs on how the work is done.
func TestAgainstProject(t *testing.T) {
	wrong := 0
	for i := range 300 {
		d := samples.Dice(i * 17)
		queries := d.Queries()
		var docs []string
		var want []Result
		for range d.Below(20) {
			doc := d.Of(d.Document(), d.Spoiled())
			s, no, at, _ := cut.Project(doc, queries)
			docs = append(docs, doc)
			want = append(want, Result{s, no, at})
			chunk, c1, c2 := 1+d.Below(20), d.Below(5), d.Below(5)
			if got, e, place, which := Run(doc, queries, chunk, c1, c2); got != s || e != no || place != at || which != 0 {
				t.Fatalf("I1, I3: Run(%q, %q, %d, %d, %d) = %q, %d, %d, %d, want %q, %d, %d", doc, queries, chunk, c1, c2, got, e, place, which, s, no, at)
			}
			if no != api.OK {
				wrong++
			}
		}
		workers := 1 + d.Below(16)
		if l, no, _, _ := All(docs, queries, workers); len(l) != len(want) || len(l) > 0 && !reflect.DeepEqual(l, want) || no != api.OK {
			t.Fatalf("I2, I3: All(%q, %q, %d) = %v, %d, want %v", docs, queries, workers, l, no, want)
		}
	}
	if wrong < 500 {
		t.Errorf("only %d documents are wrong", wrong)
	}
}

// ended tells whether so few goroutines are there, or will be at once: one that has done its work may not have left yet.
func ended(few int) bool {
	for range 1000 {
		if runtime.NumGoroutine() <= few {
			return true
		}
		time.Sleep(time.Millisecond)
	}
	return false
}

func TestNothingGoesOn(t *testing.T) {
	few := runtime.NumGoroutine()
	var docs []string
	for _, c := range table {
		docs = append(docs, c.doc)
		for _, room := range rooms {
			Run(c.doc, c.queries, 5, room[0], room[1])
			if !ended(few) {
				t.Fatalf("I3: behind Run(%.40q, %.20q, 5, %v) there are %d goroutines, and there were %d", c.doc, c.queries, room, runtime.NumGoroutine(), few)
			}
		}
	}
	All(docs, []string{"//b"}, 16)
	All(docs, []string{"["}, 16)
	if !ended(few) {
		t.Errorf("I3: behind All there are %d goroutines, and there were %d", runtime.NumGoroutine(), few)
	}
}

func TestNothingIsShared(t *testing.T) {
	docs, queries := []string{"<a><b/></a>", "<b/>", "<"}, []string{"/a/b", "//c"}
	first, _, _, _ := All(docs, queries, 3)
	second, _, _, _ := All(docs, queries, 2)
	want := []Result{{"<a><b/></a>", api.OK, 0}, {"<b/>", api.OK, 0}, {"", api.ErrForm, 1}}
	clear(first)
	_ = append(first, Result{At: 7})
	if !reflect.DeepEqual(second, want) {
		t.Errorf("G4: %v", second)
	}
	Run(docs[0], queries, 1, 0, 0)
	if !reflect.DeepEqual(docs, []string{"<a><b/></a>", "<b/>", "<"}) || !reflect.DeepEqual(queries, []string{"/a/b", "//c"}) {
		t.Errorf("G4: %q, %q", docs, queries)
	}
}

func TestLong(t *testing.T) {
	n := 20000
	doc := "<r>" + strings.Repeat("x<a k='1'><b>x</b></a><c/>", n) + "</r>"
	for q, want := range map[string]string{"/z": "<r/>", "/r/text()": "<r>" + strings.Repeat("x<a k=\"1\"/>", n-1) + "x</r>", "//b": "<r>" + strings.Repeat("<a k=\"1\"><b>x</b></a>", n) + "</r>"} {
		for _, chunk := range []int{1, 1000} {
			if s, no, _, _ := Run(doc, []string{q}, chunk, 0, 0); s != want || no != api.OK {
				t.Errorf("I1: %q: %d bytes, %d, want %d", q, len(s), no, len(want))
			}
		}
	}
	docs := make([]string, n)
	for i := range docs {
		docs[i] = "<a>" + strings.Repeat("<b/>", i%5) + "x</a>"
	}
	l, no, _, _ := All(docs, []string{"//b"}, 16)
	if len(l) != n || no != api.OK || l[n-1].Text != "<a><b/><b/><b/><b/></a>" || l[n-5].Text != "<a/>" {
		t.Errorf("I2: %d results, %d", len(l), no)
	}
}
