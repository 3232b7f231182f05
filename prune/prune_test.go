package prune

import (
	"math"
	"reflect"
	"runtime"
	"strings"
	"testing"
	"time"

	"prune/answer"
	"prune/api"
	"prune/samples"
	"prune/tree"
)

var some = []Options{{1, 0, 1}, {3, 1, 2}, {7, 100, 16}, {10000, 0, 5}, {10000, 100, 1}}

// found tells texts as they are to be found: for each document, for each query.
func found(queries int, texts ...[]string) []Found {
	var all []Found
	for i, l := range texts {
		all = append(all, Found{1 + i/queries, 1 + i%queries, l})
	}
	return all
}

func TestAnswers(t *testing.T) {
	for _, c := range []struct {
		docs, queries []string
		want          []Found
	}{
		{[]string{"<a><b>x</b>y<b/></a>", "<b/>"}, []string{"/a/b", "//text()", "/a[b='x']/text()", "//b"}, found(4, []string{"<b>x</b>", "<b/>"}, []string{"x", "y"}, []string{"y"}, []string{"<b>x</b>", "<b/>"}, nil, nil, nil, []string{"<b/>"})},
		// no documents, no queries
		{nil, nil, nil}, {nil, []string{"/a"}, nil}, {[]string{"<a/>", "<b>x</b>"}, nil, nil},
		// one document or query twice
		{[]string{"<a/>", "<b/>", "<a/>"}, []string{"/a", "/a"}, found(2, []string{"<a/>"}, []string{"<a/>"}, nil, nil, []string{"<a/>"}, []string{"<a/>"})},
		// plain forms, whatever the document's own form is
		{[]string{"\n<a k='&#9;\"' >&gt;<![CDATA[<]]>\r<b ></b ><!--c--></a >\n"}, []string{"/*", "//text()", "//b"}, found(3, []string{"<a k=\"&#9;&quot;\">&gt;&lt;&#13;<b/></a>"}, []string{"&gt;&lt;&#13;"}, []string{"<b/>"})},
		// nodes within others, and what is around them
		{[]string{"<a><a>x<a/></a>y</a>"}, []string{"//a", "//a[text()='x']", "//a/text()|//a/a/a"}, found(3, []string{"<a><a>x<a/></a>y</a>", "<a>x<a/></a>", "<a/>"}, []string{"<a>x<a/></a>"}, []string{"x", "<a/>", "y"})},
		// texts between which all was left out
		{[]string{"<a>x<b><c/></b><d/>y<e/></a>"}, []string{"/a/text()", "/a[not(z)]/text()[.='y']"}, found(2, []string{"x", "y"}, []string{"y"})},
		{[]string{"<é>ü</é>", "<a>x</a>"}, []string{"/é/text()"}, found(1, []string{"ü"}, nil)},
	} {
		for _, o := range some {
			if l, no, at, which, doc := Answers(c.docs, c.queries, o); !reflect.DeepEqual(l, c.want) || no != api.OK || at != 0 || which != 0 || doc != 0 {
				t.Errorf("N1: Answers(%q, %q, %v) = %v, %d, %d, %d, %d, want %v", c.docs, c.queries, o, l, no, at, which, doc, c.want)
			}
		}
	}
}

func TestErrors(t *testing.T) {
	long := "/" + strings.Repeat("a", 500)
	deep := strings.Repeat("<a>", 31)
	for _, c := range []struct {
		docs, queries  []string
		no             api.Errno
		at, which, doc int
	}{
		// the queries' come first, that of the first one of them
		{nil, []string{"/"}, api.ErrForm, 1, 1, 0}, {[]string{"<"}, []string{"/a", "/"}, api.ErrForm, 1, 2, 0}, {[]string{"<a/>"}, []string{"/a", "/b", "/c\xff", "["}, api.ErrChar, 2, 3, 0}, {[]string{""}, []string{long, "/"}, api.ErrLong, 0, 1, 0}, {[]string{"<a/>"}, []string{"/a", "/a[((((((((b))))))))]"}, api.ErrDeep, 10, 2, 0}, {[]string{"</a>"}, []string{""}, api.ErrForm, 0, 1, 0},
		// then that of the first document
		{[]string{"<a/>", "<a>", "<"}, []string{"/a"}, api.ErrForm, 3, 0, 2}, {[]string{""}, nil, api.ErrForm, 0, 0, 1}, {[]string{"<a></b>", "<"}, []string{"/a"}, api.ErrMatch, 3, 0, 1}, {[]string{"<a/>", "<b/>", "<a/><b/>", "</a>"}, nil, api.ErrRoot, 4, 0, 3}, {[]string{"<a/>", "<a>\x00</a>"}, []string{"//text()"}, api.ErrChar, 3, 0, 2}, {[]string{"<a>&b;</a>"}, []string{"/b"}, api.ErrRef, 3, 0, 1}, {[]string{"<a k='' k=''/>"}, nil, api.ErrTwice, 8, 0, 1}, {[]string{"<a/>", deep}, []string{"/b"}, api.ErrDeep, 90, 0, 2}, {[]string{"<a/><b/><"}, nil, api.ErrRoot, 4, 0, 1}, {append(make([]string, 0, 40), strings.Split(strings.Repeat("<a/>,", 39)+"<a/>x", ",")...), []string{"/a"}, api.ErrRoot, 4, 0, 40},
	} {
		for _, o := range some {
			if l, no, at, which, doc := Answers(c.docs, c.queries, o); l != nil || no != c.no || at != c.at || which != c.which || doc != c.doc {
				t.Errorf("N1: Answers(%.40q, %.20q, %v) = %v, %d, %d, %d, %d, want %d, %d, %d, %d", c.docs, c.queries, o, l, no, at, which, doc, c.no, c.at, c.which, c.doc)
			}
		}
	}
}

func TestOutOfRange(t *testing.T) {
	for _, o := range []Options{
		{}, {0, 1, 1}, {-1, 1, 1}, {10001, 1, 1}, {math.MinInt, 1, 1}, {math.MaxInt, 1, 1},
		{1, -1, 1}, {1, 101, 1}, {1, math.MinInt, 1}, {1, math.MaxInt, 1},
		{1, 1, 0}, {1, 1, -1}, {1, 1, 17}, {1, 1, math.MinInt}, {1, 1, math.MaxInt},
	} {
		for _, docs := range [][]string{nil, {"<a/>"}, {"<"}} {
			for _, queries := range [][]string{nil, {"/a"}, {"/"}} { // ahead of what is wrong with these
				if l, no, at, which, doc := Answers(docs, queries, o); l != nil || no != api.ErrRange || at != 0 || which != 0 || doc != 0 {
					t.Errorf("N1: Answers(%q, %q, %v) = %v, %d, %d, %d, %d", docs, queries, o, l, no, at, which, doc)
				}
			}
		}
	}
	for _, o := range []Options{{1, 0, 1}, {10000, 100, 16}, {1, 100, 16}, {10000, 0, 1}} {
		if l, no, _, _, _ := Answers([]string{"<a/>"}, []string{"/a"}, o); !reflect.DeepEqual(l, found(1, []string{"<a/>"})) || no != api.OK {
			t.Errorf("N1: %v: %v, %d", o, l, no)
		}
	}
}

// whole answers by the words of N1, over documents that were not pruned.
func whole(docs, queries []string) ([]Found, api.Errno, int, int) {
	var all []Found
	for i, doc := range docs {
		if _, no, at := tree.Parse(doc); no != api.OK {
			return nil, no, at, i + 1
		}
		for j, q := range queries {
			led, _, _, _ := answer.Eval(doc, q)
			f := Found{Doc: i + 1, Query: j + 1}
			for _, k := range led {
				s, _, _ := tree.Sub(doc, k)
				f.Texts = append(f.Texts, s)
			}
			all = append(all, f)
		}
	}
	return all, api.OK, 0, 0
}

// Documents, queries and options that numbers choose.
func TestAgainstWhole(t *testing.T) {
	texts, wrong := 0, 0
	for i := range 1500 {
		d := samples.Dice(i*23 + 1)
		queries := d.Queries()
		var docs []string
		for range d.Below(6) {
			docs = append(docs, d.Document())
		}
		if i%5 == 0 {
			docs = append(docs, d.Spoiled(), d.Document(), d.Spoiled())
		}
		want, no, at, doc := whole(docs, queries)
		for _, f := range want {
			texts += len(f.Texts)
		}
		if no != api.OK {
			wrong++
		}
		for range 2 {
			o := Options{1 + d.Below(30), d.Below(4), 1 + d.Below(16)}
			if l, e, place, which, number := Answers(docs, queries, o); !reflect.DeepEqual(l, want) || e != no || place != at || which != 0 || number != doc {
				t.Fatalf("N1, N2: Answers(%q, %q, %v) = %v, %d, %d, %d, %d, want %v, %d, %d, 0, %d", docs, queries, o, l, e, place, which, number, want, no, at, doc)
			}
		}
	}
	if texts < 10000 || wrong < 200 {
		t.Errorf("%d texts, %d times something wrong", texts, wrong)
	}
}

func TestNothingGoesOn(t *testing.T) {
	few := runtime.NumGoroutine()
	docs := strings.Split(strings.Repeat("<a>x<b/></a>,<a></b><c/><d/>,,<a>&,", 10), ",")
	for _, o := range some {
		Answers(docs, []string{"//b"}, o)
		Answers(docs[:1], []string{"//b", "//text()"}, o)
		Answers(docs, []string{"/"}, o)
	}
	for range 1000 { // one that has done its work may not have left yet
		if runtime.NumGoroutine() <= few {
			return
		}
		time.Sleep(time.Millisecond)
	}
	t.Errorf("G4: there are %d goroutines, and there were %d", runtime.NumGoroutine(), few)
}

func TestNothingIsShared(t *testing.T) {
	docs, queries := []string{"<a>x<b/>y</a>", "<a>x</a>"}, []string{"/a/text()", "//text()"}
	first, _, _, _, _ := Answers(docs, queries, Options{1, 1, 2})
	second, _, _, _, _ := Answers(docs, queries, Options{1, 1, 2})
	want := found(2, []string{"x", "y"}, []string{"x", "y"}, []string{"x"}, []string{"x"})
	for i := range first {
		if !reflect.DeepEqual(first[i], want[i]) {
			t.Errorf("G4: %v, want %v", first[i], want[i])
		}
		clear(first[i].Texts)
		_ = append(first[i].Texts, "no", "no")
	}
	_ = append(first, Found{})
	if !reflect.DeepEqual(second, want) {
		t.Errorf("G4: %v", second)
	}
	if !reflect.DeepEqual(docs, []string{"<a>x<b/>y</a>", "<a>x</a>"}) || !reflect.DeepEqual(queries, []string{"/a/text()", "//text()"}) {
		t.Errorf("G4: %q, %q", docs, queries)
	}
}

// A document with many nodes is gone through but a few times, and many documents go through few goroutines.
func TestLong(t *testing.T) {
	n := 30000
	doc := "<r>" + strings.Repeat("<a><b>x</b>y</a>", n) + "</r>"
	l, no, _, _, _ := Answers([]string{doc}, []string{"//b", "//text()", "//*"}, Options{100, 10, 2})
	if no != api.OK || len(l) != 3 || len(l[0].Texts) != n || len(l[1].Texts) != 2*n || len(l[2].Texts) != 2*n+1 || l[2].Texts[0] != doc || l[2].Texts[2*n] != "<b>x</b>" || l[1].Texts[2*n-1] != "y" {
		t.Fatalf("N1: %d found, %d", len(l), no)
	}
	docs := make([]string, n)
	for i := range docs {
		docs[i] = "<a>" + strings.Repeat("<b/>", i%4) + "</a>"
	}
	l, no, _, _, _ = Answers(docs, []string{"/a/b"}, Options{10, 0, 16})
	if no != api.OK || len(l) != n {
		t.Fatalf("N1: %d found, %d", len(l), no)
	}
	for i, f := range l {
		if f.Doc != i+1 || f.Query != 1 || len(f.Texts) != i%4 {
			t.Fatalf("N1: %v is the one of document %d", f, i+1)
		}
	}
}
