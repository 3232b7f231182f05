package spine

import (
	"math"
	"reflect"
	"strings"
	"testing"

	"prune/api"
)

func TestPaths(t *testing.T) {
	for _, c := range []struct {
		queries string // with ";" between them
		want    string // with blanks between them
	}{
		{"/a", "/a#"}, {"//a/*", "//a/*#"}, {"/a/text()", "/a/text()"}, {"//text()", "//text()"}, {"/text()", "/text()"}, {"/text//text", "/text//text#"}, {" / a // b ", "/a//b#"}, {"/a|//b|/a", "/a# //b#"},
		// conditions come ahead of the path
		{"/a[b]", "/a/b /a#"}, {"/a[b]/c", "/a/b /a/c#"}, {"/a[b][c]/d[e]", "/a/b /a/c /a/d/e /a/d#"}, {"/a[b/c//d]", "/a/b/c//d /a#"}, {"/a[.//b]", "/a//b /a#"}, {"//a[*]/b", "//a/* //a/b#"}, {"/a[text()]/b", "/a/text() /a/b#"}, {"/a[.//text()]", "/a//text() /a#"},
		// whole ones are compared by their values
		{"/a[b='x']/c", "/a/b# /a/c#"}, {"/a[b!='']/c", "/a/b# /a/c#"}, {"/a[.//b='x']/c", "/a//b# /a/c#"}, {"/a[text()='x']/c", "/a/text() /a/c#"}, {"/a[b/text()!='x']/c", "/a/b/text() /a/c#"}, {"/a[b and b='x']/c", "/a/b /a/b# /a/c#"},
		// the node itself, and attributes
		{"/a[.]/c", "/a /a/c#"}, {"/a[.='x']/c", "/a# /a/c#"}, {"/a[.]", "/a /a#"}, {"/a[.='x']", "/a#"}, {"/a[@k]", "/a /a#"}, {"/a[@k='1']/c", "/a /a/c#"}, {"/a[b/@k]/c", "/a/b /a/c#"}, {"/a[b/@k!='1']/c", "/a/b /a/c#"}, {"/a[.//b/@k]/c", "/a//b /a/c#"}, {"/a/b[@k]/c", "/a/b /a/b/c#"},
		{"/a/text()[.='x']", "/a/text()"}, {"/a/text()[.]", "/a/text()"}, {"/a/text()[@k]", "/a/text()"}, {"/a/text()[b]", "/a/text()/b /a/text()"}, {"/a/text()[b='x']", "/a/text()/b# /a/text()"}, {"//a[text()[.//b]]/c", "//a/text()//b //a/text() //a/c#"},
		// joined ones, in their order
		{"/a[b or c and not(d)]/e", "/a/b /a/c /a/d /a/e#"}, {"/a[not(b='x')]/e", "/a/b# /a/e#"}, {"/a[not(d) and (c or b)]/e", "/a/d /a/c /a/b /a/e#"}, {"/a[b or b or (b)]/e", "/a/b /a/e#"},
		// conditions within conditions
		{"/a[b[c]/d[e='x']]/f", "/a/b/c /a/b/d/e# /a/b/d /a/f#"}, {"/a[b[c[d]]]/e", "/a/b/c/d /a/b/c /a/b /a/e#"}, {"/a[b[c]='x' or d]/e", "/a/b/c /a/b# /a/d /a/e#"}, {"/a[b[.='x']/@k]/e", "/a/b# /a/b /a/e#"}, {"/a[b[.//c][@k]//d!='y']/e", "/a/b//c /a/b /a/b//d# /a/e#"}, {"//a//b[.//c]//d", "//a//b//c //a//b//d#"},
		{"/a[*/b[not(c/@k='x' and text())]//d]/e", "/a/*/b/c /a/*/b/text() /a/*/b//d /a/e#"},
		// several queries; each path where it comes first
		{"/a[b='x' and not(c)]//d;/a/c|//text();/a[.='y'];/a[b[e]/@k]", "/a/b# /a/c /a//d# /a/c# //text() /a# /a/b/e /a/b"}, {"/b;/a;/b", "/b# /a#"}, {"/c[d];/c/d;/c[d]", "/c/d /c# /c/d#"},
		{"/é[ É.1 = \"'\" ]", "/é/É.1# /é#"}, {"/not[or and and]/text", "/not/or /not/and /not/text#"},
	} {
		queries := strings.Split(c.queries, ";")
		l, no, at, which := Paths(queries)
		if !reflect.DeepEqual(l, strings.Fields(c.want)) || no != api.OK || at != 0 || which != 0 {
			t.Errorf("S1, S2: Paths(%q) = %q, %d, %d, %d, want %q", queries, l, no, at, which, c.want)
		}
	}
	for _, none := range [][]string{nil, {}} {
		if l, no, at, which := Paths(none); l != nil || no != api.OK || at != 0 || which != 0 {
			t.Errorf("S2: Paths(%#v) = %#v, %d, %d, %d", none, l, no, at, which)
		}
	}
}

func TestErrors(t *testing.T) {
	long := "/" + strings.Repeat("a", 500)
	for _, c := range []struct {
		queries   []string
		no        api.Errno
		at, which int
	}{
		{[]string{""}, api.ErrForm, 0, 1}, {[]string{"/a["}, api.ErrForm, 3, 1}, {[]string{"/a", "b", "["}, api.ErrForm, 0, 2}, {[]string{"/a", "/b", "/c|"}, api.ErrForm, 3, 3}, {[]string{"/a", "/b\xff", ""}, api.ErrChar, 2, 2}, {[]string{"/a", long}, api.ErrLong, 0, 2}, {[]string{long, "/a]"}, api.ErrLong, 0, 1}, {[]string{"/a]", long}, api.ErrForm, 2, 1}, {[]string{"/a[((((((((b))))))))]"}, api.ErrDeep, 10, 1}, {[]string{"/a[b]|", "/"}, api.ErrForm, 6, 1},
	} {
		if l, no, at, which := Paths(c.queries); l != nil || no != c.no || at != c.at || which != c.which {
			t.Errorf("S2: Paths(%.20q) = %v, %d, %d, %d, want %d, %d, %d", c.queries, l, no, at, which, c.no, c.at, c.which)
		}
		if s, no, at, which := New(c.queries); s != nil || no != c.no || at != c.at || which != c.which {
			t.Errorf("S3: New(%.20q) = %v, %d, %d, %d, want %d, %d, %d", c.queries, s, no, at, which, c.no, c.at, c.which)
		}
	}
}

func spineOf(t *testing.T, queries ...string) *Spine {
	t.Helper()
	s, no, at, which := New(queries)
	if s == nil || no != api.OK || at != 0 || which != 0 {
		t.Fatalf("S3: New(%q) = %v, %d, %d, %d", queries, s, no, at, which)
	}
	return s
}

// follow tells the state of a row of names, written with blanks between them.
func follow(s *Spine, row string) int {
	state := s.Start()
	for _, name := range strings.Fields(row) {
		state = s.Next(state, name)
	}
	return state
}

// told writes what is told of a state: k kept, w whole, t texts, l live.
func told(s *Spine, state int) string {
	is, whole := s.Keep(state)
	var all string
	for i, yes := range []bool{is, whole, s.Text(state), s.Live(state)} {
		if yes {
			all += "kwtl"[i : i+1]
		}
	}
	return all
}

func TestRows(t *testing.T) {
	for _, c := range []struct{ queries, rows string }{
		{"", " :; a:; a b:"},
		{"/a", " :l; a:kw; b:; a a:w; a a a:w; b a:; *:; #:"},
		{"/a/b", " :l; a:l; b:; a b:kw; a b b:w; a a b:; a c:; a c b:"},
		{"//a", " :l; a:kwl; b:l; b a:kwl; a a:kwl; b b b:l; b a b:wl; a b:wl"},
		{"/*", " :l; a:kw; b:kw; *:kw; #:kw; a a:w"},
		{"/*/b//*", " :l; a:l; a b:l; a b c:kwl; a b c d:kwl; a c:; b b b:kwl; a b b:kwl"},
		{"/a[b]/c", " :l; a:l; a b:k; a c:kw; a b b:; a d:"},
		{"/a[b='x']/c[@k]", " :l; a:l; a b:kw; a c:kw; a b c:w"},
		{"/a[b/@k='x']/text()", " :l; a:tl; a b:k; a b b:"},
		{"/a[.]/text()", " :l; a:ktl; a a:"},
		// texts: none is right within the document
		{"/text()", " :; a:; #:; text():"},
		{"//text()", " :l; a:tl; a b:tl; #:tl"},
		{"/*/text()", " :l; a:tl; a b:"},
		{"/a//text()", " :l; a:tl; a b:tl; b:; b a:"},
		{"//a/text()", " :l; a:tl; a b:l; a b a:tl; a a:tl"},
		{"//a//text()", " :l; b:l; a:tl; a b:tl; b a b:tl"},
		{"/a/b/text()", " :l; a:l; a b:tl; a b c:; a a:"},
		// nothing is within a text
		{"/a/text()[b]", " :l; a:tl; a #:; a # b:; a b:; a text():"},
		{"/a/text()[.//b='x']", " :l; a:tl; a b:; a b b:"},
		{"//text()[*]", " :l; a:tl; a b:tl; a # b:tl"},
		{"/text()[b]", " :; a:; a b:; # b:"},
		{"/text()[.//b]|/a", " :l; a:kw; a b:w"},
		// steps at several depths at once
		{"//a/b", " :l; a:l; b:l; a b:kwl; a a b:kwl; a c b:l; a b b:wl; a b a b:kwl"},
		{"//a//b", " :l; b:l; a:l; a b:kwl; a c:l; a c b:kwl; b a c b:kwl; a b c:wl"},
		{"//a/a/b", " :l; a:l; a a:l; a a b:kwl; a a a b:kwl; a b:l; a b a b:l"},
		{"//a/*/b", " :l; a b:l; a b b:kwl; a a b:kwl; a a a b:kwl; a b a b:l; a c b b:wl; b b b:l"},
		// needed, whole, and texts, by several queries
		{"/a/b[c];/a//d/text()", " :l; a:l; a b:kwl; a b c:kwl; a b d:wtl; a b d e:wl; a d:tl; z:; a c:l; a c d:tl"},
		{"/a[b]/text();/a[b='x']/c", " :l; a:tl; a b:kw; a c:kw"},
		{"/a;/a/b/c", " :l; a:kwl; a b:wl; a b c:kw; a b c d:w; a c:w"},
		{"/a/b|/c[d]/e", " :l; a:l; c:l; a b:kw; c d:k; c e:kw; a d:; c b:"},
		{"/text/not|/é", " :l; text:l; text not:kw; é:kw; e:"},
	} {
		var queries []string
		if c.queries != "" {
			queries = strings.Split(c.queries, ";")
		}
		s := spineOf(t, queries...)
		for _, row := range strings.Split(c.rows, ";") {
			names, want, _ := strings.Cut(row, ":")
			if got := told(s, follow(s, names)); got != want {
				t.Errorf("S3: %q: row %q: %q, want %q", c.queries, names, got, want)
			}
		}
	}
}

func TestStates(t *testing.T) {
	s := spineOf(t, "/a//b", "//c/text()")
	unknown := func(states ...int) {
		t.Helper()
		for _, state := range states {
			if n := s.Next(state, "a"); n != -1 || told(s, state) != "" {
				t.Errorf("S3: of %d, which was not answered: %d, %q", state, n, told(s, state))
			}
		}
	}
	unknown(-1, 0, 1, 2, math.MinInt, math.MaxInt)
	start := s.Start()
	if start < 0 || s.Start() != start {
		t.Errorf("S3: Start() = %d, then %d", start, s.Start())
	}
	most := start
	states := []int{start}
	for range 4 {
		for _, state := range states {
			for _, name := range []string{"a", "b", "c", "", "\xff", "text()"} {
				n := s.Next(state, name)
				if n < 0 || n != s.Next(state, name) {
					t.Errorf("S3: Next(%d, %q) = %d", state, name, n)
				}
				states = append(states, n)
				most = max(most, n)
			}
		}
	}
	unknown(-1, -2, most+1, most+1000, math.MinInt, math.MaxInt)
	if got := told(s, follow(s, "a c b")); got != "kwl" {
		t.Errorf("S3: %q", got)
	}
	if s.Start() != start {
		t.Errorf("S3: Start() = %d, was %d", s.Start(), start)
	}
}

// Two spines of the same queries answer the same numbers.
func TestNumbers(t *testing.T) {
	var want []int
	for i := range 50 {
		s := spineOf(t, "/a[b][c][d][e]/f[.//g][.//h][.//i]", "//a[.//j]", "//b")
		var states []int
		for _, row := range []string{"a", "a b", "a f", "a f g", "b", "a a", "a f x", "b a f", "a f f"} {
			states = append(states, follow(s, row))
		}
		if i == 0 {
			want = states
		}
		if !reflect.DeepEqual(states, want) {
			t.Fatalf("G3: %v, then %v", want, states)
		}
	}
}

// However many rows are followed, states are as many as there are things to tell; and a row may be long.
func TestManyRows(t *testing.T) {
	s := spineOf(t, "//a/b[c='x']//d", "/a[b]//*//text()")
	state := s.Start()
	for i := range 200000 {
		state = s.Next(state, []string{"a", "b", "c", "d", "e"}[i*i/7%5])
		if state > 200 {
			t.Fatalf("S3: state %d", state)
		}
	}
	many, row := "//a/a", "a a"
	for _, letter := range strings.Split("bcdefghijklmnopqrstuvwxyz", "") {
		many, row = many+"/"+letter, row+" "+letter
	}
	long := spineOf(t, many)
	for range 2 {
		if got := told(long, follow(long, row)); got != "kwl" {
			t.Errorf("S3: %q", got)
		}
	}
	deep := spineOf(t, strings.Repeat("//a", 166))
	if got := told(deep, follow(deep, strings.Repeat("a b ", 165))); got != "l" {
		t.Errorf("S3: %q", got)
	}
	if got := told(deep, follow(deep, strings.Repeat("a b ", 165)+"b a")); got != "kwl" {
		t.Errorf("S3: %q", got)
	}
}

func TestNothingIsShared(t *testing.T) {
	queries := []string{"/a[b]/c", "/a/d"}
	first, _, _, _ := Paths(queries)
	second, _, _, _ := Paths(queries)
	s, other := spineOf(t, queries...), spineOf(t, queries...)
	follow(other, "a b c d")
	queries[0], queries[1] = "no", "no"
	for i := range first {
		first[i] = "no"
	}
	_ = append(first, "no")
	if want := []string{"/a/b", "/a/c#", "/a/d#"}; !reflect.DeepEqual(second, want) {
		t.Errorf("G4: %q, want %q", second, want)
	}
	if n := s.Next(1, "a"); n != -1 || told(s, 1) != "" {
		t.Errorf("G3: %d, %q of a state that another spine answered", n, told(s, 1))
	}
	if told(s, follow(s, "a b")) != "k" || told(s, follow(s, "a d")) != "kw" {
		t.Error("G4: a spine keeps the list of its queries")
	}
}
