package cut

import (
	"reflect"
	"strconv"
	"strings"
	"testing"

	"prune/api"
	"prune/samples"
	"prune/token"
)

func pruner(t *testing.T, queries ...string) *Pruner {
	t.Helper()
	p, no, at, which := New(queries)
	if p == nil || no != api.OK || at != 0 || which != 0 {
		t.Fatalf("X4: New(%q) = %v, %d, %d, %d", queries, p, no, at, which)
	}
	return p
}

// split tells queries that are written with ";" between them.
func split(queries string) []string {
	if queries == "" {
		return nil
	}
	return strings.Split(queries, ";")
}

func TestProject(t *testing.T) {
	for _, c := range []struct{ doc, queries, want string }{
		// node 0 is kept without any query, with its attributes
		{"<a/>", "", "<a/>"}, {"<a k='1' j='&#10;'><b/>x</a>", "", `<a k="1" j="&#10;"/>`}, {" \n<a>x</a>\t", "", "<a/>"}, {"<a><b/></a>", "/b", "<a/>"}, {"<a><b/></a>", "/c;//d/text()", "<a/>"},
		// what is led to, with all within, and what is around it
		{"<a><b>x<c/></b><d><e/></d></a>", "/a/b", "<a><b>x<c/></b></a>"}, {"<a>x<b/></a>", "/*", "<a>x<b/></a>"}, {"<a><x><b/></x><x/></a>", "//b", "<a><x><b/></x></a>"}, {"<a>x<b k='1'>y<c/>z</b>v<b/>w</a>", "/a/b", `<a><b k="1">y<c/>z</b><b/></a>`}, {"<a><b><c><d/></c><e/></b></a>", "//d", "<a><b><c><d/></c></b></a>"}, {"<a> <b/> </a>", "/a/b", "<a><b/></a>"}, {"<a><b k='1'>x<c/></b></a>", "//c", `<a><b k="1"><c/></b></a>`},
		// needed, but not whole: without what is within
		{"<a><b>x</b><c>x</c></a>", "/a[b]/c", "<a><b/><c>x</c></a>"}, {"<a><b k='1'>x<c/></b><b/>y</a>", "/a[b/@k='1']/c", `<a><b k="1"/><b/></a>`}, {"<a><b>x</b><c>x</c></a>", "/a[b='x']/c", "<a><b>x</b><c>x</c></a>"}, {"<a><b><c>x</c></b><b/></a>", "/a/b[c]", "<a><b><c>x</c></b><b/></a>"}, {"<a><b><c>x</c></b><b/></a>", "/a[b[c]]/d", "<a><b><c/></b><b/></a>"}, {"<a><b>x</b><d>y</d></a>", "/a[not(b) or d!='']/e", "<a><b/><d>y</d></a>"}, {"<a>x<b/></a>", "/a[.='x']/c", "<a>x<b/></a>"}, {"<a>x<b/></a>", "/a[.]/c", "<a/>"},
		// texts, and what is around them
		{"<a>x<b>y</b></a>", "//text()", "<a>x<b>y</b></a>"}, {"<a>x<b>y</b></a>", "/a/b/text()", "<a><b>y</b></a>"}, {"<a>x<b>y<c/></b></a>", "/*/*/text()", "<a><b>y</b></a>"}, {"<a>x<b/></a>", "/text()", "<a/>"}, {"<a>x<b/></a>", "/a/text()[b]", "<a>x</a>"}, {"<a>&lt;<![CDATA[&]]>&#13;</a>", "//text()", "<a>&lt;&amp;&#13;</a>"}, {" <a>x</a> ", "//text()", "<a>x</a>"}, {"<a>x<!--c-->y<?o?></a>", "/a/text()", "<a>xy</a>"},
		// shells: the first element between two texts of which no other is left
		{"<a>x<d k=\"1\"><e/></d><f/>y</a>", "/a/text()", `<a>x<d k="1"/>y</a>`}, {"<a>x<b/>y<c/>z</a>", "/a/text();//c", "<a>x<b/>y<c/>z</a>"}, {"<a>x<b/>y<c/><d/>z<e/></a>", "/a/text()", "<a>x<b/>y<c/>z</a>"}, {"<a><b/>x<b/></a>", "/a/text()", "<a>x</a>"}, {"<a>x<b/><c/><d/>y</a>", "/a/text();/a/d", "<a>x<d/>y</a>"}, {"<a>x<b/><c/><d/>y</a>", "/a/text()|/a/c", "<a>x<c/>y</a>"}, {"<a>x<b/><c/><d/>y</a>", "/a/text()|/a/b|/a/c", "<a>x<b/><c/>y</a>"},
		{"<a>x<b>v<c/>w</b>y</a>", "/a/text()", "<a>x<b/>y</a>"}, {"<a>x<b>v<c/>w</b>y</a>", "/a/b/text()", "<a><b>v<c/>w</b></a>"}, {"<a>x<b>v<c/>w</b>y</a>", "//text()", "<a>x<b>v<c/>w</b>y</a>"}, {"<a>x<b><d/></b><c><d/></c>y</a>", "/a/text();/a/c/d", "<a>x<c><d/></c>y</a>"}, {"<a>x<b><d/></b><c/>y</a>", "/a/text();/a/c/d", "<a>x<b/>y</a>"}, {"<a>x<b/>y</a>", "/a/b", "<a><b/></a>"},
		// the element of the one text is not that of the other
		{"<a><b>x</b><c/><b>y</b></a>", "//text()", "<a><b>x</b><b>y</b></a>"}, {"<a>x<b><c/>y</b></a>", "//text()", "<a>x<b>y</b></a>"}, {"<a>x<b><c/>y<d/></b><e/>z</a>", "//text()", "<a>x<b>y</b>z</a>"},
		// a name at several depths
		{"<a><a><a>x</a>y</a>z</a>", "/a/a/text()", "<a><a>y</a></a>"}, {"<a><b><a><b/></a></b></a>", "/a/b[a]/c", "<a><b><a/></b></a>"}, {"<é><É/><é>x</é></é>", "/é/é", "<é><é>x</é></é>"},
	} {
		if s, no, at, which := Project(c.doc, split(c.queries)); s != c.want || no != api.OK || at != 0 || which != 0 {
			t.Errorf("X1 to X3: Project(%q, %q) = %q, %d, %d, %d, want %q", c.doc, c.queries, s, no, at, which, c.want)
		}
	}
}

func TestErrors(t *testing.T) {
	long := "/" + strings.Repeat("a", 500)
	deep := strings.Repeat("<a>", 31)
	for _, c := range []struct {
		doc, queries string
		no           api.Errno
		at, which    int
	}{
		// the queries' come first
		{"<a/>", "/", api.ErrForm, 1, 1}, {"<a>", "/a;/", api.ErrForm, 1, 2}, {"", "/a;/b;/c\xff;[", api.ErrChar, 2, 3}, {"</a>", long, api.ErrLong, 0, 1}, {"<a/>", "/a;/a[((((((((b))))))))]", api.ErrDeep, 10, 2}, {"<a/>", "/a;b", api.ErrForm, 0, 2}, {"\xff", ";/a", api.ErrForm, 0, 1},
		{"", "", api.ErrForm, 0, 0}, {"<a>", "", api.ErrForm, 3, 0}, {"<a>", "/a", api.ErrForm, 3, 0}, {"<a></b>", "/a", api.ErrMatch, 3, 0}, {"<a/><b/>", "/a;/b", api.ErrRoot, 4, 0}, {"<a/>x", "//text()", api.ErrRoot, 4, 0}, {"<a>\x00</a>", "/b", api.ErrChar, 3, 0}, {"<a>&b;</a>", "/a", api.ErrRef, 3, 0}, {"<a k='' k=''/>", "", api.ErrTwice, 8, 0}, {deep, "/b", api.ErrDeep, 90, 0}, {"<a/><b/><", "", api.ErrRoot, 4, 0}, {"<a/><", "", api.ErrForm, 5, 0},
	} {
		queries := split(c.queries)
		if s, no, at, which := Project(c.doc, queries); s != "" || no != c.no || at != c.at || which != c.which {
			t.Errorf("X3: Project(%.20q, %.20q) = %q, %d, %d, %d, want %d, %d, %d", c.doc, c.queries, s, no, at, which, c.no, c.at, c.which)
		}
		if c.which == 0 {
			continue
		}
		if p, no, at, which := New(queries); p != nil || no != c.no || at != c.at || which != c.which {
			t.Errorf("X4: New(%.20q) = %v, %d, %d, %d, want %d, %d, %d", c.queries, p, no, at, which, c.no, c.at, c.which)
		}
	}
}

// shown writes tokens with their places.
func shown(tokens []api.Token) string {
	var all []string
	for _, x := range tokens {
		all = append(all, strings.Repeat("/", (x.Kind-1)%2)+x.Name+x.Text+strconv.Itoa(x.At))
	}
	return strings.Join(all, " ")
}

func TestPush(t *testing.T) {
	for _, c := range []struct{ doc, queries, want string }{
		{"<a/>", "", "a0|/a0"}, {"\n<a>x</a>\n", "", "|a1||/a5|"}, {"<a>x<b/></a>", "/a", "a0|x3|b4|/b4|/a8"},
		// an element as soon as something in it is kept
		{"<a><c><b/></c></a>", "//b", "a0||c3 b6|/b6|/c10|/a14"}, {"<a><c><d/><b>x</b></c></a>", "//b/text()", "a0|||||c3 b10 x13|/b14|/c18|/a22"}, {"<a><b><c><d/></c></b></a>", "//d", "a0|||b3 c6 d9|/d9|/c13|/b17|/a21"}, {"<a><b><c/></b><b><d/></b></a>", "/a/b/d", "a0||||||b14 d17|/d17|/b21|/a25"},
		{"<a><c/><c><b/></c></a>", "/a/c/b", "a0||||c7 b10|/b10|/c14|/a18"}, {"<a>x<b>y</b></a>", "/a[b]/c", "a0||b4||/b8|/a12"},
		// a shell when the kept text behind it comes
		{"<a>x<b k='1'><c/></b><d/>y</a>", "/a/text()", "a0|x3|||||||b4 /b17 y25|/a26"}, {"<a>x<b/>y<c/>z</a>", "/a/text()", "a0|x3|||b4 /b4 y8|||c9 /c9 z13|/a14"}, {"<a>x<b/></a>", "/a/text()", "a0|x3|||/a8"}, {"<a>x<b/><c><d/></c>y</a>", "/a/text()|/a/c/d", "a0|x3||||c8 d11|/d11|/c15|y19|/a20"}, {"<a>x<b><e/></b><c/>y</a>", "/a/text()|//d", "a0|x3|||||||b4 /b11 y19|/a20"}, {"<a><b/>x</a>", "/a/text()", "a0|||x7|/a8"},
		{"<a><c><b>x<d></d>y</b></c></a>", "//b/text()", "a0|||c3 b6 x9|||d10 /d13 y17|/b18|/c22|/a26"},
		// and behind a shell, as behind anything else
		{"<a>x<b/>y<c/><d/></a>", "/a/text();/a/d", "a0|x3|||b4 /b4 y8|||d13|/d13|/a17"},
		// a document that goes on
		{"<a>x<b><c>", "//d", "a0|||"},
	} {
		p := pruner(t, split(c.queries)...)
		tokens, no, _ := token.All(c.doc)
		want := strings.Split(c.want, "|")
		if no != api.OK || len(want) != len(tokens) {
			t.Fatalf("%q: %d, %d tokens", c.doc, no, len(tokens))
		}
		for i, x := range tokens {
			if got := shown(p.Push(x)); got != want[i] {
				t.Errorf("X4: %q for %q: token %d: %q, want %q", c.doc, c.queries, i, got, want[i])
			}
		}
	}
}

// Tokens are answered as they were given, whatever they are.
func TestAsGiven(t *testing.T) {
	p := pruner(t, "/a/text()")
	for i, c := range []struct{ given, want []api.Token }{
		{[]api.Token{{Kind: 1, Name: "a", Attrs: []api.Attr{{Name: "k", Value: "\""}}, At: 70}}, []api.Token{{Kind: 1, Name: "a", Attrs: []api.Attr{{Name: "k", Value: "\""}}, At: 70}}},
		{[]api.Token{{Kind: 3, Text: "x", At: 3}}, []api.Token{{Kind: 3, Text: "x", At: 3}}},
		{[]api.Token{{Kind: 1, Name: "b", Attrs: []api.Attr{}, At: -5}, {Kind: 2, Name: "b", At: 2}, {Kind: 3, Text: "&<", At: 1}}, []api.Token{{Kind: 1, Name: "b", Attrs: []api.Attr{}, At: -5}, {Kind: 2, Name: "b", At: 2}, {Kind: 3, Text: "&<", At: 1}}},
		{[]api.Token{{Kind: 2, Name: "a"}}, []api.Token{{Kind: 2, Name: "a"}}},
	} {
		var told []api.Token
		for _, x := range c.given {
			told = append(told, p.Push(x)...)
		}
		if !reflect.DeepEqual(told, c.want) {
			t.Errorf("X4: %d: %#v, want %#v", i, told, c.want)
		}
	}
}

// Of tokens of no document only this is promised: that each call ends, and answers the same in the same order of calls.
func TestTokensOfNoDocument(t *testing.T) {
	names := []string{"a", "b", "", "#", "*", "\xff", "text()"}
	for i := range 3000 {
		d := samples.Dice(i)
		queries := d.Queries()
		p, same := pruner(t, queries...), pruner(t, queries...)
		for range d.Below(60) {
			x := api.Token{Kind: d.Below(5) - 1, Name: d.Of(names...), Text: d.Of("", "x", "\xff"), At: d.Below(9) - 4}
			if d.Below(2) == 0 {
				x.Attrs = []api.Attr{{}, {}}
			}
			if l, again := p.Push(x), same.Push(x); !reflect.DeepEqual(l, again) {
				t.Fatalf("G3: %v and %v", l, again)
			}
		}
	}
	for _, kind := range []int{1, 2, 3, 0, 1, 2, -1 << 63, 1<<63 - 1} {
		p := pruner(t, "//b/text()", "/a")
		for range 20000 {
			p.Push(api.Token{Kind: kind, Name: "a"})
		}
	}
}

func TestNothingIsShared(t *testing.T) {
	queries := []string{"//c/text()"}
	p, other := pruner(t, queries...), pruner(t, queries...)
	queries[0] = "/"
	given := func(kind int, name, text string) api.Token {
		return api.Token{Kind: kind, Name: name, Text: text, Attrs: []api.Attr{{Name: "k", Value: "1"}}}
	}
	tokens := []api.Token{given(1, "a", ""), given(1, "c", ""), given(3, "", "x"), given(1, "b", ""), given(2, "b", ""), given(3, "", "y"), given(2, "c", ""), given(2, "a", "")}
	total := 0
	for _, x := range tokens {
		told := p.Push(x)
		x.Attrs[0].Value = "2"
		for _, y := range told {
			if y.Attrs[0].Value != "1" {
				t.Errorf("G4: %v", y)
			}
			y.Attrs[0].Value = "3"
			_ = append(y.Attrs, api.Attr{Name: "no"})
		}
		if x.Attrs[0].Value != "2" {
			t.Errorf("G4: %v", x)
		}
		_ = append(told, given(3, "", "no"), given(3, "", "no"))
		total += len(told)
	}
	if total != len(tokens) || other.Push(given(2, "a", "")) != nil {
		t.Errorf("X4: %d tokens", total)
	}
}

func TestDeep(t *testing.T) {
	doc := strings.Repeat("<a>", 29) + "<b>x</b>y<c/>z" + strings.Repeat("</a>", 29)
	for queries, want := range map[string]string{"//b": strings.Repeat("<a>", 29) + "<b>x</b>" + strings.Repeat("</a>", 29), "//a/text()": strings.Repeat("<a>", 29) + "y<c/>z" + strings.Repeat("</a>", 29), "//d": "<a/>", strings.Repeat("/a", 29): doc, strings.Repeat("//a", 30): "<a/>"} {
		if s, no, _, _ := Project(doc, []string{queries}); s != want || no != api.OK {
			t.Errorf("X3: %q: %q, %d, want %q", queries, s, no, want)
		}
	}
}

func TestLong(t *testing.T) {
	n := 50000
	doc := "<r>" + strings.Repeat("x<a k='1'><b>x</b></a><c/>", n) + "</r>"
	for queries, want := range map[string]string{"": "<r/>", "/r/text()": "<r>" + strings.Repeat("x<a k=\"1\"/>", n-1) + "x</r>", "//b": "<r>" + strings.Repeat("<a k=\"1\"><b>x</b></a>", n) + "</r>", "//c;//text()": "<r>" + strings.Repeat("x<a k=\"1\"><b>x</b></a><c/>", n) + "</r>"} {
		if s, no, _, _ := Project(doc, split(queries)); s != want || no != api.OK {
			t.Errorf("X3: %q: %d bytes, %d, want %d", queries, len(s), no, len(want))
		}
	}
}
