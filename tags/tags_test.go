package tags

import (
	"strconv"
	"strings"
	"testing"

	"prune/api"
)

// tokens tells those that are written with commas between them: "a" opens, "/a" closes, "'x" is a text.
func tokens(s string) []api.Token {
	var all []api.Token
	for _, x := range strings.Split(s, ",") {
		switch {
		case x == "":
		case x[0] == '/':
			all = append(all, api.Token{Kind: Closing, Name: x[1:]})
		case x[0] == '\'':
			all = append(all, api.Token{Kind: Text, Text: x[1:]})
		default:
			all = append(all, api.Token{Kind: Opening, Name: x})
		}
	}
	return all
}

func TestNest(t *testing.T) {
	deep := strings.Repeat("a,", 30)
	for _, c := range []struct {
		tokens string
		no     api.Errno // of the last one
		whole  bool
	}{
		{"", api.OK, false}, {"a", api.OK, false}, {"a,/a", api.OK, true}, {"' \t\r\n,a,/a,' ", api.OK, true}, {"a,'x,b,/b,/a", api.OK, true}, {"a,b,'x,/b", api.OK, false}, {deep[:len(deep)-1], api.OK, false}, {deep + "/a,a", api.OK, false},
		{"/a", api.ErrMatch, false}, {"a,/b", api.ErrMatch, false}, {"a,b,/a", api.ErrMatch, false}, {"a,/a,/a", api.ErrMatch, true},
		{"a,/a,b", api.ErrRoot, true}, {"a,/a,'x", api.ErrRoot, true}, {"'x", api.ErrRoot, false}, {"a,/a,'\u00a0", api.ErrRoot, true}, {"' x ", api.ErrRoot, false},
		{deep + "a", api.ErrDeep, false}, {deep + "'x,b", api.ErrDeep, false},
	} {
		var n Nest
		no := api.OK
		for _, x := range tokens(c.tokens) {
			if no != api.OK {
				t.Errorf("R1: %q: %d ahead of the last one", c.tokens, no)
			}
			no = n.Take(x)
		}
		if no != c.no || n.Whole() != c.whole {
			t.Errorf("R1: %q: %d, %v, want %d, %v", c.tokens, no, n.Whole(), c.no, c.whole)
		}
	}
}

// A token that is refused changes nothing.
func TestNestGoesOn(t *testing.T) {
	var n Nest
	var got string
	for _, x := range tokens("/a,'x,a,/b,b,/a,/b,/a,/a,c,'x,' ") {
		got += strconv.Itoa(int(n.Take(x)))
	}
	if got != "670606006770" || !n.Whole() {
		t.Errorf("R1: %s", got)
	}
}

func TestWriter(t *testing.T) {
	for _, c := range []struct{ tokens, out, end string }{
		{"", "", ""}, {"a", "<a", "<a>"}, {"a,/a", "<a/>", "<a/>"}, {"a,b", "<a><b", "<a><b>"}, {"a,b,/b,/a", "<a><b/></a>", "<a><b/></a>"}, {"a,'<>&\"\r\t,/a", "<a>&lt;&gt;&amp;\"&#13;\t</a>", "<a>&lt;&gt;&amp;\"&#13;\t</a>"}, {"a,'x", "<a>x", "<a>x"}, {"a,b,/b,'x,b", "<a><b/>x<b", "<a><b/>x<b>"}, {"/a", "</a>", "</a>"}, {"'x", "x", "x"},
	} {
		var w Writer
		for _, x := range tokens(c.tokens) {
			w.Take(x)
		}
		out := w.String()
		w.End()
		w.End()
		if end := w.String(); out != c.out || end != c.end {
			t.Errorf("R3: %q: %q, %q, want %q, %q", c.tokens, out, end, c.out, c.end)
		}
	}
	if s := Begin("a", []api.Attr{{Name: "k", Value: "'\"<\n\r"}, {Name: "é"}}); s != "<a k=\"'&quot;&lt;&#10;&#13;\" é=\"\"" {
		t.Errorf("R3: %q", s)
	}
}
