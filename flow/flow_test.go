package flow

import (
	"math"
	"strings"
	"testing"

	"prune/api"
	"prune/cut"
	"prune/tree"
)

func plant(t *testing.T, doc string, queries []string, c1, c2 int) *Plant {
	t.Helper()
	p, no, at, which := New(doc, queries, c1, c2)
	if p == nil || no != api.OK || at != 0 || which != 0 {
		t.Fatalf("W1: New(%q, %q, %d, %d) = %v, %d, %d, %d", doc, queries, c1, c2, p, no, at, which)
	}
	return p
}

func TestNew(t *testing.T) {
	long := "/" + strings.Repeat("a", 500)
	for _, c := range []struct {
		queries   []string
		c1, c2    int
		no        api.Errno
		at, which int
	}{
		{nil, 0, 1, api.ErrRange, 0, 0}, {nil, 1, 0, api.ErrRange, 0, 0}, {nil, 101, 1, api.ErrRange, 0, 0}, {nil, 100, 101, api.ErrRange, 0, 0}, {nil, -1, 5, api.ErrRange, 0, 0}, {nil, 5, math.MinInt, api.ErrRange, 0, 0}, {nil, math.MaxInt, math.MinInt, api.ErrRange, 0, 0}, {nil, math.MaxInt, 7, api.ErrRange, 0, 0},
		// the rooms come first
		{[]string{"/"}, 0, 1, api.ErrRange, 0, 0}, {[]string{"/a", "["}, 1, 101, api.ErrRange, 0, 0},
		{[]string{"/"}, 1, 1, api.ErrForm, 1, 1}, {[]string{"/a", "/a[", "/"}, 100, 100, api.ErrForm, 3, 2}, {[]string{"/a", "/b", "/\xff"}, 1, 100, api.ErrChar, 1, 3}, {[]string{long}, 7, 3, api.ErrLong, 0, 1},
	} {
		for _, doc := range []string{"<a/>", "", "<a></b>"} {
			if p, no, at, which := New(doc, c.queries, c.c1, c.c2); p != nil || no != c.no || at != c.at || which != c.which {
				t.Errorf("W1: New(%q, %.20q, %d, %d) = %v, %d, %d, %d, want %d, %d, %d", doc, c.queries, c.c1, c.c2, p, no, at, which, c.no, c.at, c.which)
			}
		}
	}
	for _, c := range []int{1, 2, 99, 100} {
		p := plant(t, "", nil, c, 101-c)
		first, second := p.Held()
		if no, at := p.Err(); first != 0 || second != 0 || p.Out() != "" || p.Done() || no != api.OK || at != 0 || !p.Can(0) || p.Can(1) || p.Can(2) {
			t.Errorf("W1: of a new plant %d, %d, %q, %d, %d", first, second, p.Out(), no, at)
		}
	}
}

// A run is told in pieces: the stages that are to step, with "!" behind one that cannot, and then what is held and written.
func TestSteps(t *testing.T) {
	type piece struct {
		stages        string
		first, second int
		out           string
	}
	for _, c := range []struct {
		doc     string
		queries []string
		c1, c2  int
		run     []piece
		no      api.Errno
		at      int
	}{
		{"<a/>", []string{"/a"}, 1, 1, []piece{
			{"1!2!", 0, 0, ""},
			{"0000", 0, 0, ""},  // all bytes are read, and two tokens are in hand
			{"00!", 1, 0, ""},   // no room for the second one
			{"10", 1, 0, ""},    // there is, and the first one is in the pruner's hand
			{"0", 1, 0, ""},     // the text ends
			{"1", 1, 1, ""},     // out of the hand
			{"11!", 0, 1, ""},   // taken, and no room behind
			{"22!", 0, 0, "<a"}, // what ends the tag hangs on the next token
			{"11!", 0, 1, "<a"}, // none is left, but the reader is not over
			{"22!", 0, 0, "<a/>"},
			{"00!2!", 0, 0, "<a/>"}, // the reader is over, the pruner not
			{"11!2", 0, 0, "<a/>"},
		}, api.OK, 0},
		// the end of an opening tag comes with what stands behind it, of what is kept
		{"<a><b/>&lt;</a>", []string{"/a/text()"}, 9, 9, []piece{
			{"0000", 1, 0, ""}, {"11", 0, 1, ""}, {"22!1!", 0, 0, "<a"},
			{"000000", 2, 0, "<a"}, {"111!2!", 0, 0, "<a"},
			{"0000", 0, 0, "<a"}, {"000000", 2, 0, "<a"}, // a text comes with the tag behind it
			{"11", 1, 1, "<a"}, {"2", 1, 0, "<a>&lt;"}, {"112", 0, 0, "<a>&lt;</a>"},
			{"1!2!0", 0, 0, "<a>&lt;</a>"}, {"1!2!0", 0, 0, "<a>&lt;</a>"}, {"2!12", 0, 0, "<a>&lt;</a>"},
		}, api.OK, 0},
		// what is certain only now comes at once
		{"<a><b><c/></b></a>", []string{"//c"}, 9, 1, []piece{
			{"00000000000000", 4, 0, ""}, {"112", 3, 0, "<a"}, {"11", 1, 0, "<a"}, {"11!", 1, 1, "<a"}, {"2", 1, 0, "<a><b"}, {"1", 1, 1, "<a><b"}, {"2", 1, 0, "<a><b><c"},
			{"112", 0, 0, "<a><b><c/>"}, {"00000112", 0, 0, "<a><b><c/></b>"}, {"00000112", 0, 0, "<a><b><c/></b></a>"}, {"0012", 0, 0, "<a><b><c/></b></a>"},
		}, api.OK, 0},
		// at a token that R1 refuses reader and pruner are over, channel 1 is empty, and what is in channel 2 is written
		{"</a><b/><c/>", nil, 2, 1, []piece{
			{"00000", 1, 0, ""}, {"000000!", 2, 0, ""}, {"11!0!", 0, 0, ""}, {"22!", 0, 0, ""},
		}, api.ErrMatch, 0},
		{"<a k=''></b>", nil, 5, 5, []piece{
			{"000000000", 1, 0, ""}, {"00000", 2, 0, ""}, {"11", 1, 1, ""}, {"11!0!", 0, 1, ""}, {"2", 0, 0, "<a k=\"\""}, {"22!", 0, 0, "<a k=\"\">"},
		}, api.ErrMatch, 8},
		// something wrong with the text: what stands ahead of it comes through
		{"<a>\xff</b>", []string{"/a"}, 1, 1, []piece{
			{"0000", 1, 0, ""}, {"00000000!", 1, 0, ""}, {"111", 0, 1, ""}, {"2", 0, 0, "<a"}, {"22!", 0, 0, "<a>"},
		}, api.ErrChar, 3},
		// the text behind the last tag comes when the text ends
		{"x", nil, 1, 1, []piece{{"0", 0, 0, ""}, {"01!", 0, 0, ""}, {"002!", 1, 0, ""}, {"12", 0, 0, ""}}, api.ErrRoot, 0},
		{"<a/>\n", nil, 1, 1, []piece{
			{"000000!", 1, 0, ""}, {"10", 1, 0, ""}, {"000!", 1, 0, ""}, {"11", 0, 1, ""}, {"001!", 1, 1, ""}, {"2", 1, 0, "<a"}, {"111", 0, 1, "<a"}, {"22", 0, 0, "<a/>"},
		}, api.OK, 0},
		{"", nil, 1, 1, []piece{{"1!2!0", 0, 0, ""}, {"1!2!00!", 0, 0, ""}, {"2!11!22!", 0, 0, ""}}, api.ErrForm, 0},
	} {
		p := plant(t, c.doc, c.queries, c.c1, c.c2)
		for _, x := range c.run {
			follow(t, p, x.stages, c.doc)
			if first, second := p.Held(); first != x.first || second != x.second || p.Out() != x.out {
				t.Fatalf("W2 to W5: %q: behind %q: %d, %d, %q, want %v", c.doc, x.stages, first, second, p.Out(), x)
			}
		}
		if no, at := p.Err(); !p.Done() || no != c.no || at != c.at {
			t.Errorf("W5: %q: %v, %d, %d, want %d, %d", c.doc, p.Done(), no, at, c.no, c.at)
		}
	}
}

func follow(t *testing.T, p *Plant, stages, doc string) {
	t.Helper()
	for i, x := range stages {
		if x == '!' {
			continue
		}
		if no, at := p.Err(); !p.Done() && (no != api.OK || at != 0) {
			t.Fatalf("W5: %q: %d, %d ahead of the end", doc, no, at)
		}
		stage, want := int(x-'0'), !strings.HasPrefix(stages[i+1:], "!")
		if can, did := p.Can(stage), p.Step(stage); can != want || did != want {
			t.Fatalf("W2 to W5: %q: step %d of %q: %v, %v", doc, i, stages, can, did)
		}
	}
}

func TestNoSuchStage(t *testing.T) {
	p := plant(t, "<a/>", nil, 1, 1)
	for range 30 {
		for _, stage := range []int{-1, 3, 4, math.MinInt, math.MaxInt} {
			if p.Can(stage) || p.Step(stage) {
				t.Errorf("W5: stage %d steps", stage)
			}
		}
		for _, stage := range []int{2, 1, 0} {
			p.Step(stage)
		}
	}
	if !p.Done() || p.Out() != "<a/>" {
		t.Errorf("W6: %q", p.Out())
	}
}

// Where all that can step steps as often as it can, one stage behind the other.
func TestLong(t *testing.T) {
	n := 20000
	doc := "<r>" + strings.Repeat("x<a k='1'><b>x</b></a><c/>", n) + "</r>"
	for _, c := range []struct {
		doc string
		no  api.Errno
	}{{doc, api.OK}, {doc + "x", api.ErrRoot}, {doc[:len(doc)-1], api.ErrForm}} {
		p := plant(t, c.doc, []string{"//b/text()", "/r/text()"}, 100, 1)
		steps := 0
		for !p.Done() {
			before := steps
			for _, stage := range []int{0, 1, 2} {
				for p.Step(stage) {
					steps++
				}
			}
			if steps == before {
				t.Fatal("W6: none can step")
			}
		}
		_, want, wantAt := tree.Parse(c.doc)
		if no, at := p.Err(); no != want || no != c.no || at != wantAt || steps > 5*len(c.doc)+8 {
			t.Errorf("W5, W6: %d, %d, want %d, %d, in %d steps", no, at, want, wantAt, steps)
		}
		if s, _, _, _ := cut.Project(doc, []string{"//b/text()", "/r/text()"}); c.no != api.ErrForm && p.Out() != s {
			t.Errorf("W6: %d bytes, want %d", len(p.Out()), len(s))
		}
	}
}

func TestNothingIsShared(t *testing.T) {
	queries := []string{"/a/b"}
	p, other := plant(t, "<a><b/></a>", queries, 3, 3), plant(t, "<a><b>x</b></c>", queries, 3, 3)
	queries[0] = "/"
	for range 100 {
		for stage := range 3 {
			p.Step(stage)
		}
	}
	if first, second := other.Held(); first != 0 || second != 0 || other.Out() != "" || other.Done() || other.Can(1) {
		t.Error("W1: a plant has stepped with another")
	}
	if p.Out() != "<a><b/></a>" || !p.Done() {
		t.Errorf("W1: %q", p.Out())
	}
}
