package flow

import (
	"strings"
	"testing"

	"prune/api"
	"prune/chars"
	"prune/cut"
	"prune/token"
	"prune/tree"
)

// What a stage does in one step.
const (
	get = iota // a byte, or the end of the text
	put
	take
	fail // take a token that is wrong
	quit
)

// model tells what each stage does, one step after the other: which of the others steps when has no part in that, only in whether it can.
type model struct {
	scripts [3][]int
	kept    []api.Token
	rooms   [2]int
	no      api.Errno
	at      int
}

func newModel(t *testing.T, doc string, queries []string, c1, c2 int) *model {
	t.Helper()
	m := &model{rooms: [2]int{c1, c2}}
	_, m.no, m.at = tree.Parse(doc)
	r := token.New()
	p, _, _, _ := cut.New(queries)
	failed := false
	for i := range len(doc) + 1 {
		var told []api.Token
		if i < len(doc) {
			told = r.Write(doc[i : i+1])
		} else {
			told = r.Close()
		}
		m.scripts[0] = append(m.scripts[0], get)
		for _, x := range told {
			m.scripts[0] = append(m.scripts[0], put)
			if !failed {
				failed = m.prune(p, x)
			}
		}
	}
	m.scripts[0] = append(m.scripts[0], quit)
	if !failed {
		m.scripts[1] = append(m.scripts[1], quit)
	}
	for range m.kept {
		m.scripts[2] = append(m.scripts[2], take)
	}
	m.scripts[2] = append(m.scripts[2], quit)
	return m
}

// prune tells whether the token is the one that R1 refuses: no other wrong thing has these errors.
func (m *model) prune(p *cut.Pruner, x api.Token) bool {
	if (m.no == api.ErrMatch || m.no == api.ErrRoot || m.no == api.ErrDeep) && m.at == x.At {
		m.scripts[1] = append(m.scripts[1], fail)
		return true
	}
	kept := p.Push(x)
	m.scripts[1] = append(m.scripts[1], take)
	for range kept {
		m.scripts[1] = append(m.scripts[1], put)
	}
	m.kept = append(m.kept, kept...)
	return false
}

// spot is how many steps each stage has done.
type spot [3]int

// count tells how often a stage has done something.
func (m *model) count(at spot, stage, what int) int {
	n := 0
	for _, x := range m.scripts[stage][:at[stage]] {
		if x == what {
			n++
		}
	}
	return n
}

func (m *model) failed(at spot) bool { return m.count(at, 1, fail) > 0 }

func (m *model) over(at spot, stage int) bool {
	return at[stage] == len(m.scripts[stage]) || stage == 0 && m.failed(at)
}

func (m *model) held(at spot) [2]int {
	held := [2]int{m.count(at, 0, put) - m.count(at, 1, take), m.count(at, 1, put) - m.count(at, 2, take)}
	if m.failed(at) {
		held[0] = 0
	}
	return held
}

func (m *model) can(at spot, stage int) bool {
	if m.over(at, stage) {
		return false
	}
	switch m.scripts[stage][at[stage]] {
	case put:
		return m.held(at)[stage] < m.rooms[stage]
	case take, fail:
		return m.held(at)[stage-1] > 0
	case quit:
		return stage == 0 || m.over(at, stage-1)
	}
	return true
}

func (m *model) done(at spot) bool {
	return m.over(at, 0) && m.over(at, 1) && m.over(at, 2)
}

// out writes tokens by looking at those beside them.
func (m *model) out(at spot) string {
	var s strings.Builder
	n := m.count(at, 2, take)
	for i, x := range m.kept[:n] {
		switch {
		case x.Kind == 3:
			s.WriteString(chars.Escape(x.Text, false))
		case x.Kind == 2 && m.kept[i-1].Kind != 1:
			s.WriteString("</" + x.Name + ">")
		case x.Kind == 1:
			s.WriteString("<" + x.Name)
			for _, a := range x.Attrs {
				s.WriteString(" " + a.Name + "=\"" + chars.Escape(a.Value, true) + "\"")
			}
			switch {
			case i+1 < n && m.kept[i+1].Kind == 2:
				s.WriteString("/>")
			case i+1 < n || m.over(at, 2):
				s.WriteString(">")
			}
		}
	}
	return s.String()
}

// check holds all that a plant tells against the model.
func (m *model) check(t *testing.T, p *Plant, at spot, doc string) {
	t.Helper()
	for stage := range 3 {
		if can := p.Can(stage); can != m.can(at, stage) {
			t.Fatalf("W2 to W5: %q: behind %v steps: Can(%d) is %v", doc, at, stage, can)
		}
	}
	first, second := p.Held()
	if held := m.held(at); first != held[0] || second != held[1] || first > m.rooms[0] || second > m.rooms[1] {
		t.Fatalf("W5: %q: behind %v steps: %d and %d are held, want %v", doc, at, first, second, held)
	}
	if out := m.out(at); p.Out() != out {
		t.Fatalf("W4: %q: behind %v steps: %q, want %q", doc, at, p.Out(), out)
	}
	want, place := api.OK, 0
	if m.done(at) {
		want, place = m.no, m.at
	} else if !p.Can(0) && !p.Can(1) && !p.Can(2) {
		t.Fatalf("W6: %q: behind %v steps none can step", doc, at)
	}
	if no, n := p.Err(); p.Done() != m.done(at) || no != want || n != place {
		t.Fatalf("W5: %q: behind %v steps: %v, %d, %d, want %v, %d, %d", doc, at, p.Done(), no, n, m.done(at), want, place)
	}
}

// finish holds the end of a run against the projection.
func (m *model) finish(t *testing.T, p *Plant, at spot, doc string, queries []string) {
	t.Helper()
	if n := at[0] + at[1] + at[2]; n > 5*len(doc)+8 {
		t.Fatalf("W6: %q: %d steps", doc, n)
	}
	if s, no, _, _ := cut.Project(doc, queries); no == api.OK && p.Out() != s {
		t.Fatalf("W6: %q: %q, want %q", doc, p.Out(), s)
	}
}

var documents = []string{
	"", " ", "x", "<a/>", "<a></a>", "<a", "<a>", "<", "</a>", "<a/><b/>", "<a/>x", "x<a/>", "<a></b>", "<a>\xff</a>", "<a>x&</a>", "<a k='' k=''/>", " <a/> ",
	"<a>x<b/>y</a>", "<a>x<b k='1'><c/></b><d/>y</a>", "<a><b>x</b><c/></a>", "<a><c><b>&lt;</b></c></a>", "<a><b><c/>x</b></a></a>", "<a><b>x</b></c><d/>", "<a><b/><b>", "<a>x<b>y</b></a>z<d/>", "<a><b></b><!--c--><b/></a><a", "<a><b/></c><\xff",
	strings.Repeat("<a>", 31), strings.Repeat("<a>", 30) + "x<b/>",
}

// Wherever stages can come to by any order of steps, each place once: it hangs on how many steps each has done.
func TestEveryOrder(t *testing.T) {
	for i, doc := range documents {
		for _, queries := range [][]string{nil, {"/a/b"}, {"//text()"}, {"/a/text()", "//c"}} {
			for _, rooms := range [][2]int{{1, 1}, {2, 1}, {1, 3}, {100, 100}} {
				if len(doc) > 40 && (i+rooms[0]+len(queries))%4 > 0 {
					continue
				}
				walk(t, newModel(t, doc, queries, rooms[0], rooms[1]), doc, queries)
			}
		}
	}
}

// walk goes to each spot on the way on which it was found first.
func walk(t *testing.T, m *model, doc string, queries []string) {
	t.Helper()
	ways := map[spot][]int{{}: nil}
	for due := []spot{{}}; len(due) > 0; due = due[1:] {
		at := due[0]
		p := plant(t, doc, queries, m.rooms[0], m.rooms[1])
		for _, stage := range ways[at] {
			if !p.Step(stage) {
				t.Fatalf("W5: %q: no step of %d on the way %v", doc, stage, ways[at])
			}
		}
		m.check(t, p, at, doc)
		if m.done(at) {
			m.finish(t, p, at, doc, queries)
		}
		for stage := range 3 {
			next := at
			next[stage]++
			if _, ok := ways[next]; !ok && m.can(at, stage) {
				way := ways[at]
				ways[next] = append(way[:len(way):len(way)], stage)
				due = append(due, next)
			}
		}
	}
}

// Greater documents, in some orders: numbers choose the stage, one of them more often than the others.
func TestManyOrders(t *testing.T) {
	queries := []string{"/a/b", "//c[b]/text()", "//d/text()"}
	for _, doc := range []string{
		"<a>" + strings.Repeat("x<b k='&quot;'>y<c/></b><d>z<e/><b/>z</d>", 4) + "</a>\n",
		"<a>" + strings.Repeat("<c>x<b/>y</c>", 6) + "</b>" + strings.Repeat("<c>x<b/>y</c>", 6),
		"<a>" + strings.Repeat("<c><d>x<b/>y</d></c>", 6) + "<a k='&'/></a>",
		"<a>" + strings.Repeat("<d/>x", 20) + "</a>",
	} {
		texts := map[string]int{}
		for i := range 60 {
			m := newModel(t, doc, queries, 1+i%7, 1+i%3)
			p := plant(t, doc, queries, 1+i%7, 1+i%3)
			at := spot{}
			for seed := uint32(i); !m.done(at); {
				seed = seed*1664525 + 1013904223
				stage := [4]int{0, 1, 2, i % 3}[int(seed>>8)%4]
				can := m.can(at, stage)
				if p.Step(stage) != can {
					t.Fatalf("W5: %q: behind %v steps: not %v of %d", doc, at, can, stage)
				}
				if can {
					at[stage]++
					m.check(t, p, at, doc)
				}
			}
			m.finish(t, p, at, doc, queries)
			texts[p.Out()]++
		}
		if len(texts) != 1 {
			t.Errorf("W6: %q: %d texts", doc, len(texts))
		}
	}
}
