package query

import (
	"reflect"
	"regexp"
	"strings"
	"testing"

	"prune/api"
	"prune/chars"
)

// automaton goes through a query's parts with a row of open brackets; it tells where it ends, and builds nothing.
type automaton struct {
	want string   // what may come
	row  []string // for each open bracket, how it is closed, and what may come then
}

var parts = regexp.MustCompile(`^(//|!=|[A-Za-z_\x{80}-\x{10FFFF}][A-Za-z0-9_.\x{80}-\x{10FFFF}-]*|"[^"]*"?|'[^']*'?|(?s:.))`)

// end tells what is wrong with a query (Q1).
func end(q string) (api.Errno, int) {
	if len(q) > 500 {
		return api.ErrLong, 0
	}
	bad := chars.Bad(q)
	text := q[:bad]
	a := automaton{want: "slash"}
	for at := skip(text, 0); at < bad; at = skip(text, at) {
		part := parts.FindString(text[at:])
		next := skip(text, at+len(part))
		call := next < bad && text[next] == '('
		if no := a.step(part, call); no != api.OK {
			return no, at
		}
		if part[0] == '\'' || part[0] == '"' {
			if len(part) == 1 || part[len(part)-1] != part[0] {
				break
			}
		}
		at += len(part)
	}
	switch {
	case bad < len(q):
		return api.ErrChar, bad
	case a.want == "path done", a.want == "path ended":
		return api.OK, 0
	}
	return api.ErrForm, bad
}

func skip(text string, at int) int {
	for at < len(text) && strings.Contains("\t\n\r ", text[at:at+1]) {
		at++
	}
	return at
}

// kind tells how the automaton sees a part.
func kind(part string, call bool) string {
	switch {
	case call && (part == "not" || part == "text"):
		return part + "("
	case chars.Name(part) > 0:
		return "name"
	case part[0] == '\'' || part[0] == '"':
		return "string"
	}
	return part
}

// step takes a part: what may come is written as <where> <what> [<how>], of a path or of a value.
func (a *automaton) step(part string, call bool) api.Errno {
	k := kind(part, call)
	switch a.want {
	case "slash":
		return a.move(k, "/", "path step", "//", "path step")
	case "path step", "value step":
		where := strings.Fields(a.want)[0]
		return a.move(k, "name", where+" done", "*", where+" done", "text(", where+" text1")
	case "value step or @":
		return a.move(k, "name", "value done", "*", "value done", "text(", "value text1", "@", "name")
	case "path text1", "value text1":
		return a.move(k, "(", strings.Fields(a.want)[0]+" text2")
	case "path text2", "value text2":
		return a.move(k, ")", strings.Fields(a.want)[0]+" ended")
	case "path done", "path ended":
		if k == "[" {
			return a.open("]", a.want)
		}
		if a.want == "path done" && (k == "/" || k == "//") {
			a.want = "path step"
			return api.OK
		}
		return a.move(k, "|", "slash")
	case "value done", "value ended":
		if k == "[" {
			return a.open("]", a.want)
		}
		if a.want == "value done" && (k == "/" || k == "//") {
			return a.move(k, "/", "value step or @", "//", "value step")
		}
		return a.valued(k, part)
	case "name":
		return a.move(k, "name", "valued")
	case "dot":
		if k == "//" {
			a.want = "value step"
			return api.OK
		}
		return a.valued(k, part)
	case "valued":
		return a.valued(k, part)
	case "string":
		return a.move(k, "string", "cond")
	case "one":
		if k == "(" {
			return a.open(")", "cond")
		}
		return a.move(k, ".", "dot", "@", "name", "not(", "not", "name", "value done", "*", "value done", "text(", "value text1")
	case "not":
		return a.open(")", "cond")
	}
	return a.cond(k, part)
}

func (a *automaton) valued(k, part string) api.Errno {
	if k == "=" || k == "!=" {
		a.want = "string"
		return api.OK
	}
	return a.cond(k, part)
}

// cond takes what stands behind a condition that is whole.
func (a *automaton) cond(k, part string) api.Errno {
	if part == "or" || part == "and" {
		a.want = "one"
		return api.OK
	}
	if n := len(a.row); n > 0 && strings.HasPrefix(a.row[n-1], k) {
		a.want = a.row[n-1][1:]
		a.row = a.row[:n-1]
		return api.OK
	}
	return api.ErrForm
}

func (a *automaton) open(shut, then string) api.Errno {
	if len(a.row) == 8 {
		return api.ErrDeep
	}
	a.row = append(a.row, shut+then)
	a.want = "one"
	return api.OK
}

// move goes on by pairs of a part's kind and what may come behind it.
func (a *automaton) move(k string, pairs ...string) api.Errno {
	for i := 0; i < len(pairs); i += 2 {
		if pairs[i] == k {
			a.want = pairs[i+1]
			return api.OK
		}
	}
	return api.ErrForm
}

// check holds what the package tells of a query against the automaton, and its plain form against itself.
func check(t *testing.T, q string) {
	t.Helper()
	no, at := end(q)
	l, e, n := Parse(q)
	if e != no || n != at || (l == nil) != (no != api.OK) {
		t.Fatalf("Q1: Parse(%q) = %v, %d, %d, want %d, %d", q, l, e, n, no, at)
	}
	p, e, n := Print(q)
	if e != no || n != at {
		t.Fatalf("Q3: Print(%q) = %q, %d, %d, want %d, %d", q, p, e, n, no, at)
	}
	if no != api.OK || len(p) > 500 {
		return
	}
	if m, e, _ := Parse(p); e != api.OK || !reflect.DeepEqual(l, m) {
		t.Fatalf("Q3: %q is read from %q as %v, %d; from %q as %v", p, q, m, e, q, l)
	}
}

var pieces = []string{"/", "//", "a", "*", "text", "not", "or", "and", "(", ")", "[", "]", ".", "@", "=", "!=", "'x'", "\"", "|", "!", " ", "\xff", "1"}

// Every row of three of some parts, at several places of a query; and of four, in a condition.
func TestRows(t *testing.T) {
	arounds := []string{"", "/a", "/a[", "/a[b", "/a[b ", "/a[.", "/a[((((((b["}
	rows := []string{""}
	for n := range 4 {
		rows = longer(rows)
		if n == 3 {
			arounds = []string{"/a["}
		}
		for _, row := range rows {
			for _, around := range arounds {
				check(t, around+row)
				check(t, around+row+"]")
			}
		}
	}
}

// longer puts each of the pieces behind each row.
func longer(rows []string) []string {
	var all []string
	for _, row := range rows {
		for _, p := range pieces {
			all = append(all, row+p)
		}
	}
	return all
}

// chooser chooses by a row of numbers that its start tells.
type chooser uint32

func (c *chooser) below(n int) int {
	*c = *c*1664525 + 1013904223
	return int(*c>>8) % n
}

func (c *chooser) of(texts ...string) string { return texts[c.below(len(texts))] }

// A query that is made with its paths is read as those; whatever is done to one place of it, the automaton and the package agree.
func TestMade(t *testing.T) {
	for i := range 60000 {
		c := chooser(i)
		m := maker{chooser: &c}
		var paths [][]api.Step
		var texts []string
		for range 1 + c.below(2) {
			steps, text := m.steps(true)
			paths, texts = append(paths, steps), append(texts, text)
		}
		q := strings.Join(texts, m.gap()+"|"+m.gap())
		if len(q) > 500 {
			continue
		}
		if l, no, at := Parse(q); no != api.OK || !reflect.DeepEqual(l, paths) {
			t.Fatalf("Q2: Parse(%q) = %v, %d, %d, want %v", q, l, no, at, paths)
		}
		check(t, q)
		at := c.below(len(q) + 1)
		check(t, q[:at])
		check(t, q[:at]+c.of(pieces...)+q[at:])
		check(t, q[:at]+q[min(len(q), at+1):])
	}
}

// maker makes queries and what they are to be read as.
type maker struct {
	*chooser
	nest int
}

func (m *maker) gap() string { return m.of("", "", "", " ", "\n\t", "\r") }

func (m *maker) steps(path bool) ([]api.Step, string) {
	var steps []api.Step
	var text string
	for i := range 1 + m.below(3) {
		slash := m.of("/", "//")
		if i == 0 && !path {
			slash = m.of("", ". //")
		}
		s, inner := m.step()
		s.Deep = strings.HasSuffix(slash, "//")
		steps, text = append(steps, s), text+slash+m.gap()+inner+m.gap()
		if s.Test == "#" {
			break
		}
	}
	return steps, text
}

func (m *maker) step() (api.Step, string) {
	s := api.Step{Test: m.of("a", "é-.", "*", "#", "not", "or", "and", "text")}
	text := s.Test
	if s.Test == "#" {
		text = "text" + m.gap() + "(" + m.gap() + ")"
	}
	for m.nest < 3 && m.below(3) == 0 {
		m.nest++
		p, inner := m.cond(2)
		m.nest--
		s.Preds = append(s.Preds, p)
		text += m.gap() + "[" + m.gap() + inner + m.gap() + "]"
	}
	return s, text
}

// cond makes an or (2), an and (1) or one (0).
func (m *maker) cond(rank int) (api.Pred, string) {
	if rank == 0 {
		return m.one()
	}
	word := []string{"", "and", "or"}[rank]
	first, text := m.cond(rank - 1)
	kids := []api.Pred{first}
	for m.below(3) == 0 {
		p, inner := m.cond(rank - 1)
		kids = append(kids, p)
		text += " " + m.gap() + word + " " + inner
	}
	if len(kids) == 1 {
		return first, text
	}
	return api.Pred{Op: word, Kids: kids}, text
}

func (m *maker) one() (api.Pred, string) {
	if m.nest < 3 && m.below(4) == 0 {
		m.nest++
		p, inner := m.cond(2)
		m.nest--
		if m.below(2) == 0 {
			return p, "(" + m.gap() + inner + m.gap() + ")"
		}
		return api.Pred{Op: "not", Kids: []api.Pred{p}}, "not" + m.gap() + "(" + m.gap() + inner + m.gap() + ")"
	}
	p, text := m.value()
	p.Op = m.of("has", "=", "!=")
	if p.Op == "has" {
		return p, text
	}
	p.Text = m.of("", "x", "é ]|'", "\"")
	quote := "'"
	if strings.Contains(p.Text, "'") || p.Text == "" {
		quote = "\""
	}
	return p, text + m.gap() + p.Op + m.gap() + quote + p.Text + quote
}

func (m *maker) value() (api.Pred, string) {
	name := m.of("k", "not", "text", "or")
	switch m.below(4) {
	case 0:
		return api.Pred{}, "."
	case 1:
		return api.Pred{Attr: name}, "@" + m.gap() + name
	}
	steps, text := m.steps(false)
	if steps[len(steps)-1].Test == "#" || m.below(2) == 0 {
		return api.Pred{Steps: steps}, text
	}
	return api.Pred{Steps: steps, Attr: name}, text + "/" + m.gap() + "@" + m.gap() + name
}
