package spine

import (
	"reflect"
	"regexp"
	"slices"
	"strings"
	"testing"

	"prune/answer"
	"prune/api"
	"prune/tree"
)

// maker makes queries, and writes down what they need as it goes.
type maker struct {
	seed   uint32
	nest   int
	needed []string
}

func (m *maker) below(n int) int {
	m.seed = m.seed*1664525 + 1013904223
	return int(m.seed>>8) % n
}

func (m *maker) of(texts ...string) string { return texts[m.below(len(texts))] }

// need writes a path down; its end is "#", if it is to be whole, and that is not said of a text.
func (m *maker) need(path, end string) {
	if strings.HasSuffix(path, "text()") {
		end = ""
	}
	m.needed = append(m.needed, path+end)
}

// steps makes steps behind others: the text of the query, and the path without conditions.
func (m *maker) steps(path string, first ...string) (string, string) {
	var text string
	for i := range 1 + m.below(3) {
		slash := m.of("/", "/", "//")
		if i == 0 {
			slash = m.of(first...)
		}
		test := m.of("a", "b", "c", "*", "a", "b", "text()")
		if !strings.HasSuffix(slash, "/") {
			path += "/"
		}
		path += strings.TrimPrefix(slash, ".") + test
		text += slash + test + m.conds(path)
		if test == "text()" {
			break
		}
	}
	return text, path
}

func (m *maker) conds(path string) string {
	var text string
	for m.nest < 4 && m.below(4) == 0 {
		text += "[" + m.inner(path) + "]"
	}
	return text
}

// inner makes a condition within one bracket more.
func (m *maker) inner(path string) string {
	m.nest++
	text := m.cond(path)
	m.nest--
	return text
}

func (m *maker) cond(path string) string {
	switch kind := m.below(6); {
	case kind == 0 && m.nest < 4:
		return "not(" + m.inner(path) + ")"
	case kind == 1 && m.nest < 4:
		left := m.inner(path)
		return "(" + left + m.of(" or ", " and ") + m.inner(path) + ")"
	case kind == 2:
		op := m.of("", "='x'", "!=''")
		m.need(path, ends(op))
		return "." + op
	case kind == 3:
		m.need(path, "")
		return "@k" + m.of("", "='x'", "!=''")
	}
	text, path := m.steps(path, "", ".//")
	op := m.of("", "='x'", "!=''")
	if !strings.HasSuffix(path, "text()") && m.below(3) == 0 {
		m.need(path, "")
		return text + "/@k" + op
	}
	m.need(path, ends(op))
	return text + op
}

func ends(op string) string {
	if op == "" {
		return ""
	}
	return "#"
}

func (m *maker) query() string {
	var paths []string
	for range 1 + m.below(2) {
		text, path := m.steps("", "/", "/", "//")
		m.need(path, "#")
		paths = append(paths, text)
	}
	return strings.Join(paths, "|")
}

// once leaves each text where it comes first.
func once(texts []string) []string {
	var all []string
	for _, x := range texts {
		if !slices.Contains(all, x) {
			all = append(all, x)
		}
	}
	return all
}

// oracle holds rows, written as "/a/b" (and "/text()" for a text within), against needed paths as regular expressions.
type oracle struct {
	needed, whole []*regexp.Regexp
}

func newOracle(paths []string) oracle {
	var o oracle
	for _, p := range paths {
		steps, whole := strings.CutSuffix(p, "#")
		text := strings.ReplaceAll(steps, "//", "(/[a-z]+)*/")
		text = regexp.QuoteMeta(text)
		text = strings.ReplaceAll(text, regexp.QuoteMeta("(/[a-z]+)*/"), "(/[a-z]+)*/")
		text = strings.ReplaceAll(text, `/\*`, "/[a-z]+")
		expr := regexp.MustCompile("^" + text + "$")
		o.needed = append(o.needed, expr)
		if whole {
			o.whole = append(o.whole, expr)
		}
	}
	return o
}

func leads(paths []*regexp.Regexp, row string) bool {
	return slices.ContainsFunc(paths, func(p *regexp.Regexp) bool { return p.MatchString(row) })
}

// told writes what is to be told of a row, as the function of that name does of a state.
func (o oracle) told(row string) string {
	var all string
	if row != "" && leads(o.needed, row) {
		all += "k"
	}
	for i := range row {
		if row[i] == '/' && i > 0 && leads(o.whole, row[:i]) || i == len(row)-1 && leads(o.whole, row) {
			all += "w"
			break
		}
	}
	if o.texts(row) {
		all += "t"
	}
	if o.live(row, 4) {
		all += "l"
	}
	return all
}

func (o oracle) texts(row string) bool { return row != "" && leads(o.needed, row+"/text()") }

// live tries all names behind a row, up to so many.
func (o oracle) live(row string, names int) bool {
	if o.texts(row) {
		return true
	}
	for _, name := range []string{"/a", "/b", "/c"} {
		if names > 0 && (leads(o.needed, row+name) || o.live(row+name, names-1)) {
			return true
		}
	}
	return false
}

// Queries that are made together with what they need; and for each row of a few names what is told of it.
func TestMade(t *testing.T) {
	for i := range 6000 {
		m := maker{seed: uint32(i)}
		var queries []string
		for range 1 + m.below(2) {
			queries = append(queries, m.query())
		}
		want := once(m.needed)
		if l, no, at, which := Paths(queries); !reflect.DeepEqual(l, want) || no != api.OK || at != 0 || which != 0 {
			t.Fatalf("S1, S2: Paths(%q) = %q, %d, %d, %d, want %q", queries, l, no, at, which, want)
		}
		// the oracle's live looks no further
		if i%4 == 0 && !slices.ContainsFunc(want, func(p string) bool { return strings.Count(p, "/")-strings.Count(p, "//") > 4 }) {
			checkRows(t, spineOf(t, queries...), newOracle(want), queries)
		}
	}
}

func checkRows(t *testing.T, s *Spine, o oracle, queries []string) {
	t.Helper()
	rows := []string{""}
	for range 4 {
		var longer []string
		for _, row := range rows {
			state := follow(s, strings.ReplaceAll(row, "/", " "))
			if got, want := told(s, state), o.told(row); got != want {
				t.Fatalf("S3: %q: row %q: %q, want %q", queries, row, got, want)
			}
			for _, name := range []string{"/a", "/b", "/c", "/z"} {
				longer = append(longer, row+name)
			}
		}
		rows = longer
	}
}

// Whatever a query leads to in a document, its spine knows: of an element all of it, and of a text that a text is needed there.
func TestAgainstAnswers(t *testing.T) {
	docs := []string{"<a>x<b>x<a/>y<c k='x'>x</c></b><c/>y<a><b><b k='y'>x</b>y</b></a></a>", "<b><a k='x'><a>x</a>x</a>y<c><a>x<b/></a><c>x</c></c></b>", "<c><b k='x'>x</b></c>"}
	for i := range 5000 {
		m := maker{seed: uint32(i)}
		q := m.query()
		s := spineOf(t, q)
		for _, doc := range docs {
			nodes, _, _ := tree.Parse(doc)
			led, _, _, _ := answer.Eval(doc, q)
			for _, k := range led {
				if got := told(s, stateOf(s, nodes, k)); nodes[k].Name == "" && !strings.Contains(got, "t") || nodes[k].Name != "" && !strings.Contains(got, "kw") {
					t.Fatalf("S3: %q leads to node %d of %q, and %q is told of it", q, k, doc, got)
				}
			}
		}
	}
}

// stateOf is the state of an element, or that of the one around a text.
func stateOf(s *Spine, nodes []api.Node, k int) int {
	if k < 0 {
		return s.Start()
	}
	up := stateOf(s, nodes, nodes[k].Up)
	if nodes[k].Name == "" {
		return up
	}
	return s.Next(up, nodes[k].Name)
}
