package cut

import (
	"reflect"
	"slices"
	"strings"
	"testing"

	"prune/answer"
	"prune/api"
	"prune/chars"
	"prune/samples"
	"prune/spine"
	"prune/token"
	"prune/tree"
)

// oracle goes by the words of X1 and X2: which nodes of a document are kept, and which are shells.
type oracle struct {
	nodes       []api.Node
	kept, shell []bool
}

func newOracle(t *testing.T, doc string, queries []string) oracle {
	t.Helper()
	nodes, no, at := tree.Parse(doc)
	if no != api.OK {
		t.Fatalf("%q: %d at %d", doc, no, at)
	}
	o := oracle{nodes, make([]bool, len(nodes)), make([]bool, len(nodes))}
	o.keep(doc, queries)
	for _, n := range nodes {
		for i := range n.Kids {
			for j := range i {
				o.between(n.Kids[j : i+1])
			}
		}
	}
	return o
}

func (o oracle) keep(doc string, queries []string) {
	o.kept[0] = true
	paths, _, _, _ := spine.Paths(queries)
	for _, path := range paths {
		steps, whole := strings.CutSuffix(path, "#")
		led, _, _, _ := answer.Eval(doc, steps) // steps behind a text are no query, and lead nowhere
		for _, k := range led {
			o.kept[k] = true
			for in := range o.nodes {
				o.kept[in] = o.kept[in] || whole && o.within(in, k)
			}
		}
	}
	for k := range o.nodes {
		for in := range o.nodes {
			o.kept[k] = o.kept[k] || o.kept[in] && o.within(in, k)
		}
	}
}

func (o oracle) within(k, around int) bool {
	up := o.nodes[k].Up
	return up == around || up >= 0 && o.within(up, around)
}

// between looks at Kids that stand side by side: whether the first and the last one are kept texts, and none between is kept.
func (o oracle) between(kids []int) {
	first, last := kids[0], kids[len(kids)-1]
	if o.nodes[first].Name == "" && o.nodes[last].Name == "" && o.kept[first] && o.kept[last] && !slices.ContainsFunc(kids[1:len(kids)-1], func(k int) bool { return o.kept[k] }) {
		o.shell[kids[1]] = true
	}
}

// plain is the plain form of node k of the projection.
func (o oracle) plain(k int) string {
	n := o.nodes[k]
	if n.Name == "" {
		return chars.Escape(n.Text, false)
	}
	s := "<" + n.Name
	for _, a := range n.Attrs {
		s += " " + a.Name + "=\"" + chars.Escape(a.Value, true) + "\""
	}
	inner := ""
	for _, kid := range n.Kids {
		if o.kept[k] && (o.kept[kid] || o.shell[kid]) {
			inner += o.plain(kid)
		}
	}
	if inner == "" {
		return s + "/>"
	}
	return s + ">" + inner + "</" + n.Name + ">"
}

// certain are those of a document's first tokens that are to be answered behind them: if all that is open were closed now, what is kept, and a shell, would be so however the document goes on.
func certain(t *testing.T, tokens []api.Token, queries []string) []api.Token {
	t.Helper()
	var doc strings.Builder
	var open, numbers []int // the elements that are open; of each token its node, or -1
	nodes := 0
	for _, x := range tokens {
		number := -1
		switch {
		case x.Kind == 2:
			number = open[len(open)-1]
			open = open[:len(open)-1]
			doc.WriteString("</" + x.Name + ">")
		case x.Kind == 1:
			number = nodes
			nodes++
			open = append(open, number)
			doc.WriteString("<" + x.Name)
			for _, a := range x.Attrs {
				doc.WriteString(" " + a.Name + "=\"" + chars.Escape(a.Value, true) + "\"")
			}
			doc.WriteString(">")
		case len(open) > 0:
			number = nodes
			nodes++
			doc.WriteString(chars.Escape(x.Text, false))
		}
		numbers = append(numbers, number)
	}
	if nodes == 0 {
		return nil
	}
	for _, k := range slices.Backward(open) {
		doc.WriteString("</" + tokens[slices.Index(numbers, k)].Name + ">")
	}
	o := newOracle(t, doc.String(), queries)
	var all []api.Token
	for i, k := range numbers {
		if k >= 0 && (o.kept[k] || o.shell[k]) {
			all = append(all, tokens[i])
		}
	}
	return all
}

// Documents and queries that dice choose: what is kept is held against the oracle.
func TestAgainstOracle(t *testing.T) {
	shells, none := 0, 0
	for i := range 10000 {
		d := samples.Dice(i * 7)
		doc, queries := d.Document(), d.Queries()
		o := newOracle(t, doc, queries)
		want := o.plain(0)
		if slices.Contains(o.shell, true) {
			shells++
		}
		if len(queries) == 0 {
			none++
		}
		if s, no, at, which := Project(doc, queries); s != want || no != api.OK || at != 0 || which != 0 {
			t.Fatalf("X1 to X3: Project(%q, %q) = %q, %d, %d, %d, want %q", doc, queries, s, no, at, which, want)
		}
	}
	if shells < 500 || none < 1000 {
		t.Errorf("%d documents with shells, %d without queries", shells, none)
	}
}

// What is answered behind each of a document's tokens.
func TestPushAgainstOracle(t *testing.T) {
	for i := range 1000 {
		d := samples.Dice(i * 13)
		doc, queries := d.Document(), d.Queries()
		tokens, _, _ := token.All(doc)
		p := pruner(t, queries...)
		var told []api.Token
		for i, x := range tokens {
			told = append(told, p.Push(x)...)
			if want := certain(t, tokens[:i+1], queries); !reflect.DeepEqual(told, want) {
				t.Fatalf("X4: %q for %q: behind %d tokens %v, want %v", doc, queries, i+1, told, want)
			}
		}
	}
}

// led tells the plain forms of the nodes to which a query leads.
func led(t *testing.T, doc, q string) []string {
	t.Helper()
	nodes, no, at, which := answer.Eval(doc, q)
	if no != api.OK {
		t.Fatalf("%q, %q: %d, %d, %d", doc, q, no, at, which)
	}
	var all []string
	for _, k := range nodes {
		s, _, _ := tree.Sub(doc, k)
		all = append(all, s)
	}
	return all
}

func TestNothingIsMissed(t *testing.T) {
	found := 0
	for i := range 5000 {
		d := samples.Dice(i*11 + 5)
		doc, queries := d.Document(), d.Queries()
		s, no, _, _ := Project(doc, queries)
		if again, _, _, _ := Project(s, queries); no != api.OK || again != s {
			t.Fatalf("X5: %q for %q: %q, of which the projection is %q", doc, queries, s, again)
		}
		if whole, _, _ := tree.Print(doc); len(s) > len(whole) {
			t.Fatalf("X5: %q for %q: %q is longer than %q", doc, queries, s, whole)
		}
		for _, q := range queries {
			want := led(t, doc, q)
			found += len(want)
			if l := led(t, s, q); !slices.Equal(l, want) {
				t.Fatalf("X5: %q leads to %q in %q, the projection of %q for %q, want %q", q, l, s, doc, queries, want)
			}
		}
	}
	if found < 10000 {
		t.Errorf("only %d nodes are led to", found)
	}
}
