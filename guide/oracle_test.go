package guide

import (
	"strings"
	"testing"

	"prune/answer"
	"prune/api"
	"prune/query"
	"prune/samples"
	"prune/steps"
	"prune/tree"
)

// label goes by the words of D1.
func label(nodes []api.Node, k int) string {
	if k < 0 {
		return ""
	}
	around := label(nodes, nodes[k].Up)
	if nodes[k].Name == "" {
		return around + "/#"
	}
	return around + "/" + nodes[k].Name
}

func checkOf(t *testing.T, doc string, nodes []api.Node, labels []api.Label) {
	t.Helper()
	counts, order := map[string]int{}, []string{}
	for k := range nodes {
		path := label(nodes, k)
		if counts[path] == 0 {
			order = append(order, path)
		}
		counts[path]++
	}
	if len(labels) != len(order) {
		t.Fatalf("D1: Of(%q) = %v, want %q", doc, labels, order)
	}
	for i, l := range labels {
		if l.Path != order[i] || l.Count != counts[l.Path] {
			t.Fatalf("D1: Of(%q) = %v, want %q, %v", doc, labels, order, counts)
		}
	}
}

// bare is a query without conditions.
func bare(t *testing.T, q string) string {
	t.Helper()
	paths, no, at := query.Parse(q)
	if no != api.OK {
		t.Fatalf("%q: %d at %d", q, no, at)
	}
	var all []string
	for _, path := range paths {
		all = append(all, steps.Bare(path))
	}
	return strings.Join(all, "|")
}

// checkMay holds each label against the nodes to which a query leads without its conditions, and tells whether one of them may be led to.
func checkMay(t *testing.T, doc string, nodes []api.Node, labels []api.Label, q string) bool {
	t.Helper()
	led, _, _, _ := answer.Eval(doc, bare(t, q))
	ends := map[string]bool{}
	for _, k := range led {
		ends[label(nodes, k)] = true
	}
	for _, l := range labels {
		if may, no, at := May([]api.Label{l}, q); may != ends[l.Path] || no != api.OK || at != 0 {
			t.Fatalf("D2: of %q: May(%q) = %v, %d, %d", l.Path, q, may, no, at)
		}
	}
	may, no, at := May(labels, q)
	if may != (len(led) > 0) || no != api.OK || at != 0 {
		t.Fatalf("D2, D3: of %q: May(%q) = %v, %d, %d, and without conditions it leads to %v", doc, q, may, no, at, led)
	}
	return may
}

// Documents and queries that numbers choose.
func TestAgainstAnswers(t *testing.T) {
	denied, leading := 0, 0
	for i := range 3000 {
		d := samples.Dice(i*19 + 3)
		doc := d.Document()
		nodes, _, _ := tree.Parse(doc)
		labels, no, at := Of(doc)
		if no != api.OK || at != 0 {
			t.Fatalf("D1: %q: %d at %d", doc, no, at)
		}
		checkOf(t, doc, nodes, labels)
		for _, q := range append(d.Queries(), d.Path(0), d.Path(1)+"|"+d.Path(0)) {
			may := checkMay(t, doc, nodes, labels, q)
			led, _, _, _ := answer.Eval(doc, q)
			switch {
			case !may && len(led) > 0:
				t.Fatalf("D3: of %q: May denies %q, which leads to %v", doc, q, led)
			case !may:
				denied++
			case len(led) > 0:
				leading++
			}
		}
	}
	if denied < 2000 || leading < 2000 {
		t.Errorf("%d are denied, %d lead to something", denied, leading)
	}
}
