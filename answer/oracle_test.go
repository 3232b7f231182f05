package answer

import (
	"reflect"
	"strings"
	"testing"

	"prune/api"
	"prune/query"
	"prune/tree"
)

// oracle goes by the words of E1 and E2: for each step it asks each node whether it stands where the step leads; it keeps nothing.
type oracle struct {
	doc   string
	nodes []api.Node
}

// inside tells whether a node lies right within another, or anywhere within it; -1 is the document.
func (o oracle) inside(k, around int, deep bool) bool {
	up := o.nodes[k].Up
	return up == around || deep && up >= 0 && o.inside(up, around, true)
}

func (o oracle) leads(from int, steps []api.Step) []bool {
	at := make([]bool, len(o.nodes)+1) // the document's place is the last one
	at[(from+len(at))%len(at)] = true
	for _, s := range steps {
		next := make([]bool, len(at))
		for k := range o.nodes {
			for a := -1; a < len(o.nodes) && !next[k]; a++ {
				next[k] = at[(a+len(at))%len(at)] && o.inside(k, a, s.Deep) && o.fits(k, s)
			}
		}
		at = next
	}
	return at[:len(o.nodes)]
}

func (o oracle) fits(k int, s api.Step) bool {
	n := o.nodes[k]
	if (s.Test == "#") != (n.Name == "") || s.Test != "#" && s.Test != "*" && s.Test != n.Name {
		return false
	}
	for _, p := range s.Preds {
		if !o.holds(k, p) {
			return false
		}
	}
	return true
}

func (o oracle) holds(k int, p api.Pred) bool {
	count := 0
	for _, kid := range p.Kids {
		if o.holds(k, kid) {
			count++
		}
	}
	switch p.Op {
	case "or":
		return count > 0
	case "and":
		return count == len(p.Kids)
	case "not":
		return count == 0
	}
	values := o.values(k, p)
	for _, v := range values {
		if v == p.Text {
			count++
		}
	}
	return map[string]bool{"has": len(values) > 0, "=": count > 0, "!=": count < len(values)}[p.Op]
}

func (o oracle) values(k int, p api.Pred) []string {
	var all []string
	for at, is := range o.leads(k, p.Steps) {
		if is && p.Attr == "" {
			v, _, _ := tree.Value(o.doc, at)
			all = append(all, v)
		}
		for _, a := range o.nodes[at].Attrs {
			if is && a.Name == p.Attr {
				all = append(all, a.Value)
			}
		}
	}
	return all
}

func check(t *testing.T, doc, q string) {
	t.Helper()
	paths, no, at := query.Parse(q)
	if no != api.OK {
		t.Fatalf("%q: %d at %d", q, no, at)
	}
	nodes, no, at := tree.Parse(doc)
	if no != api.OK {
		t.Fatalf("%q: %d at %d", doc, no, at)
	}
	o := oracle{doc, nodes}
	led := make([]bool, len(nodes))
	for _, p := range paths {
		for k, is := range o.leads(-1, p) {
			led[k] = led[k] || is
		}
	}
	var want []int
	for k, is := range led {
		if is {
			want = append(want, k)
		}
	}
	if l, no, at, which := Eval(doc, q); !reflect.DeepEqual(l, want) || no != api.OK || at != 0 || which != 0 {
		t.Fatalf("E1 to E3: Eval(%q, %q) = %#v, %d, %d, %d, want %#v", doc, q, l, no, at, which, want)
	}
}

// documents are all that consist of so many of these pieces, within an element.
func documents(pieces int) []string {
	type half struct {
		text string
		open []string
	}
	all := []half{{"<a>", []string{"a"}}}
	var whole []string
	for range pieces {
		var next []half
		for _, h := range all {
			n := len(h.open)
			for _, tag := range []string{"a", "b k='x'", "b k='' j='x'"} {
				next = append(next, half{h.text + "<" + tag + ">", append(h.open[:n:n], tag[:1])})
			}
			if !strings.HasSuffix(h.text, "x") && !strings.HasSuffix(h.text, "y") {
				next = append(next, half{h.text + "x", h.open}, half{h.text + "y", h.open})
			}
			if n > 1 {
				next = append(next, half{h.text + "</" + h.open[n-1] + ">", h.open[:n-1]})
			}
		}
		all = next
	}
	for _, h := range all {
		for n := len(h.open) - 1; n >= 0; n-- {
			h.text += "</" + h.open[n] + ">"
		}
		whole = append(whole, h.text)
	}
	return whole
}

// simple are conditions of one value; heaped are made of others.
func simple() []string {
	var all []string
	for _, value := range []string{".", "@k", "@j", "a", "*", "text()", ".//b", ".//text()", "b/@k", "*//b", ".//*/text()", ".//a/@k", "a//*//text()"} {
		for _, end := range []string{"", "='x'", "!='x'", "=''", "!='xy'"} {
			all = append(all, value+end)
		}
	}
	return all
}

func heaped(conds []string) []string {
	var all []string
	for i, c := range conds {
		d, e := conds[(i*7+3)%len(conds)], conds[(i*11+5)%len(conds)]
		all = append(all, "not("+c+")", c+" or "+d, c+" and "+d, "("+c+" or "+d+") and "+e, c+" or "+d+" and not("+e+")", "*["+c+"]", ".//b["+c+"]["+d+"]", "text()["+c+"]", ".//*["+c+"]/*!='x'", "a["+c+"]//*["+d+"]/@k='x'")
	}
	return all
}

var shapes = []string{"//*[C]", "//text()[C]", "/a[C]//*", "/a/*[C]/text()|//a[C]", "//a[C]/b", "//*[C]//*", "//b[a][C]|//a//a"}

// Every document of a few pieces, with conditions one by one; greater ones, with conditions of conditions.
func TestAgainstOracle(t *testing.T) {
	conds := simple()
	small := documents(3)
	for i, doc := range small {
		for j, c := range conds {
			check(t, doc, strings.ReplaceAll(shapes[(i+j)%len(shapes)], "C", c))
		}
	}
	great := documents(5)
	once := heaped(conds)
	twice := heaped(once)
	for i := range 40000 {
		doc := great[i*7919%len(great)]
		c := once[i*31%len(once)]
		if i%2 == 0 {
			c = twice[i*37%len(twice)]
		}
		check(t, doc, strings.ReplaceAll(shapes[i%len(shapes)], "C", c))
	}
}
