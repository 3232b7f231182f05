package tree

import (
	"math"
	"reflect"
	"strings"
	"testing"

	"prune/api"
)

func TestErrors(t *testing.T) {
	deep := strings.Repeat("<a>", 30)
	flat := strings.Repeat("<a>", 29) + strings.Repeat("<b/>", 3)
	for _, c := range []struct {
		s  string
		no api.Errno
		at int
	}{
		// a closing tag that closes what is not open
		{"</a>", api.ErrMatch, 0}, {" \n</a>", api.ErrMatch, 2}, {"<!-- --></a>", api.ErrMatch, 8}, {"<a></b>", api.ErrMatch, 3}, {"<a></a></a>", api.ErrMatch, 7}, {"<a/></a>", api.ErrMatch, 4},
		{"<a><b></a></b>", api.ErrMatch, 6}, {"<a></A>", api.ErrMatch, 3}, {"<a>é</aa>", api.ErrMatch, 5}, {"<ab></a>", api.ErrMatch, 4}, {"<a><b></b></b></a>", api.ErrMatch, 10},
		{"<a></b><", api.ErrMatch, 3}, {"<a></b>\xff", api.ErrMatch, 3}, {"<a></b>&", api.ErrMatch, 3}, {"<a></b><c k='' k=''>", api.ErrMatch, 3}, {"<a></b></c>", api.ErrMatch, 3}, {"</a>" + deep + "<a>", api.ErrMatch, 0},
		// something beside the root
		{"<a/><b/>", api.ErrRoot, 4}, {"<a></a><a>", api.ErrRoot, 7}, {"<a/> <a/>", api.ErrRoot, 5}, {"<a/><!-- --><a/>", api.ErrRoot, 12}, {"<a/><a/></b>", api.ErrRoot, 4}, {"<a/><b></c>", api.ErrRoot, 4},
		{"x<a/>", api.ErrRoot, 0}, {"  x<a/>", api.ErrRoot, 0}, {"<!---->x<a/>", api.ErrRoot, 7}, {"<a/>x", api.ErrRoot, 4}, {"<a/> x", api.ErrRoot, 4}, {"<a/> <?o?> x", api.ErrRoot, 4}, {"<a/><![CDATA[x]]>", api.ErrRoot, 13},
		{"<a/>&#33;", api.ErrRoot, 4}, {"<a/>&lt;", api.ErrRoot, 4}, {"<a/>\u00a0", api.ErrRoot, 4}, {"<a/>\u0085", api.ErrRoot, 4}, {"<a/>\u2003", api.ErrRoot, 4}, {"x", api.ErrRoot, 0}, {"x</a>", api.ErrRoot, 0}, {"<a/>x</a><", api.ErrRoot, 4}, {"x<a><", api.ErrRoot, 0},
		// too deep
		{deep + "<a>", api.ErrDeep, 90}, {deep + "x<b/>", api.ErrDeep, 91}, {deep + "<a></b>", api.ErrDeep, 90}, {deep + "<a><", api.ErrDeep, 90}, {flat + "<a><c>", api.ErrDeep, len(flat) + 3}, {deep + "</a><a><b k='1'/>", api.ErrDeep, 97},
		// what is wrong with the text, behind all that is wrong with its tokens
		{"<", api.ErrForm, 1}, {"<a>\xff", api.ErrChar, 3}, {"<a>x&y</a>", api.ErrRef, 4}, {"<a k='1' k='2'/>", api.ErrTwice, 9}, {"<a/>x<", api.ErrForm, 6}, {"x<", api.ErrForm, 2}, {"x&", api.ErrRef, 1}, {"<a/>x\x00", api.ErrChar, 5},
		{deep + "<a", api.ErrForm, 92}, {"<a></b", api.ErrForm, 6}, {"<a/><b", api.ErrForm, 6}, {"<a/><b k='' k=''>", api.ErrTwice, 12}, {"<a>\x00</b>", api.ErrChar, 3}, {"<!--x", api.ErrForm, 5},
		// a text that ends too early
		{"", api.ErrForm, 0}, {" ", api.ErrForm, 1}, {"<!--c-->\n", api.ErrForm, 9}, {"&#32;", api.ErrForm, 5}, {"<?o?>", api.ErrForm, 5}, {"<a>", api.ErrForm, 3}, {"<a>x", api.ErrForm, 4}, {"<a><b></b>é", api.ErrForm, 12}, {"<a><b/> ", api.ErrForm, 8}, {deep, api.ErrForm, 90},
	} {
		if l, no, at := Parse(c.s); l != nil || no != c.no || at != c.at {
			t.Errorf("R1: Parse(%q) = %v, %d, %d, want %d, %d", c.s, l, no, at, c.no, c.at)
		}
		if p, no, at := Print(c.s); p != "" || no != c.no || at != c.at {
			t.Errorf("R3: Print(%q) = %q, %d, %d, want %d, %d", c.s, p, no, at, c.no, c.at)
		}
		for _, k := range []int{0, -1, 1000} {
			if p, no, at := Sub(c.s, k); p != "" || no != c.no || at != c.at {
				t.Errorf("R3: Sub(%q, %d) = %q, %d, %d, want %d, %d", c.s, k, p, no, at, c.no, c.at)
			}
			if v, no, at := Value(c.s, k); v != "" || no != c.no || at != c.at {
				t.Errorf("R3: Value(%q, %d) = %q, %d, %d, want %d, %d", c.s, k, v, no, at, c.no, c.at)
			}
		}
	}
}

func TestNodes(t *testing.T) {
	for _, c := range []struct {
		s    string
		want []api.Node
	}{
		{"<a/>", []api.Node{{Name: "a", Up: -1}}},
		{"<a></a>", []api.Node{{Name: "a", Up: -1}}},
		{"<a><!--x--><?o?><![CDATA[]]></a>", []api.Node{{Name: "a", Up: -1}}},
		{" \t\r\n<?o?><a/><!--c-->&#32;<![CDATA[ ]]>&#xa;", []api.Node{{Name: "a", Up: -1}}},
		{"<a k='1' m=\"&lt;\"/>", []api.Node{{Name: "a", Attrs: []api.Attr{{Name: "k", Value: "1"}, {Name: "m", Value: "<"}}, Up: -1}}},
		{"<a> </a>", []api.Node{{Name: "a", Kids: []int{1}, Up: -1}, {Text: " ", Up: 0}}},
		{"<a>x<!--c-->y&amp;<![CDATA[<]]></a>", []api.Node{{Name: "a", Kids: []int{1}, Up: -1}, {Text: "xy&<", Up: 0}}},
		{"<a>x<b k=''><c/></b>y<b><a>z</a></b></a>\n", []api.Node{
			{Name: "a", Kids: []int{1, 2, 4, 5}, Up: -1}, {Text: "x", Up: 0},
			{Name: "b", Attrs: []api.Attr{{Name: "k"}}, Kids: []int{3}, Up: 0}, {Name: "c", Up: 2}, {Text: "y", Up: 0},
			{Name: "b", Kids: []int{6}, Up: 0}, {Name: "a", Kids: []int{7}, Up: 5}, {Text: "z", Up: 6}}},
	} {
		if l, no, at := Parse(c.s); !reflect.DeepEqual(l, c.want) || no != api.OK || at != 0 {
			t.Errorf("R2: Parse(%q) = %#v, %d, %d, want %#v", c.s, l, no, at, c.want)
		}
	}
}

func TestDepth(t *testing.T) {
	s := strings.Repeat("<a>", 29) + "<b/>x<b>y</b>" + strings.Repeat("</a>", 29)
	l, no, at := Parse(s)
	if no != api.OK || at != 0 || len(l) != 33 || l[32].Text != "y" || l[32].Up != 31 || !reflect.DeepEqual(l[28].Kids, []int{29, 30, 31}) {
		t.Errorf("R1: %v, %d, %d", l, no, at)
	}
	if p, _, _ := Print(s); p != s {
		t.Errorf("R3: %q", p)
	}
}

func TestForms(t *testing.T) {
	s := "<?o?>\n<a  k = '1&quot;\t&#10;&#13;' é=\"'&gt;\"><b></b>x&#13;\n\t<!--c-->\"<![CDATA[<&>]]><c >é<d />&#x20;</c></a >\r"
	for k, want := range []struct{ plain, value string }{
		{"<a k=\"1&quot;&#9;&#10;&#13;\" é=\"'&gt;\"><b/>x&#13;\n\t\"&lt;&amp;&gt;<c>é<d/> </c></a>", "x\r\n\t\"<&>é "},
		{"<b/>", ""}, {"x&#13;\n\t\"&lt;&amp;&gt;", "x\r\n\t\"<&>"}, {"<c>é<d/> </c>", "é "}, {"é", "é"}, {"<d/>", ""}, {" ", " "},
	} {
		if p, no, at := Sub(s, k); p != want.plain || no != api.OK || at != 0 {
			t.Errorf("R3: Sub(.., %d) = %q, %d, %d, want %q", k, p, no, at, want.plain)
		}
		if v, no, at := Value(s, k); v != want.value || no != api.OK || at != 0 {
			t.Errorf("R2, R3: Value(.., %d) = %q, %d, %d, want %q", k, v, no, at, want.value)
		}
		if p, no, at := Print(s); k == 0 && (p != want.plain || no != api.OK || at != 0) {
			t.Errorf("R3: Print = %q, %d, %d, want %q", p, no, at, want.plain)
		}
	}
	for _, k := range []int{-1, 7, 8, math.MinInt, math.MaxInt} {
		if p, no, at := Sub(s, k); p != "" || no != api.ErrRange || at != 0 {
			t.Errorf("R3: Sub(.., %d) = %q, %d, %d", k, p, no, at)
		}
		if v, no, at := Value(s, k); v != "" || no != api.ErrRange || at != 0 {
			t.Errorf("R3: Value(.., %d) = %q, %d, %d", k, v, no, at)
		}
	}
}

// Every row of some pieces, held against the tree that is found in another way.
func TestRows(t *testing.T) {
	pieces := []string{"<a>", "</a>", "<b k='\"'>", "</b>", "<b/>", "x", " ", "&lt;", "<!--c-->", "<", "&"}
	rows := []string{""}
	for range 5 {
		for _, row := range rows {
			check(t, row)
		}
		var longer []string
		for _, row := range rows {
			for _, p := range pieces {
				longer = append(longer, row+p)
			}
		}
		rows = longer
	}
	for _, row := range rows {
		check(t, "<a>"+row+"</a>")
	}
	for i := range uint32(20000) {
		check(t, "<a>"+mixed(pieces, i)+"</a>")
	}
}

// mixed tells pieces that the number chooses, so that most of them nest well.
func mixed(pieces []string, n uint32) string {
	var out strings.Builder
	var open []string
	for range 3 + n%37 {
		n = n*1664525 + 1013904223
		p := pieces[(n>>16)%9]
		switch {
		case (p == "</a>" || p == "</b>") && len(open) > 0:
			p = open[len(open)-1]
			open = open[:len(open)-1]
		case p == "<a>":
			open = append(open, "</a>")
		case strings.HasPrefix(p, "<b k"):
			open = append(open, "</b>")
		}
		out.WriteString(p)
	}
	for i := len(open) - 1; i >= 0; i-- {
		out.WriteString(open[i])
	}
	return out.String()
}

func TestNothingIsShared(t *testing.T) {
	s := "<a k='1'><b m='2'>x</b><b/></a>"
	first, _, _ := Parse(s)
	second, _, _ := Parse(s)
	for i := range first {
		for range 3 {
			_ = append(first[i].Kids, -7)
			_ = append(first[i].Attrs, api.Attr{Name: "no"})
		}
		if first[i].Kids != nil {
			first[i].Kids[0] = -9
		}
		if first[i].Attrs != nil {
			first[i].Attrs[0].Name = "no"
		}
	}
	third, _, _ := Parse(s)
	if !reflect.DeepEqual(second, third) || !reflect.DeepEqual(first[0].Kids, []int{-9, 3}) || !reflect.DeepEqual(first[1].Kids, []int{-9}) {
		t.Errorf("G4: %v, %v, %v", first, second, third)
	}
}

func TestLong(t *testing.T) {
	n := 300000
	s := "<a>" + strings.Repeat("<b k='1'>x</b>y", n) + "</a>"
	l, no, _ := Parse(s)
	if no != api.OK || len(l) != 3*n+1 || len(l[0].Kids) != 2*n {
		t.Fatalf("R1: %d nodes, %d", len(l), no)
	}
	if v, _, _ := Value(s, 0); v != strings.Repeat("xy", n) {
		t.Error("R2: the value of a long document")
	}
	if p, _, _ := Print(s); p != strings.ReplaceAll(s, "'", "\"") {
		t.Error("R3: the plain form of a long document")
	}
}
