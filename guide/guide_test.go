package guide

import (
	"reflect"
	"strconv"
	"strings"
	"testing"

	"prune/api"
)

// listed tells labels that are written as "/a 1, /a/b 2".
func listed(s string) []api.Label {
	var all []api.Label
	for _, one := range strings.Split(s, ", ") {
		path, n, _ := strings.Cut(one, " ")
		count, _ := strconv.Atoi(n)
		all = append(all, api.Label{Path: path, Count: count})
	}
	return all
}

func TestOf(t *testing.T) {
	for doc, want := range map[string]string{
		"<a/>": "/a 1", " <a></a>\n": "/a 1", "<a><b/>x<b/></a>": "/a 1, /a/b 2, /a/# 1", "<a><b/>x<b><c/></b>y</a>": "/a 1, /a/b 2, /a/# 2, /a/b/c 1",
		// each where the first node of it stands
		"<a>x<b>y</b>z<c><b/></c><b>v<d/>w</b></a>": "/a 1, /a/# 2, /a/b 2, /a/b/# 3, /a/c 1, /a/c/b 1, /a/b/d 1",
		// a name at several depths, and names that begin alike
		"<a><a><a/></a><a>x</a></a>": "/a 1, /a/a 2, /a/a/a 1, /a/a/# 1", "<a><ab/><a><b/></a></a>": "/a 1, /a/ab 1, /a/a 1, /a/a/b 1",
		// what is between tags is one text
		"<é k='1'>x<!--c-->y<![CDATA[/a/#]]><É.-_/> </é>":            "/é 1, /é/# 2, /é/É.-_ 1",
		strings.Repeat("<a>", 30) + "x" + strings.Repeat("</a>", 30): deepLabels(30) + ", " + strings.Repeat("/a", 30) + "/# 1",
	} {
		if l, no, at := Of(doc); !reflect.DeepEqual(l, listed(want)) || no != api.OK || at != 0 {
			t.Errorf("D1: Of(%q) = %v, %d, %d, want %s", doc, l, no, at, want)
		}
	}
}

func deepLabels(n int) string {
	var all []string
	for i := range n {
		all = append(all, strings.Repeat("/a", i+1)+" 1")
	}
	return strings.Join(all, ", ")
}

func TestOfErrors(t *testing.T) {
	for _, c := range []struct {
		doc string
		no  api.Errno
		at  int
	}{
		{"", api.ErrForm, 0}, {" ", api.ErrForm, 1}, {"<a>", api.ErrForm, 3}, {"<a/><", api.ErrForm, 5}, {"<a></b>", api.ErrMatch, 3}, {"<a/><b/>&", api.ErrRoot, 4}, {"<a/>x", api.ErrRoot, 4}, {"<a>\xff</a>", api.ErrChar, 3}, {"<a>&b;</a>", api.ErrRef, 3}, {"<a k='' k=''/>", api.ErrTwice, 8}, {strings.Repeat("<a>", 31), api.ErrDeep, 90},
	} {
		if l, no, at := Of(c.doc); l != nil || no != c.no || at != c.at {
			t.Errorf("D1: Of(%.20q) = %v, %d, %d, want %d, %d", c.doc, l, no, at, c.no, c.at)
		}
	}
}

func TestMay(t *testing.T) {
	labels := listed("/a 1, /a/b 2, /a/# 2, /a/b/c 1")
	for q, want := range map[string]bool{
		"/a": true, "/b": false, "/a/b": true, "/a/c": false, "//a": true, "//b": true, "//c": true, "//d": false, "/a//c": true, "/b//c": false, "//b/c": true, "//b//b": false, "//a//b": true, "//a/a": false,
		"/*": true, "/*/*/*": true, "/*/*/*/*": false, "//*/c": true, "//*//*//*": true, "//*//*//*//*": false, "/*/b": true,
		"/a/text()": true, "//text()": true, "/text()": false, "/a/b/text()": false, "//c/text()": false, "/*/text()": true, "/a//text()": true, "/a/*/text()": false, "/a/b//text()": false,
		// one of the paths is enough
		"/z|/a": true, "/a|/z": true, "/z|/y": false, "/z|//text()": true,
		// what conditions ask for is not looked at
		"/a[z]": true, "/a/b[z='x' and not(b)]": true, "/a[b]/c": false, "/a[z]/b[@k]/c[.='']": true, "//text()[z]": true, "/a[not(b)]/text()": true, "/z[b]|/a[.//b]": true, "/a[c]|/z": true, "/z[a]|/y[text()]": false,
		" / a // c ": true,
	} {
		if may, no, at := May(labels, q); may != want || no != api.OK || at != 0 {
			t.Errorf("D2: May(%q) = %v, %d, %d, want %v", q, may, no, at, want)
		}
		if may, no, _ := May(nil, q); may || no != api.OK {
			t.Errorf("D2: May(%q) without labels: %v, %d", q, may, no)
		}
	}
}

// Labels of all kinds, those of no document as well.
func TestMayOfAnyLabel(t *testing.T) {
	for _, c := range []struct {
		path, may, not string // queries with ";" between them
	}{
		{"/x", "/x;/*;//x;//*", "/y;/x/*;/text();//text();/*/*;/x/text()"},
		{"", "", "/*;//*;//text();/text();/x"},
		{"x", "", "/*;//*;//text();/x"},
		{"x/y", "", "/*;//*;//y;/x/y;/y"},
		{"#", "", "/*;//*;//text();/text()"},
		{" /x", "", "/x;//x;//*"},
		// names that no element has
		{"/", "/*;//*", "/x;/*/*;//text();/text()"},
		{"//", "/*/*;//*;//*//*", "/*;/*/*/*;//text();/*/text()"},
		{"//x", "/*/x;//x;/*/*", "/x;/*;/x/x"},
		{"/x/", "/x/*;//*;/x//*", "/x;//x;/x/text();/x/*/*"},
		{"/x//y", "/x/*/y;/x//y;//y", "/x/y;/x/*;/x/*/*/*"},
		{"/x y/*", "/*/*;//*", "/x/*;/x/y;//x"},
		{"/*", "/*;//*", "/x;/text();/*/*"},
		{"/text()", "/*;//*", "/text();//text();/text"},
		{"/\xff/\x00", "/*/*;//*", "/*;//text()"},
		{"/.", "/*;//*", "/x"},
		// a text, and what only looks like one
		{"/x/#", "/x/text();/*/text();//text();/x//text();//x/text()", "/x;/x/*;/*/*;//*;/text();/x/x/text();/*/*/text()"},
		{"/x/y/#", "/x/y/text();//text();/x//text();//y/text();/*/*/text()", "/x/text();/x/y;/x/y/*;//*;/x/*//*"},
		{"//#", "/*/text();//text()", "/*;//*;/text();/x/text()"},
		{"/#/x", "/*/x;//x;/*/*;//*", "/x;/text();//text();/*"},
		{"/#/#", "/*/text();//text()", "/text();/*/*;//*;/*"},
		{"/x/#/", "/x/*/*;//*", "/x/text();//text();/x/*/text()"},
		{"/x/##", "/x/*;//*", "/x/text();//text()"},
		{"/x/# ", "/x/*;//*", "/x/text();//text()"},
		{"/x#", "/*;//*", "/x;/text();//text()"},
		// around which there is no element
		{"/#", "", "/*;//*;/text();//text();/x/text()"},
	} {
		for i, queries := range []string{c.not, c.may} {
			for _, q := range strings.Split(queries, ";") {
				if q == "" {
					continue
				}
				for _, n := range []int{1, 0, -7} {
					if may, no, at := May([]api.Label{{Path: c.path, Count: n}}, q); may != (i == 1) || no != api.OK || at != 0 {
						t.Errorf("D2: of %q, %d: May(%q) = %v, %d, %d", c.path, n, q, may, no, at)
					}
				}
			}
		}
	}
}

func TestMayErrors(t *testing.T) {
	for _, c := range []struct {
		q  string
		no api.Errno
		at int
	}{
		{"", api.ErrForm, 0}, {"/", api.ErrForm, 1}, {"/a[", api.ErrForm, 3}, {"a", api.ErrForm, 0}, {"/a|", api.ErrForm, 3}, {"/text()/a", api.ErrForm, 7}, {"/a/\xff", api.ErrChar, 3}, {"/a[((((((((b))))))))]", api.ErrDeep, 10}, {"/" + strings.Repeat("a", 500), api.ErrLong, 0},
	} {
		for _, labels := range [][]api.Label{nil, listed("/a 1"), {{}}} {
			if may, no, at := May(labels, c.q); may || no != c.no || at != c.at {
				t.Errorf("D2: May(%v, %.20q) = %v, %d, %d, want %d, %d", labels, c.q, may, no, at, c.no, c.at)
			}
		}
	}
}

func TestNothingIsShared(t *testing.T) {
	first, _, _ := Of("<a>x<b/></a>")
	second, _, _ := Of("<a>x<b/></a>")
	clear(first)
	_ = append(first, api.Label{Count: 7})
	want := listed("/a 1, /a/# 1, /a/b 1")
	if May(second, "//z"); !reflect.DeepEqual(second, want) {
		t.Errorf("G4: %v", second)
	}
}

// Long names and many nodes: no label is written twice.
func TestLong(t *testing.T) {
	name := strings.Repeat("n", 20000)
	open, closed := strings.Repeat("<"+name+">", 29), strings.Repeat("</"+name+">", 29)
	l, no, _ := Of(open + strings.Repeat("<a/>", 100000) + closed)
	if no != api.OK || len(l) != 30 || l[29].Count != 100000 || l[29].Path != strings.Repeat("/"+name, 29)+"/a" {
		t.Errorf("D1: %d labels, %d", len(l), no)
	}
	if may, _, _ := May(l, strings.Repeat("/*", 29)+"/a"); !may {
		t.Errorf("D2: %d labels", len(l))
	}
	path := strings.Repeat("/a", 10000)
	if may, _, _ := May([]api.Label{{Path: path + "/#"}, {Path: path}}, strings.Repeat("//a", 160)); !may {
		t.Errorf("D2: a label of %d bytes", len(path))
	}
	many := make([]api.Label, 100000)
	for i := range many {
		many[i].Path = "/a/b" + strconv.Itoa(i) + "/#"
	}
	if may, _, _ := May(many, "//b99999/text()"); !may {
		t.Errorf("D2: the last one of %d labels", len(many))
	}
	if may, _, _ := May(many, "//b99999/a"); may {
		t.Errorf("D2: none of %d labels", len(many))
	}
}
