package answer

import (
	"reflect"
	"strings"
	"testing"

	"prune/api"
)

func same(t *testing.T, promise, doc, q string, want []int) {
	t.Helper()
	l, no, at, which := Eval(doc, q)
	if !reflect.DeepEqual(l, want) || no != api.OK || at != 0 || which != 0 {
		t.Errorf("%s: Eval(%q, %q) = %#v, %d, %d, %d, want %#v", promise, doc, q, l, no, at, which, want)
	}
}

func TestSteps(t *testing.T) {
	// 0 a, 1 b, 2 x, 3 a, 4 b, 5 c, 6 b, 7 y, 8 c, 9 z
	doc := "<a><b>x</b><a><b><c><b>y</b></c></b></a><c/>z</a>"
	for q, want := range map[string][]int{
		// right within the document there is but node 0
		"/a": {0}, "/b": nil, "/*": {0}, "/text()": nil, "/c": nil,
		// and within it, all
		"//a": {0, 3}, "//b": {1, 4, 6}, "//*": {0, 1, 3, 4, 5, 6, 8}, "//text()": {2, 7, 9}, "//d": nil,
		"/a/a": {3}, "/a/b": {1}, "/a/*": {1, 3, 8}, "/a/text()": {9}, "/*/*/*": {4}, "/a/b/text()": {2}, "/b/a": nil, "/a/d/b": nil,
		"/a//a": {3}, "/a//b": {1, 4, 6}, "/a//text()": {2, 7, 9}, "/a/a//*": {4, 5, 6}, "/a/a//text()": {7},
		"//a/b": {1, 4}, "//a//b": {1, 4, 6}, "//b//b": {6}, "//b//b//b": nil, "//*/text()": {2, 7, 9}, "//*//text()": {2, 7, 9}, "//a//a//b": {4, 6}, "//b/c/b": {6}, "//c/b/text()": {7},
		"//*/*/*/*/*": {6}, "//*//*//*//*//*": {6}, "//*//*//*//*//*//*": nil, "//*/*//*/*": {5, 6},
		// of an outer node and of one within it
		"//*/b": {1, 4, 6}, "//a/*": {1, 3, 4, 8}, "//*/*": {1, 3, 4, 5, 6, 8}, "//a/*/*": {4, 5}, "//a/*//*": {4, 5, 6}, "//a/*//text()": {2, 7}, "//a/*/text()": {2},
		// several paths
		"/a|/a": {0}, "//c|//b": {1, 4, 5, 6, 8}, "//text()|//a|/a/b": {0, 1, 2, 3, 7, 9}, "/d|/a/text()|/e": {9}, "/d|/e": nil,
	} {
		same(t, "E1", doc, q, want)
	}
	// what is led to by an outer node may stand behind what is led to by one within it
	same(t, "E1", "<a><a><b><c/></b></a><b>x<c/></b></a>", "//a/b//c", []int{3, 6})
	same(t, "E1", "<r><a><a><b>x</b></a><b/></a></r>", "/r[.//a/b//text()]", []int{0})
	same(t, "E1", "<a/>", "//*", []int{0})
	same(t, "E1", "<a/>", "/a/*|/a//*|/a/text()|//text()", nil)
	same(t, "E1", "<text><not/>x</text>", "/text/not|/text/text()", []int{1, 2})
	same(t, "E1", "<é><é.é-1/><É/></é>", "//é.é-1|//É", []int{1, 2})
}

func TestConditions(t *testing.T) {
	// 0 r, 1 a, 2 x, 3 a, 4 b, 5 x, 6 y, 7 a, 8 b, 9 b, 10 xy, 11 c, 12 a
	doc := "<r k='r'><a k='1'>x</a><a k='2' j='1'><b>x</b>y</a><a><b k=''/><b j='2'>xy</b></a><c/><a k=''/></r>"
	for c, want := range map[string][]int{
		".": {1, 3, 7, 12}, "b": {3, 7}, "*": {3, 7}, "text()": {1, 3}, "c": nil, "a": nil, ".//b": {3, 7}, ".//text()": {1, 3, 7}, "b/text()": {3, 7}, "b//text()": {3, 7}, "b/b": nil, ".//a": nil,
		"@k": {1, 3, 12}, "@j": {3}, "@r": nil, "b/@k": {7}, "b/@j": {7}, "*/@j": {7}, ".//*/@k": {7}, "b/@r": nil,
		// an element's value is all texts within it
		".='x'": {1}, ".='xy'": {3, 7}, ".=''": {12}, ".!='x'": {3, 7, 12}, ".!=''": {1, 3, 7}, ".!='xy'": {1, 12}, ".='y'": nil, ".='xyx'": nil, ".='X'": nil, ".=' x'": nil,
		"text()='x'": {1}, "text()='y'": {3}, "text()!='x'": {3}, "text()=''": nil, "text()!=''": {1, 3}, ".//text()='x'": {1, 3}, ".//text()!='y'": {1, 3, 7},
		// one of several is, or is not
		"b='x'": {3}, "b='xy'": {7}, "b=''": {7}, "b!='x'": {7}, "b!='xy'": {3, 7}, "b!=''": {3, 7}, "c=''": nil, "c!=''": nil, "*!='x'": {7}, "b[text()]!='xy'": {3},
		"@k='1'": {1}, "@k=''": {12}, "@k!=''": {1, 3}, "@k!='1'": {3, 12}, "@r=''": nil, "@r!=''": nil, "@j!='2'": {3}, "b/@k=''": {7}, "b/@k!=''": nil, "b/@j!=''": {7}, "b/@j='1'": nil,
		// joined ones
		"b or @k": {1, 3, 7, 12}, "b and @k": {3}, "not(b)": {1, 12}, "not(@k)": {7}, "not(b) and not(@k)": nil, "not(b or @k)": nil, "not(b and @k)": {1, 7, 12}, "not(not(b))": {3, 7}, "b or @k='1' and text()": {1, 3, 7}, "(b or @k='1') and text()": {1, 3},
		"c or r or b": {3, 7}, ". and b and @j": {3}, "not(b='x')": {1, 7, 12}, "not(b!='x')": {1, 3, 12}, "not(@k='1')": {3, 7, 12}, "c or not(c)": {1, 3, 7, 12}, "c and not(c)": nil,
		// conditions within
		"b[.='x']": {3}, "b[@k]": {7}, "b[@k and text()]": nil, "b[@k][text()]": nil, "b[@k or text()]": {3, 7}, "b[not(text())]": {7}, "text()[.='x']": {1}, "text()[.='y']": {3}, "text()[b]": nil, "text()[@k]": nil, "text()[not(@k)]": {1, 3}, "text()[not(b)]='x'": {1}, "*[text()[.!='x']]": {7}, ".//b[.//text()='xy']/@j='2'": {7}, "b[text()]/@j": {7}, "b[@j]/@k": nil,
	} {
		same(t, "E2", doc, "/r/a["+c+"]", want)
		same(t, "E2", doc, "//a["+c+"]", want)
		same(t, "E2", doc, "//a[.]["+c+"]", want)
		same(t, "E2", doc, "//a["+c+"][not(not("+c+"))]", want)
		same(t, "E2", doc, "//a["+c+"][c]", nil)
		if want != nil {
			same(t, "E2", doc, "/r[a["+c+"]]", []int{0})
			same(t, "E2", doc, "/r[not(.//a["+c+"])]", nil)
		}
	}
	same(t, "E2", doc, "/r[@k='r']/a[@j]/b[.='x']/text()", []int{5})
	same(t, "E2", doc, "/r[@k='s']/a[@j]/b", nil)
	same(t, "E2", doc, "//text()[.='x']", []int{2, 5})
	same(t, "E2", doc, "//*[text()]", []int{1, 3, 4, 9})
	same(t, "E2", "<a>&lt;<![CDATA[&]]><b k='&#65;\"'/>é</a>", "/a[.='<&é' and b/@k='A\"']", []int{0})
	same(t, "E2", "<a><or/><and/><not/></a>", "/a[or and and]/not[not(or)]", []int{3})
}

func TestErrors(t *testing.T) {
	long := "/" + strings.Repeat("a", 500)
	deep := strings.Repeat("<a>", 31)
	for _, c := range []struct {
		doc, q    string
		no        api.Errno
		at, which int
	}{
		{"<a/>", "", api.ErrForm, 0, 1}, {"<a/>", "/a[", api.ErrForm, 3, 1}, {"<a/>", "/a\xff", api.ErrChar, 2, 1}, {"<a/>", long, api.ErrLong, 0, 1}, {"<a/>", "/a[((((((((b))))))))]", api.ErrDeep, 10, 1}, {"<a/>", "/a|b", api.ErrForm, 3, 1},
		// the query's come first
		{"", "/a]", api.ErrForm, 2, 1}, {"<a>", "/", api.ErrForm, 1, 1}, {"\xff", long, api.ErrLong, 0, 1}, {"</a>", "//a/\xff", api.ErrChar, 4, 1},
		{"", "/a", api.ErrForm, 0, 2}, {"<a>", "/a", api.ErrForm, 3, 2}, {"<a></b>", "/a", api.ErrMatch, 3, 2}, {"<a/><b/>", "/a", api.ErrRoot, 4, 2}, {"<a/>x", "/a", api.ErrRoot, 4, 2}, {"<a>\x00</a>", "/b", api.ErrChar, 3, 2}, {"<a>&b;</a>", "/a", api.ErrRef, 3, 2}, {"<a k='' k=''/>", "/a", api.ErrTwice, 8, 2}, {deep, "/a", api.ErrDeep, 90, 2}, {"<a", "//text()", api.ErrForm, 2, 2},
	} {
		l, no, at, which := Eval(c.doc, c.q)
		if l != nil || no != c.no || at != c.at || which != c.which {
			t.Errorf("E3: Eval(%.20q, %.20q) = %v, %d, %d, %d, want %d, %d, %d", c.doc, c.q, l, no, at, which, c.no, c.at, c.which)
		}
	}
}

// However steps and conditions are heaped, nothing is found out twice.
func TestHeaped(t *testing.T) {
	chain := strings.Repeat("<a>", 30) + strings.Repeat("</a>", 30)
	same(t, "E1", chain, strings.Repeat("//a", 30), []int{29})
	same(t, "E1", chain, strings.Repeat("//a", 31), nil)
	same(t, "E1", chain, strings.Repeat("//a", 20)+"//b", nil)
	same(t, "E2", chain, "//a[a"+strings.Repeat("//a", 20)+"//b]", nil)
	nest := strings.Repeat(".//a[", 7) + "b or .//b" + strings.Repeat("]", 7)
	same(t, "E2", "<r>"+strings.Repeat(chain[3:len(chain)-4], 1000)+"</r>", "//a["+nest+"]", nil)
	l, no, _, _ := Eval(chain, "//a[.//a[not(.//a[not(.//a[not(b)])])]]")
	if no != api.OK || len(l) != 29 || l[0] != 0 || l[28] != 28 {
		t.Errorf("E2: %v, %d", l, no)
	}
}

// A great document with many nodes is gone through but a few times.
func TestGreat(t *testing.T) {
	n := 50000
	doc := "<r>" + strings.Repeat("<a><b>x</b>y</a>", n) + "</r>"
	l, no, _, _ := Eval(doc, "//*[.='xy']|//a[b='x' and not(.//c)]//text()[.!='x']|//*[.//*//*]")
	if no != api.OK || len(l) != 2*n+1 || l[0] != 0 || l[1] != 1 || l[2] != 4 || l[2*n] != 4*n {
		t.Errorf("E3: %d nodes, %d", len(l), no)
	}
}

func TestNothingIsShared(t *testing.T) {
	doc, q := "<a><b/>x<b/></a>", "//b|//text()"
	first, _, _, _ := Eval(doc, q)
	second, _, _, _ := Eval(doc, q)
	for i := range first {
		first[i] = -7
	}
	_ = append(first, 9)
	if !reflect.DeepEqual(second, []int{1, 2, 3}) {
		t.Errorf("G4: %v", second)
	}
	same(t, "G4", doc, q, []int{1, 2, 3})
}
