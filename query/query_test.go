package query

import (
	"reflect"
	"strings"
	"testing"

	"prune/api"
)

func TestErrors(t *testing.T) {
	for _, c := range []struct {
		q  string
		no api.Errno
		at int
	}{
		// a byte at which no character begins
		{"\xff", api.ErrChar, 0}, {" \x00", api.ErrChar, 1}, {"/\xff", api.ErrChar, 1}, {"/a\xff", api.ErrChar, 2}, {"/a\uFFFE", api.ErrChar, 2}, {"/a[b='\xff']", api.ErrChar, 6}, {"/a[b='x\x00", api.ErrChar, 7}, {"/a[b='x'\xff]", api.ErrChar, 8},
		{"/text(\xff)", api.ErrChar, 6}, {"/text\xff()", api.ErrChar, 5}, {"/a[not\xff(b)]", api.ErrChar, 6}, {"/a[b=\xff'x']", api.ErrChar, 5}, {"/a[b!=\xff]", api.ErrChar, 6}, {"/a[@\xff]", api.ErrChar, 4}, {"/a]\xff", api.ErrForm, 2}, {"/a[b='\xe2\x82']", api.ErrChar, 6}, {"/\xed\xa0\x80", api.ErrChar, 1},
		// the first byte that begins nothing which can stand there
		{"a", api.ErrForm, 0}, {" a", api.ErrForm, 1}, {"|/a", api.ErrForm, 0}, {"/a|", api.ErrForm, 3}, {"/a|b", api.ErrForm, 3}, {"/a||/b", api.ErrForm, 3}, {"///a", api.ErrForm, 2}, {"/ /a", api.ErrForm, 2}, {"/a b", api.ErrForm, 3}, {"/a or b", api.ErrForm, 3}, {"/a=", api.ErrForm, 2},
		{"/1", api.ErrForm, 1}, {"/-a", api.ErrForm, 1}, {"/.", api.ErrForm, 1}, {"/@k", api.ErrForm, 1}, {"/a/@k", api.ErrForm, 3}, {"/a:b", api.ErrForm, 2}, {"/a**", api.ErrForm, 2}, {"/**", api.ErrForm, 2}, {"/#", api.ErrForm, 1}, {"/'a'", api.ErrForm, 1}, {"/'a", api.ErrForm, 1}, {"/a'", api.ErrForm, 2}, {"/a 'x\xff", api.ErrForm, 3},
		{"/a()", api.ErrForm, 2}, {"/a(b", api.ErrForm, 2}, {"/text(a)", api.ErrForm, 6}, {"/text()()", api.ErrForm, 7}, {"/text()/a", api.ErrForm, 7}, {"/text()//a", api.ErrForm, 7}, {"/text()[b]/a", api.ErrForm, 10}, {"/a/text() /b", api.ErrForm, 10}, {"/a]", api.ErrForm, 2}, {"/a)", api.ErrForm, 2},
		{"/not()", api.ErrForm, 1}, {"/not (b)", api.ErrForm, 1}, {"//a/not(", api.ErrForm, 4}, {"/a[b/not(c)]", api.ErrForm, 5}, {"/a[.//not(c)]", api.ErrForm, 6}, {"/a[@not(c)]", api.ErrForm, 4}, {"/a[@text()]", api.ErrForm, 4}, {"/a[@ text ()]", api.ErrForm, 5}, {"/a[b/@text()]", api.ErrForm, 6}, {"/or(b)", api.ErrForm, 3},
		{"/a[]", api.ErrForm, 3}, {"/a[b]]", api.ErrForm, 5}, {"/a[b)]", api.ErrForm, 4}, {"/a[(b]", api.ErrForm, 5}, {"/a[(b])", api.ErrForm, 5}, {"/a[()]", api.ErrForm, 4}, {"/a[not()]", api.ErrForm, 7}, {"/a[not b]", api.ErrForm, 7}, {"/a[b c]", api.ErrForm, 5}, {"/a[b orc]", api.ErrForm, 5}, {"/a[b or-c]", api.ErrForm, 5}, {"/a[b or]", api.ErrForm, 7}, {"/a[b and or and]", api.ErrForm, 15},
		{"/a[b|c]", api.ErrForm, 4}, {"/a[/b]", api.ErrForm, 3}, {"/a[//b]", api.ErrForm, 3}, {"/a[./b]", api.ErrForm, 4}, {"/a[./@k]", api.ErrForm, 4}, {"/a[.//@k]", api.ErrForm, 6}, {"/a[. / /b]", api.ErrForm, 5}, {"/a[..]", api.ErrForm, 4}, {"/a[.b]", api.ErrForm, 4}, {"/a[.[b]]", api.ErrForm, 4}, {"/a[*.b]", api.ErrForm, 4},
		{"/a[@]", api.ErrForm, 4}, {"/a[@*]", api.ErrForm, 4}, {"/a[@@k]", api.ErrForm, 4}, {"/a[@k/b]", api.ErrForm, 5}, {"/a[@k[b]]", api.ErrForm, 5}, {"/a[b@k]", api.ErrForm, 4}, {"/a[b//@k]", api.ErrForm, 6}, {"/a[b/@k/c]", api.ErrForm, 7}, {"/a[b/@k[c]]", api.ErrForm, 7}, {"/a[text()/@k]", api.ErrForm, 9}, {"/a[text()/b]", api.ErrForm, 9}, {"/a[text()[b]//c]", api.ErrForm, 12}, {"/a[b/]", api.ErrForm, 5}, {"/a[b//]", api.ErrForm, 6},
		{"/a[b=c]", api.ErrForm, 5}, {"/a[b=1]", api.ErrForm, 5}, {"/a[b=]", api.ErrForm, 5}, {"/a[b=='x']", api.ErrForm, 5}, {"/a[b! ='x']", api.ErrForm, 4}, {"/a[b!'x']", api.ErrForm, 4}, {"/a[b!]", api.ErrForm, 4}, {"/a[b!", api.ErrForm, 4}, {"/a[b!\xff", api.ErrForm, 4}, {"/a[b<'x']", api.ErrForm, 4}, {"/a['x'=b]", api.ErrForm, 3}, {"/a[b='x'='y']", api.ErrForm, 8}, {"/a[b='x' 'y']", api.ErrForm, 9}, {"/a[b='x'c]", api.ErrForm, 8}, {"/a[(b)='x']", api.ErrForm, 6}, {"/a[not(b)='x']", api.ErrForm, 9}, {"/a[b=('x')]", api.ErrForm, 5}, {"/a[(b)(c)]", api.ErrForm, 6}, {"/a[(b)[c]]", api.ErrForm, 6}, {"/a[(b)/c]", api.ErrForm, 6},
		// a text that ends too early
		{"", api.ErrForm, 0}, {" \t\r\n", api.ErrForm, 4}, {"/", api.ErrForm, 1}, {"// ", api.ErrForm, 3}, {"/a/", api.ErrForm, 3}, {"/a| ", api.ErrForm, 4}, {"/text(", api.ErrForm, 6}, {"/text( ", api.ErrForm, 7}, {"/a[", api.ErrForm, 3}, {"/a[b", api.ErrForm, 4}, {"/a[.", api.ErrForm, 4}, {"/a[.//", api.ErrForm, 6}, {"/a[@", api.ErrForm, 4}, {"/a[b/", api.ErrForm, 5}, {"/a[b/@", api.ErrForm, 6},
		{"/a[b=", api.ErrForm, 5}, {"/a[b!=", api.ErrForm, 6}, {"/a[b='", api.ErrForm, 6}, {"/a[b='x]", api.ErrForm, 8}, {"/a[b='x\"] ", api.ErrForm, 10}, {"/a[b='x'", api.ErrForm, 8}, {"/a[b or", api.ErrForm, 7}, {"/a[not(", api.ErrForm, 7}, {"/a[not(b", api.ErrForm, 8}, {"/a[not(b)", api.ErrForm, 9}, {"/a[(b)", api.ErrForm, 6}, {"/a[not", api.ErrForm, 6}, {"/a[b='é", api.ErrForm, 8},
		// brackets within eight others
		{"/a[((((((((b", api.ErrDeep, 10}, {"/a[b[b[b[b[b[b[b[b[b", api.ErrDeep, 18}, {"/a[not(not(not(not(not(not(not(not(", api.ErrDeep, 34}, {"/a[((((((( b [", api.ErrDeep, 13}, {"/a[(((((((not (", api.ErrDeep, 14}, {"/a[((((((((\xff", api.ErrDeep, 10},
		{"/a[((((((([", api.ErrForm, 10}, {"/a[(((((((b(", api.ErrForm, 11}, {"/a[(((((((b='x'(", api.ErrForm, 15}, {"/a[(((((((text()(", api.ErrForm, 16}, {"/a[(((((((\xff(", api.ErrChar, 10},
	} {
		if l, no, at := Parse(c.q); l != nil || no != c.no || at != c.at {
			t.Errorf("Q1: Parse(%q) = %v, %d, %d, want %d, %d", c.q, l, no, at, c.no, c.at)
		}
		if p, no, at := Print(c.q); p != "" || no != c.no || at != c.at {
			t.Errorf("Q3: Print(%q) = %q, %d, %d, want %d, %d", c.q, p, no, at, c.no, c.at)
		}
		if c.at < len(c.q) && !strings.HasPrefix(c.q, "/a[") {
			continue
		}
		// one path more ahead of it moves the place alone
		if _, no, at := Parse("/é [b]|" + c.q); no != c.no || at != c.at+8 {
			t.Errorf("Q1: Parse(%q) = %d, %d, want %d, %d", "/é [b]|"+c.q, no, at, c.no, c.at+8)
		}
	}
}

func TestLong(t *testing.T) {
	for _, c := range []struct {
		q  string
		no api.Errno
		at int
	}{
		{"/" + strings.Repeat("a", 499), api.OK, 0}, {"/" + strings.Repeat("a", 500), api.ErrLong, 0}, {strings.Repeat(" ", 499) + "\xff", api.ErrChar, 499}, {"\xff" + strings.Repeat(" ", 500), api.ErrLong, 0},
		{strings.Repeat("/a", 250), api.OK, 0}, {strings.Repeat("/a", 249) + "/", api.ErrForm, 499}, {strings.Repeat("/é", 167), api.ErrLong, 0}, {strings.Repeat("(", 1000000), api.ErrLong, 0}, {"/a[b='" + strings.Repeat("x", 492) + "']", api.OK, 0},
	} {
		l, no, at := Parse(c.q)
		if no != c.no || at != c.at || (l == nil) != (no != api.OK) {
			t.Errorf("Q1: Parse(%.20q.., %d bytes) = %d, %d, want %d, %d", c.q, len(c.q), no, at, c.no, c.at)
		}
		if p, no, at := Print(c.q); no != c.no || at != c.at || (p == "") != (no != api.OK) {
			t.Errorf("Q3: Print(%.20q.., %d bytes) = %d, %d, want %d, %d", c.q, len(c.q), no, at, c.no, c.at)
		}
	}
}

func TestPlainForm(t *testing.T) {
	for q, want := range map[string]string{
		"/a": "/a", "//a": "//a", "\t/\r\na\n": "/a", " / a // * / text ( ) ": "/a//*/text()", "/a|//b | /*": "/a|//b|/*", "/text": "/text", "/text/not/or/and": "/text/not/or/and", "/text [ b ]": "/text[b]", "/text()[.='x'][@k]": "/text()[.=\"x\"][@k]",
		"/é.b-c": "/é.b-c", "/a [ b ] [ c ] / d": "/a[b][c]/d", "/a[b/c//d/@k]": "/a[b/c//d/@k]", "/a[ . ]": "/a[.]", "/a[. // b]": "/a[.//b]", "/a[.//b/@k!=\"x\"]": "/a[.//b/@k!=\"x\"]", "/a[@k='1']": "/a[@k=\"1\"]", "/a[@not][@text][@or]": "/a[@not][@text][@or]",
		"/a[b='']": "/a[b=\"\"]", "/a[b=\"'\"]": "/a[b=\"'\"]", "/a[.='\"']": "/a[.='\"']", "/a[b!=' é[ ]|//(&lt; ']": "/a[b!=\" é[ ]|//(&lt; \"]", "/a[b = 'x'and c != 'y']": "/a[b=\"x\" and c!=\"y\"]",
		"/a[b or c or d]": "/a[b or c or d]", "/a[b or c and d or e]": "/a[b or c and d or e]", "/a[(b or c) or d]": "/a[(b or c) or d]", "/a[b or (c or d)]": "/a[b or (c or d)]", "/a[(b and c) and d]": "/a[(b and c) and d]", "/a[(b and c) or d]": "/a[b and c or d]", "/a[(b or c) and (d)]": "/a[(b or c) and d]",
		"/a[(((b)))]": "/a[b]", "/a[(b or c)]": "/a[b or c]", "/a[not((b))]": "/a[not(b)]", "/a[(not(b and c))and d]": "/a[not(b and c) and d]", "/a[not(not(b)or c)]": "/a[not(not(b) or c)]", "/a[not ( b ) ]": "/a[not(b)]",
		"/a[not]": "/a[not]", "/a[not='x']": "/a[not=\"x\"]", "/a[not/b]": "/a[not/b]", "/a[not[b]]": "/a[not[b]]", "/a[or or or and and]": "/a[or or or and and]", "/not[or and and]": "/not[or and and]", "/a[or and(or)]": "/a[or and or]", "/a[not or(not)]": "/a[not or not]", "/a[text]": "/a[text]", "/a[text()]": "/a[text()]", "/a[text ( )='x']": "/a[text()=\"x\"]",
		"/a[*]": "/a[*]", "/a[*//*/@k]": "/a[*//*/@k]", "/a[b[c]/d[e][f='x']/@k]": "/a[b[c]/d[e][f=\"x\"]/@k]", "/a[(((((((b)))))))]": "/a[b]", "/a[(((((((text())))))))]/text()": "/a[text()]/text()", "/a[b[b[b[b[b[b[b]]]]]]]": "/a[b[b[b[b[b[b[b]]]]]]]", "/a[(b)][(((((((c)))))))]": "/a[b][c]",
	} {
		for _, q := range []string{q, want} {
			if p, no, at := Print(q); p != want || no != api.OK || at != 0 {
				t.Errorf("Q3: Print(%q) = %q, %d, %d, want %q", q, p, no, at, want)
			}
		}
	}
}

func TestPaths(t *testing.T) {
	has := func(test string) api.Pred {
		return api.Pred{Op: "has", Steps: []api.Step{{Test: test}}}
	}
	for _, c := range []struct {
		q    string
		want [][]api.Step
	}{
		{"/a", [][]api.Step{{{Test: "a"}}}},
		{"//a/*//text()|/text", [][]api.Step{{{Deep: true, Test: "a"}, {Test: "*"}, {Deep: true, Test: "#"}}, {{Test: "text"}}}},
		{"/a[.]", [][]api.Step{{{Test: "a", Preds: []api.Pred{{Op: "has"}}}}}},
		{"/a[@k]//b[. != '']", [][]api.Step{{{Test: "a", Preds: []api.Pred{{Op: "has", Attr: "k"}}}, {Deep: true, Test: "b", Preds: []api.Pred{{Op: "!="}}}}}},
		{"/a[.//b/c//d/@k='\"x']", [][]api.Step{{{Test: "a", Preds: []api.Pred{{Op: "=", Steps: []api.Step{{Deep: true, Test: "b"}, {Test: "c"}, {Deep: true, Test: "d"}}, Attr: "k", Text: "\"x"}}}}}},
		{"/a[b][((c))]", [][]api.Step{{{Test: "a", Preds: []api.Pred{has("b"), has("c")}}}}},
		{"/a[b or c or d]", [][]api.Step{{{Test: "a", Preds: []api.Pred{{Op: "or", Kids: []api.Pred{has("b"), has("c"), has("d")}}}}}}},
		{"/a[b or c and d]", [][]api.Step{{{Test: "a", Preds: []api.Pred{{Op: "or", Kids: []api.Pred{has("b"), {Op: "and", Kids: []api.Pred{has("c"), has("d")}}}}}}}}},
		{"/a[(b or c) or not((d))]", [][]api.Step{{{Test: "a", Preds: []api.Pred{{Op: "or", Kids: []api.Pred{{Op: "or", Kids: []api.Pred{has("b"), has("c")}}, {Op: "not", Kids: []api.Pred{has("d")}}}}}}}}},
		{"/a[(text() and *)and b[c]]", [][]api.Step{{{Test: "a", Preds: []api.Pred{{Op: "and", Kids: []api.Pred{{Op: "and", Kids: []api.Pred{has("#"), has("*")}}, {Op: "has", Steps: []api.Step{{Test: "b", Preds: []api.Pred{has("c")}}}}}}}}}}},
	} {
		if l, no, at := Parse(c.q); !reflect.DeepEqual(l, c.want) || no != api.OK || at != 0 {
			t.Errorf("Q2: Parse(%q) = %#v, %d, %d, want %#v", c.q, l, no, at, c.want)
		}
	}
}

func TestNothingIsShared(t *testing.T) {
	q := "/a[b or c or d and e and f][g/h/i]/j/k|/l|/m"
	first, _, _ := Parse(q)
	second, _, _ := Parse(q)
	third, _, _ := Parse(q)
	for i := range first {
		_ = append(first[i], api.Step{Test: "no"})
		spoil(first[i])
	}
	if !reflect.DeepEqual(second, third) {
		t.Errorf("G4: %v, %v", second, third)
	}
	if l := first[0]; l[0].Preds[0].Kids[2].Kids[1].Op != "no" || l[0].Preds[1].Steps[2].Test != "no" || l[2].Test != "no" {
		t.Errorf("G4: lists of one answer share memory: %v", l)
	}
}

// spoil writes over each item of the lists, and behind their ends.
func spoil(steps []api.Step) {
	for i := range steps {
		_ = append(steps[i].Preds, api.Pred{Op: "behind"})
		spoilPreds(steps[i].Preds)
		steps[i].Test = "no"
	}
}

func spoilPreds(preds []api.Pred) {
	for i := range preds {
		_ = append(preds[i].Kids, api.Pred{Op: "behind"})
		_ = append(preds[i].Steps, api.Step{Test: "behind"})
		spoilPreds(preds[i].Kids)
		spoil(preds[i].Steps)
		preds[i].Op = "no"
	}
}
