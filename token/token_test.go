package token

import (
	"reflect"
	"strings"
	"testing"

	"prune/api"
)

func open(name string, at int, pairs ...string) api.Token {
	t := api.Token{Kind: 1, Name: name, At: at}
	for i := 0; i < len(pairs); i += 2 {
		t.Attrs = append(t.Attrs, api.Attr{Name: pairs[i], Value: pairs[i+1]})
	}
	return t
}

func shut(name string, at int) api.Token { return api.Token{Kind: 2, Name: name, At: at} }

func words(s string, at int) api.Token { return api.Token{Kind: 3, Text: s, At: at} }

func TestWhatIsWrong(t *testing.T) {
	for _, c := range []struct {
		s  string
		no api.Errno
		at int
	}{
		// a byte at which no character begins, wherever it stands
		{"\xff", api.ErrChar, 0}, {"ab\x00", api.ErrChar, 2}, {"<\xff", api.ErrChar, 1}, {"<a\xff>", api.ErrChar, 2}, {"<a \xff>", api.ErrChar, 3},
		{"<a k\xff='1'>", api.ErrChar, 4}, {"<a k \xff", api.ErrChar, 5}, {"<a k=\xff'1'>", api.ErrChar, 5}, {"<a k='\xff'>", api.ErrChar, 6}, {"<a k='1'\xff>", api.ErrChar, 8},
		{"<a/\xff>", api.ErrChar, 3}, {"</\xff", api.ErrChar, 2}, {"</a\xff>", api.ErrChar, 3}, {"</a \xff>", api.ErrChar, 4}, {"<!\xff", api.ErrChar, 2}, {"<!-\xff", api.ErrChar, 3},
		{"<!--\xff-->", api.ErrChar, 4}, {"<!---\xff-->", api.ErrChar, 5}, {"<!----\xff>", api.ErrChar, 6}, {"<?\xff", api.ErrChar, 2}, {"<?a\xff?>", api.ErrChar, 3}, {"<?a?\xff>", api.ErrChar, 4},
		{"<![\xff", api.ErrChar, 3}, {"<![CDATA[\xff]]>", api.ErrChar, 9}, {"<![CDATA[]\xff]>", api.ErrChar, 10}, {"<![CDATA[]]\xff>", api.ErrChar, 11},
		{"<a>\xc3", api.ErrChar, 3}, {"<a\xc3", api.ErrChar, 2}, {"a\uFFFE", api.ErrChar, 1}, {"\xe2\x82", api.ErrChar, 0}, {"\xe2\x82<", api.ErrChar, 0}, {"<a>\xed\xa0\x80", api.ErrChar, 3},
		{"\xff&", api.ErrChar, 0}, {"<a k='1'\xffk='2'>", api.ErrChar, 8},
		// an "&" at which no reference begins
		{"&", api.ErrRef, 0}, {"ab&cd", api.ErrRef, 2}, {"&;", api.ErrRef, 0}, {"&amp", api.ErrRef, 0}, {"&amp<a>", api.ErrRef, 0}, {"&amp ;", api.ErrRef, 0}, {"&lt;&", api.ErrRef, 4}, {"&&lt;", api.ErrRef, 0},
		{"&#0;", api.ErrRef, 0}, {"&#xD800;", api.ErrRef, 0}, {"&#1114112;", api.ErrRef, 0}, {"&#;", api.ErrRef, 0}, {"&#X41;", api.ErrRef, 0}, {"&é;", api.ErrRef, 0}, {"&a.b-c_d;", api.ErrRef, 0},
		{"&\xff", api.ErrRef, 0}, {"&am\xff", api.ErrRef, 0}, {"&#6\xc3", api.ErrRef, 0},
		{"<a k='&'>", api.ErrRef, 6}, {"<a k='&lt'>", api.ErrRef, 6}, {"<a k='x&\xff", api.ErrRef, 7}, {"<a k='&lt", api.ErrRef, 6}, {"<a k=\"&#0;\">", api.ErrRef, 6},
		// an attribute twice
		{"<a k='1' k='2'>", api.ErrTwice, 9}, {"<a k='1' m='2' k='3'>", api.ErrTwice, 15}, {"<a é='1'\n\té=''/>", api.ErrTwice, 11}, {"<a k='1' k", api.ErrTwice, 9},
		{"<a k='1' k>", api.ErrTwice, 9}, {"<a k='1' k\xff", api.ErrTwice, 9}, {"<a k='1' k\xc3", api.ErrTwice, 9}, {"<a k='1' k=&", api.ErrTwice, 9}, {"<a k='' k='<'>", api.ErrTwice, 8},
		// a byte that cannot stand there
		{"< a>", api.ErrForm, 1}, {"<>", api.ErrForm, 1}, {"<1>", api.ErrForm, 1}, {"<<", api.ErrForm, 1}, {"<&lt;", api.ErrForm, 1}, {"<a<b>", api.ErrForm, 2}, {"<a:b>", api.ErrForm, 2}, {"<a=''>", api.ErrForm, 2},
		{"<a 1='2'>", api.ErrForm, 3}, {"<a &lt;>", api.ErrForm, 3}, {"<a b>", api.ErrForm, 4}, {"<a b/>", api.ErrForm, 4}, {"<a b c=''>", api.ErrForm, 5}, {"<a b==''>", api.ErrForm, 5}, {"<a b=c>", api.ErrForm, 5}, {"<a b= >", api.ErrForm, 6},
		{"<a k='1'm='2'>", api.ErrForm, 8}, {"<a k='1''>", api.ErrForm, 8}, {"<a k='<'>", api.ErrForm, 6}, {"<a k='1' =", api.ErrForm, 9}, {"<a/ >", api.ErrForm, 3}, {"<a//>", api.ErrForm, 3}, {"<a / k=''>", api.ErrForm, 4}, {"<a / >", api.ErrForm, 4},
		{"</ a>", api.ErrForm, 2}, {"</>", api.ErrForm, 2}, {"</a/>", api.ErrForm, 3}, {"</a b>", api.ErrForm, 4}, {"</a k=''>", api.ErrForm, 4}, {"</a<", api.ErrForm, 3},
		{"<!x>", api.ErrForm, 2}, {"<!>", api.ErrForm, 2}, {"<!-x", api.ErrForm, 3}, {"<!-->--x>", api.ErrForm, 7}, {"<!----->", api.ErrForm, 6}, {"<!-- -- -->", api.ErrForm, 7}, {"<!--a--é", api.ErrForm, 7},
		{"<?>", api.ErrForm, 2}, {"<? a?>", api.ErrForm, 2}, {"<??>", api.ErrForm, 2}, {"<?1?>", api.ErrForm, 2},
		{"<![cdata[", api.ErrForm, 3}, {"<![CDATa[", api.ErrForm, 7}, {"<![CDATA ", api.ErrForm, 8}, {"<![]]>", api.ErrForm, 3},
		// a text that ends within an item
		{"<", api.ErrForm, 1}, {"<a", api.ErrForm, 2}, {"<a ", api.ErrForm, 3}, {"<a k", api.ErrForm, 4}, {"<a k ", api.ErrForm, 5}, {"<a k=", api.ErrForm, 5}, {"<a k= ", api.ErrForm, 6}, {"<a k='", api.ErrForm, 6}, {"<a k='é", api.ErrForm, 8},
		{"<a k='1'", api.ErrForm, 8}, {"<a k='&lt;", api.ErrForm, 10}, {"<a/", api.ErrForm, 3}, {"</", api.ErrForm, 2}, {"</a", api.ErrForm, 3}, {"</a ", api.ErrForm, 4}, {"<!", api.ErrForm, 2}, {"<!-", api.ErrForm, 3}, {"<!--", api.ErrForm, 4},
		{"<!---", api.ErrForm, 5}, {"<!----", api.ErrForm, 6}, {"<!-->", api.ErrForm, 5}, {"<!--->", api.ErrForm, 6}, {"<?", api.ErrForm, 2}, {"<?a", api.ErrForm, 3}, {"<?a?", api.ErrForm, 4}, {"<?a>", api.ErrForm, 4}, {"<?a ? >", api.ErrForm, 7},
		{"<![", api.ErrForm, 3}, {"<![CDATA", api.ErrForm, 8}, {"<![CDATA[", api.ErrForm, 9}, {"<![CDATA[]", api.ErrForm, 10}, {"<![CDATA[]]", api.ErrForm, 11}, {"<![CDATA[] ]>", api.ErrForm, 13}, {"<![CDATA[&\xc3\xa9", api.ErrForm, 12},
	} {
		for _, ahead := range []string{"", "<a k='1'>é<!--\r\n-->"} {
			s, at := ahead+c.s, len(ahead)+c.at
			if l, e, n := All(s); l != nil || e != c.no || n != at {
				t.Errorf("T1, T3: All(%q) = %v, %d, %d, want %d, %d", s, l, e, n, c.no, at)
			}
		}
	}
}

func TestTokens(t *testing.T) {
	for _, c := range []struct {
		s    string
		want []api.Token
	}{
		{"", nil}, {"<!---->", nil}, {"<!-- <a> & \" -->", nil}, {"<?a?>", nil}, {"<?a ??>", nil}, {"<?a?b <c> &?>", nil}, {"<?a-b?><!--x-y-z-->", nil}, {"<![CDATA[]]>", nil},
		{" ", []api.Token{words(" ", 0)}},
		{"]]>--?>;#\"'=/", []api.Token{words("]]>--?>;#\"'=/", 0)}},
		{"<a>", []api.Token{open("a", 0)}},
		{"</a>", []api.Token{shut("a", 0)}},
		{"</a \t\r\n></b>", []api.Token{shut("a", 0), shut("b", 8)}},
		{"<a/>", []api.Token{open("a", 0), shut("a", 0)}},
		{"<é \r\n/><a />", []api.Token{open("é", 0), shut("é", 0), open("a", 8), shut("a", 8)}},
		{"<a k=''>", []api.Token{open("a", 0, "k", "")}},
		{"<a k = \"1'>/\"\tm='\"&quot;'\n>", []api.Token{open("a", 0, "k", "1'>/", "m", "\"\"")}},
		{"<a b='1' a='2' B='3'/>", []api.Token{open("a", 0, "b", "1", "a", "2", "B", "3"), shut("a", 0)}},
		{"<a k='&#65;\t\r\n é&amp;lt;'>", []api.Token{open("a", 0, "k", "A\t\r\n é&lt;")}},
		{"<a k='1'><a k='2'>", []api.Token{open("a", 0, "k", "1"), open("a", 9, "k", "2")}},
		{"x<a>y</a>z", []api.Token{words("x", 0), open("a", 1), words("y", 4), shut("a", 5), words("z", 9)}},
		{"<a>x<!--c-->y<?o?>z<b/>", []api.Token{open("a", 0), words("xyz", 3), open("b", 19), shut("b", 19)}},
		{"<!--c-->x<a>", []api.Token{words("x", 8), open("a", 9)}},
		{"<a><!--c--></a>", []api.Token{open("a", 0), shut("a", 11)}},
		{"<![CDATA[<b>&amp;]]>&amp;", []api.Token{words("<b>&amp;&", 9)}},
		{"<a><![CDATA[]]><![CDATA[]]]><b>", []api.Token{open("a", 0), words("]", 24), open("b", 28)}},
		{"<![CDATA[]]]]>", []api.Token{words("]]", 9)}},
		{"<![CDATA[]a]]b] ]>]]>", []api.Token{words("]a]]b] ]>", 9)}},
		{"<![CDATA[]]><![CDATA[]]a]]>", []api.Token{words("]]a", 21)}},
		{"&#x1F600;&apos;<a>", []api.Token{words("😀'", 0), open("a", 15)}},
		{"<!----><?a?>&lt;é", []api.Token{words("<é", 12)}},
		{"\r\n\t<a>\r\n", []api.Token{words("\r\n\t", 0), open("a", 3), words("\r\n", 6)}},
		{"\u0080\uFFFD\U0010FFFF<\uFFFD->", []api.Token{words("\u0080\uFFFD\U0010FFFF", 0), open("\uFFFD-", 9)}},
		{"&#" + strings.Repeat("0", 1000) + "65;", []api.Token{words("A", 0)}},
	} {
		if l, e, at := All(c.s); !reflect.DeepEqual(l, c.want) || e != api.OK || at != 0 {
			t.Errorf("T2, T3: All(%q) = %v, %d, %d, want %v", c.s, l, e, at, c.want)
		}
	}
}

// follow gives s to a reader, so many bytes at a time, and holds what it
// answers against what is told of the text so far.
func follow(t *testing.T, s string, size int) {
	r := New()
	var got []api.Token
	for i := 0; i < len(s); i += size {
		end := min(i+size, len(s))
		got = append(got, r.Write(s[i:end])...)
		if want, _, _, _ := told(s[:end]); !reflect.DeepEqual(got, want) {
			t.Fatalf("T4: %q by %d: behind %d bytes %v, want %v", s, size, end, got, want)
		}
		if no, at := r.Err(); no != api.OK || at != 0 {
			t.Fatalf("T4: %q by %d: Err ahead of Close: %d, %d", s, size, no, at)
		}
	}
	_, last, no, at := told(s)
	if l := r.Close(); !reflect.DeepEqual(l, last) {
		t.Fatalf("T4: %q by %d: Close %v, want %v", s, size, l, last)
	}
	for range 2 {
		if e, n := r.Err(); e != no || n != at {
			t.Fatalf("T1, T4: %q by %d: Err %d, %d, want %d, %d", s, size, e, n, no, at)
		}
		if r.Write("x<z>") != nil || r.Close() != nil {
			t.Fatalf("T4: %q by %d: something behind Close", s, size)
		}
	}
}

func checkAll(t *testing.T, s string) {
	tags, last, no, at := told(s)
	want := append(tags, last...)
	if no != api.OK {
		want = nil
	}
	if l, e, n := All(s); !reflect.DeepEqual(l, want) || e != no || n != at {
		t.Fatalf("T1 to T3: All(%q) = %v, %d, %d, want %v, %d, %d", s, l, e, n, want, no, at)
	}
}

func pieces() []string {
	return []string{"<", ">", "/", "a", "k", "=", "'", "\"", " ", "\n", "&", ";", "#", "1", "-", "!", "?", "[", "]", "é", "\xc3", "\xff",
		"&lt;", "&#x41;", "<a>", "</a>", "<a ", "k='1'", " k=\"x\"", "<!--", "-->", "<![CDATA[", "]]>", "<?o", "?>"}
}

func TestEveryRowOfPieces(t *testing.T) {
	p := pieces()
	for _, a := range p {
		for _, b := range p {
			for _, c := range p {
				follow(t, a+b+c, 1)
				for _, d := range p {
					checkAll(t, a+b+c+d)
				}
			}
		}
	}
}

func TestLongRowsOfPieces(t *testing.T) {
	p := pieces()
	n := uint32(1)
	for range 20000 {
		var s strings.Builder
		for s.Len() < 60 {
			n = n*1664525 + 1013904223
			// what is well more often than not lets a text go on
			switch n >> 28 {
			case 0, 1, 2, 3:
				s.WriteString(p[int(n>>8)%len(p)])
			case 4, 5, 6:
				s.WriteString("<a k='&amp;é' m = \">\"/>")
			case 7, 8:
				s.WriteString("<![CDATA[]x]]]>")
			case 9:
				s.WriteString("<!-- - &-->")
			default:
				s.WriteString([]string{"x", "é", "&gt;", "</b >", "<b>", "<?o ? ?>", " "}[int(n>>8)%7])
			}
		}
		checkAll(t, s.String())
		for _, size := range []int{1, 2, 3, 7} {
			follow(t, s.String(), size)
		}
	}
}

func TestWritesOfNothing(t *testing.T) {
	r := New()
	if r.Write("") != nil || r.Write("\xc3") != nil || r.Write("") != nil || r.Write("\xa9") != nil {
		t.Error("T4: a token ahead of any tag")
	}
	if l := r.Write("<a>"); !reflect.DeepEqual(l, []api.Token{words("é", 0), open("a", 2)}) {
		t.Errorf("T4: %v", l)
	}
	if l := r.Close(); l != nil {
		t.Errorf("T4: %v behind the last tag", l)
	}
	if l := New().Close(); l != nil {
		t.Errorf("T4: %v of no text", l)
	}
}

func TestNothingBehindWhatIsWrong(t *testing.T) {
	r := New()
	if l := r.Write("<a>x&y<b><c>"); len(l) != 1 {
		t.Errorf("T4: %v", l)
	}
	if r.Write(";<d>") != nil || r.Close() != nil {
		t.Error("T4: a token behind what is wrong")
	}
	if no, at := r.Err(); no != api.ErrRef || at != 4 {
		t.Errorf("T4: %d, %d, want the first thing that is wrong", no, at)
	}
}

func TestReadersShareNothing(t *testing.T) {
	a, b := New(), New()
	a.Write("<a k='1'>x<b")
	b.Write("<c k='1")
	if l := a.Write(">"); !reflect.DeepEqual(l, []api.Token{words("x", 9), open("b", 10)}) {
		t.Errorf("G3: %v", l)
	}
	b.Write("' k")
	a.Close()
	b.Close()
	if no, _ := a.Err(); no != api.OK {
		t.Errorf("G3: %d of the one", no)
	}
	if no, at := b.Err(); no != api.ErrTwice || at != 9 {
		t.Errorf("G3: %d, %d of the other", no, at)
	}
}

func TestAnswersShareNoMemory(t *testing.T) {
	r := New()
	first := r.Write("<a k='1' m='2' n='3'><b k='4'/>")
	kept := []api.Token{open("a", 0, "k", "1", "m", "2", "n", "3"), open("b", 21, "k", "4"), shut("b", 21)}
	second := r.Write("x<c k='5' m='6'>")
	for i := range second {
		for k := range second[i].Attrs {
			second[i].Attrs[k] = api.Attr{}
		}
		second[i].Attrs = append(second[i].Attrs, api.Attr{Name: "new"})
		second[i] = api.Token{}
	}
	if !reflect.DeepEqual(first, kept) {
		t.Errorf("G4: %v", first)
	}
	_ = append(first[0].Attrs, api.Attr{Name: "new"})
	if !reflect.DeepEqual(first, kept) {
		t.Errorf("G4: two lists of one answer: %v", first)
	}
	if l := r.Write("<d k='7'>"); !reflect.DeepEqual(l, []api.Token{open("d", 47, "k", "7")}) {
		t.Errorf("G4: %v", l)
	}
}

// A reader that read what it has over again with each byte would not end here.
func TestLongItemsByteByByte(t *testing.T) {
	const n = 1 << 19
	long := strings.Repeat(">", n)
	for _, c := range []struct {
		s    string
		want []api.Token
	}{
		{"<!--" + long + "--><a>", []api.Token{open("a", n+7)}},
		{"<?o " + long + "?><a>", []api.Token{open("a", n+6)}},
		{"<![CDATA[" + long + "]]><a>", []api.Token{words(long, 9), open("a", n+12)}},
		{long + "<a>", []api.Token{words(long, 0), open("a", n)}},
		{"<a k='" + long + "'>", []api.Token{open("a", 0, "k", long)}},
		{"<" + strings.Repeat("n", n) + ">", []api.Token{open(strings.Repeat("n", n), 0)}},
		{"&#" + strings.Repeat("0", n) + "65;<a>", []api.Token{words("A", 0), open("a", n+5)}},
		{"<a" + strings.Repeat(" ", n) + ">", []api.Token{open("a", 0)}},
	} {
		r := New()
		var got []api.Token
		for i := range len(c.s) {
			got = append(got, r.Write(c.s[i:i+1])...)
		}
		if r.Close(); !reflect.DeepEqual(got, c.want) {
			t.Errorf("T4: %.20q: %.200v", c.s, got)
		}
	}
}

func TestManyAttributes(t *testing.T) {
	var s strings.Builder
	s.WriteString("<a")
	const n = 100000
	for i := range n {
		s.WriteString(" k" + strings.Repeat("a", i%7) + "." + string(rune(0x10000+i)) + "='v'")
	}
	l, no, _ := All(s.String() + ">")
	if no != api.OK || len(l) != 1 || len(l[0].Attrs) != n {
		t.Errorf("T2: %d tokens, %d", len(l), no)
	}
	if _, no, at := All(s.String() + " k.\U00010000=''>"); no != api.ErrTwice || at != s.Len()+1 {
		t.Errorf("T1: %d, %d", no, at)
	}
}
