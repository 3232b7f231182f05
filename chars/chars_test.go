package chars

import (
	"fmt"
	"strings"
	"testing"

	"prune/api"
)

// bits writes a number as UTF-8 would in so many bytes, whatever the number.
func bits(r, n int) string {
	if n == 1 {
		return string([]byte{byte(r)})
	}
	b := make([]byte, n)
	for i := n - 1; i > 0; i-- {
		b[i] = 0x80 | byte(r&0x3F)
		r >>= 6
	}
	b[0] = byte(0xF0<<(4-n)) | byte(r)
	return string(b)
}

// fewest is how many bytes a number takes in UTF-8.
func fewest(r int) int {
	switch {
	case r < 0x80:
		return 1
	case r < 0x800:
		return 2
	case r < 0x10000:
		return 3
	}
	return 4
}

// may tells whether C1 counts a number among the characters.
func may(r int) bool {
	for _, b := range [][2]int{{9, 10}, {13, 13}, {32, 0xD7FF}, {0xE000, 0xFFFD}, {0x10000, 0x10FFFF}} {
		if r >= b[0] && r <= b[1] {
			return true
		}
	}
	return false
}

func TestBadOfEveryNumber(t *testing.T) {
	for r := range 0x140000 {
		s := "é" + bits(r, fewest(r)) + "z"
		want := len(s)
		if !may(r) {
			want = 2
		}
		if n := Bad(s); n != want {
			t.Fatalf("C1: Bad(%q) = %d, want %d (number %x)", s, n, want, r)
		}
	}
}

func TestBadOfBytesThatAreNoCharacter(t *testing.T) {
	for r := range 0x10000 {
		for n := fewest(r) + 1; n <= 4; n++ {
			if s := "a" + bits(r, n); Bad(s) != 1 {
				t.Fatalf("C1: %q, more bytes than are needed: %d", s, Bad(s))
			}
		}
	}
	for _, s := range []string{"é", "水", "😀", "\uFFFD", "\U0010FFFF"} {
		for n := 1; n < len(s); n++ {
			for _, behind := range []string{"", "a", "é"} {
				if x := "ab" + s[:n] + behind; Bad(x) != 2 {
					t.Errorf("C1: %q breaks off: %d", x, Bad(x))
				}
			}
		}
	}
	for b := 0x80; b < 0x100; b++ {
		if s := "x" + bits(b, 1); Bad(s) != 1 {
			t.Errorf("C1: %q: %d", s, Bad(s))
		}
	}
}

func TestBad(t *testing.T) {
	for _, c := range []struct {
		s    string
		want int
	}{
		{"", 0}, {"abc", 3}, {"\t\n\r ", 4}, {"\x0b", 0}, {"\x1f", 0}, {"\x7f\u0080\u0085", 5},
		{"\uFFFD\uFFFD", 6}, {"\uFFFD\xff", 3}, {"\uFFFE", 0}, {"a\uFFFF", 1}, {"a\x00b\x00", 1},
		{"水\xed\xa0\x80", 3}, {"\xf4\x90\x80\x80", 0}, {"\xf8\x88\x80\x80\x80", 0},
		{strings.Repeat("水", 1000) + "\x01", 3000},
	} {
		if n := Bad(c.s); n != c.want {
			t.Errorf("C1: Bad(%q) = %d, want %d", c.s, n, c.want)
		}
	}
}

func TestNameOfEveryNumber(t *testing.T) {
	first := "ABCDEFGHIJKLMNOPQRSTUVWXYZabcdefghijklmnopqrstuvwxyz_"
	for r := range 0x140000 {
		s := bits(r, fewest(r))
		begins := r >= 128 && may(r) || r < 128 && strings.Contains(first, s)
		goesOn := begins || r < 128 && strings.Contains("0123456789-.", s)
		alone, behind := 0, 1
		if begins {
			alone = len(s)
		}
		if goesOn {
			behind += len(s)
		}
		if n := Name(s); n != alone {
			t.Fatalf("C2: Name(%q) = %d, want %d", s, n, alone)
		}
		if n := Name("a" + s + "="); n != behind {
			t.Fatalf("C2: Name(a%q=) = %d, want %d", s, n, behind)
		}
	}
}

func TestName(t *testing.T) {
	for _, c := range []struct {
		s    string
		want int
	}{
		{"", 0}, {"a", 1}, {"A-z.0_", 6}, {"a b", 1}, {"0a", 0}, {".a", 0}, {"-", 0}, {" a", 0},
		{"é水😀", 9}, {"a:b", 1}, {"a\uFFFD", 4}, {"a\xff", 1}, {"\xff", 0}, {"aé\xc3", 3}, {"a\uFFFEb", 1},
		{"a\u00b7\u0300", 5}, {strings.Repeat("n", 5000) + "/", 5000},
	} {
		if n := Name(c.s); n != c.want {
			t.Errorf("C2: Name(%q) = %d, want %d", c.s, n, c.want)
		}
	}
}

func TestEscapeOfEveryByte(t *testing.T) {
	plain := map[string]string{"&": "&amp;", "<": "&lt;", ">": "&gt;", "\r": "&#13;"}
	quoted := map[string]string{"&": "&amp;", "<": "&lt;", ">": "&gt;", "\r": "&#13;", "\"": "&quot;", "\t": "&#9;", "\n": "&#10;"}
	for b := range 256 {
		s := bits(b, 1)
		for q, refs := range map[bool]map[string]string{false: plain, true: quoted} {
			want := s
			if ref, ok := refs[s]; ok {
				want = ref
			}
			if got := Escape("é"+s+s+"z", q); got != "é"+want+want+"z" {
				t.Errorf("C3: Escape of the byte %d, %v: %q", b, q, got)
			}
		}
	}
}

func TestEscape(t *testing.T) {
	for _, c := range []struct {
		s      string
		quoted bool
		want   string
	}{
		{"", false, ""}, {"", true, ""}, {"a'b水", true, "a'b水"}, {"<&>", false, "&lt;&amp;&gt;"},
		{"&lt;", false, "&amp;lt;"}, {"\xff<\xc3", false, "\xff&lt;\xc3"}, {"\xe6\xb0&\uFFFD\x00", true, "\xe6\xb0&amp;\uFFFD\x00"},
		{"\"\t\n\r'", false, "\"\t\n&#13;'"}, {"\"\t\n\r'", true, "&quot;&#9;&#10;&#13;'"},
	} {
		if got := Escape(c.s, c.quoted); got != c.want {
			t.Errorf("C3: Escape(%q, %v) = %q, want %q", c.s, c.quoted, got, c.want)
		}
	}
}

func TestUnescapeOfEveryNumber(t *testing.T) {
	for r := range 0x110100 {
		want, no := "", api.ErrRef
		if may(r) {
			want, no = string(rune(r)), api.OK
		}
		for _, ref := range []string{fmt.Sprintf("&#%d;", r), fmt.Sprintf("&#x%x;", r), fmt.Sprintf("&#x%08X;", r)} {
			if s, e, at := Unescape(ref); s != want || e != no || at != 0 {
				t.Fatalf("C4: Unescape(%q) = %q, %d, %d", ref, s, e, at)
			}
		}
		if may(r) {
			c := string(rune(r))
			for _, quoted := range []bool{false, true} {
				if s, e, _ := Unescape(Escape(c, quoted)); s != c || e != api.OK {
					t.Fatalf("C3, C4: %q comes back as %q, %d", c, s, e)
				}
			}
		}
	}
}

func TestUnescape(t *testing.T) {
	zeros := strings.Repeat("0", 100000)
	for _, c := range []struct{ s, want string }{
		{"", ""}, {"abc", "abc"}, {"水\uFFFD", "水\uFFFD"}, {"&lt;&gt;&amp;&quot;&apos;", "<>&\"'"},
		{"x&lt;y", "x<y"}, {"&amp;lt;", "&lt;"}, {"&amp;amp;#65;", "&amp;#65;"}, {";&#65;;", ";A;"}, {"<a>\"'", "<a>\"'"},
		{"&#9;&#xA;&#xd;", "\t\n\r"}, {"&#" + zeros + "65;&#x" + zeros + "6a;", "Aj"}, {"&#1114111;", "\U0010FFFF"}, {"&#xaBcD;", "\uABCD"},
	} {
		if s, e, at := Unescape(c.s); s != c.want || e != api.OK || at != 0 {
			t.Errorf("C4: Unescape(%.40q) = %.40q, %d, %d, want %q", c.s, s, e, at, c.want)
		}
	}
}

func TestUnescapeOfWhatIsWrong(t *testing.T) {
	for _, c := range []struct {
		s  string
		no api.Errno
		at int
	}{
		{"&", api.ErrRef, 0}, {"ab&", api.ErrRef, 2}, {"水&lt", api.ErrRef, 3}, {"&;", api.ErrRef, 0}, {"&lt;&gt", api.ErrRef, 4},
		{"&LT;", api.ErrRef, 0}, {"&Amp;", api.ErrRef, 0}, {"&nbsp;", api.ErrRef, 0}, {"& lt;", api.ErrRef, 0}, {"&lt ;", api.ErrRef, 0}, {"&&lt;", api.ErrRef, 0},
		{"&#;", api.ErrRef, 0}, {"&#x;", api.ErrRef, 0}, {"&#X41;", api.ErrRef, 0}, {"&#4a;", api.ErrRef, 0}, {"&#x4g;", api.ErrRef, 0}, {"&#xx41;", api.ErrRef, 0},
		{"&#+65;", api.ErrRef, 0}, {"&#-65;", api.ErrRef, 0}, {"&# 65;", api.ErrRef, 0}, {"&#65 ;", api.ErrRef, 0}, {"&#6_5;", api.ErrRef, 0}, {"&#６５;", api.ErrRef, 0},
		{"&#65", api.ErrRef, 0}, {"&#x", api.ErrRef, 0}, {"&#", api.ErrRef, 0}, {"&x41;", api.ErrRef, 0},
		{"&#0;", api.ErrRef, 0}, {"&#8;", api.ErrRef, 0}, {"&#xD800;", api.ErrRef, 0}, {"&#xFFFE;", api.ErrRef, 0}, {"&#1114112;", api.ErrRef, 0},
		{"&#4294967361;", api.ErrRef, 0}, {"&#18446744073709551681;", api.ErrRef, 0}, {"&#x100000041;", api.ErrRef, 0}, {"&#x10000000000000041;", api.ErrRef, 0},
		{"&#" + strings.Repeat("9", 5000) + ";", api.ErrRef, 0},
		{"\xff", api.ErrChar, 0}, {"a\x00&", api.ErrChar, 1}, {"&\xff", api.ErrRef, 0}, {"&lt;\xc3", api.ErrChar, 4}, {"&lt\xff;", api.ErrRef, 0}, {"&#65\xff;", api.ErrRef, 0},
		{"\uFFFD\uFFFE", api.ErrChar, 3}, {"&gt;\xed\xa0\x80&x", api.ErrChar, 4},
	} {
		if s, e, at := Unescape(c.s); s != "" || e != c.no || at != c.at {
			t.Errorf("C4: Unescape(%.40q) = %q, %d, %d, want %d, %d", c.s, s, e, at, c.no, c.at)
		}
	}
}
