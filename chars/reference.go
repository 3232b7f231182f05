package chars

import (
	"strings"
	"unicode/utf8"
)

// named are the references that have a name.
var named = [5]struct {
	text string
	r    rune
}{{"&lt;", '<'}, {"&gt;", '>'}, {"&amp;", '&'}, {"&quot;", '"'}, {"&apos;", '\''}}

// reference tells what the reference at the beginning of s stands for, and how
// many bytes it has: 0, if there is none.
func reference(s string) (rune, int) {
	for _, n := range named {
		if strings.HasPrefix(s, n.text) {
			return n.r, len(n.text)
		}
	}
	if digits, ok := strings.CutPrefix(s, "&#x"); ok {
		return numbered(digits, 16, len("&#x"))
	}
	if digits, ok := strings.CutPrefix(s, "&#"); ok {
		return numbered(digits, 10, len("&#"))
	}
	return 0, 0
}

// numbered is the reference whose number begins s, behind so many bytes of its
// own.
func numbered(s string, base rune, ahead int) (rune, int) {
	var number rune
	for i, r := range s {
		if r == ';' {
			if !character(number) { // nor is 0 one, which no digits leave
				return 0, 0
			}
			return number, ahead + i + 1
		}
		d := digit(r)
		if d >= base {
			return 0, 0
		}
		if number <= utf8.MaxRune { // any number of digits may come: above all characters it need not grow
			number = number*base + d
		}
	}
	return 0, 0
}

// digit is what a digit counts; 16, if r is none.
func digit(r rune) rune {
	switch {
	case r >= '0' && r <= '9':
		return r - '0'
	case r >= 'a' && r <= 'f':
		return r - 'a' + 10
	case r >= 'A' && r <= 'F':
		return r - 'A' + 10
	}
	return 16
}
