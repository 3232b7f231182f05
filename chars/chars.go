// Package chars: characters, names, references: see doc/01-chars.md.
package chars

import (
	"strings"
	"unicode/utf8"

	"prune/api"
)

// Bad tells where the first byte is at which no character begins (C1).
func Bad(s string) int {
	for i, r := range s {
		if !characterAt(s, i, r) {
			return i
		}
	}
	return len(s)
}

// Name tells how long the name at a text's beginning is (C2).
func Name(s string) int {
	for i, r := range s {
		fits := beginsName(r) || i > 0 && goesOnInName(r)
		if !fits || !characterAt(s, i, r) {
			return i
		}
	}
	return len(s)
}

// Escape puts references for what would be taken for markup (C3).
func Escape(s string, quoted bool) string {
	var b strings.Builder
	written := 0
	for i, r := range s {
		if ref := referenceFor(r, quoted); ref != "" {
			b.WriteString(s[written:i])
			b.WriteString(ref)
			written = i + 1 // all that has a reference is one byte long
		}
	}
	b.WriteString(s[written:])
	return b.String()
}

// Unescape puts characters for references (C4).
func Unescape(s string) (string, api.Errno, int) {
	var b strings.Builder
	behind := 0 // where the last reference ends: a range cannot leap over it
	for i, r := range s {
		switch {
		case i < behind:
		case !characterAt(s, i, r):
			return "", api.ErrChar, i
		case r == '&':
			c, n := reference(s[i:])
			if n == 0 {
				return "", api.ErrRef, i
			}
			b.WriteRune(c)
			behind = i + n
		default:
			b.WriteRune(r)
		}
	}
	return b.String(), api.OK, 0
}

// characterAt tells whether r, which a range over s told of place i, is a
// character. A range tells U+FFFD of bytes that are no UTF-8, too, so that one
// is held against its bytes.
func characterAt(s string, i int, r rune) bool {
	if r == utf8.RuneError {
		return strings.HasPrefix(s[i:], string(utf8.RuneError))
	}
	return character(r)
}

func character(r rune) bool {
	switch {
	case r == 9, r == 10, r == 13:
		return true
	case r >= 32 && r <= 0xD7FF, r >= 0xE000 && r <= 0xFFFD:
		return true
	}
	return r >= 0x10000 && r <= 0x10FFFF
}

func beginsName(r rune) bool {
	return r >= 'A' && r <= 'Z' || r >= 'a' && r <= 'z' || r == '_' || r >= 128
}

func goesOnInName(r rune) bool {
	return r >= '0' && r <= '9' || r == '-' || r == '.'
}

// referenceFor is what Escape puts for r; empty, if it leaves r as it is.
func referenceFor(r rune, quoted bool) string {
	switch r {
	case '&':
		return "&amp;"
	case '<':
		return "&lt;"
	case '>':
		return "&gt;"
	case '\r':
		return "&#13;"
	}
	if !quoted {
		return ""
	}
	switch r {
	case '"':
		return "&quot;"
	case '\t':
		return "&#9;"
	case '\n':
		return "&#10;"
	}
	return ""
}
