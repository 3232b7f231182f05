package token

import (
	"errors"
	"strconv"
	"strings"
	"unicode/utf8"

	"prune/api"
	"prune/chars"
)

// errMore: what comes next hangs on bytes that have not come.
var errMore = errors.New("more bytes are needed")

// wrong is what is wrong with a text, and where.
type wrong struct {
	no api.Errno
	at int
}

func (w wrong) Error() string {
	return "error " + strconv.Itoa(int(w.no)) + " at byte " + strconv.Itoa(w.at)
}

// What is handed on instead of a character: it fits nowhere a character does.
const (
	over   rune = -1 // the text has ended
	broken rune = -2 // no character begins here
)

// source hands on the characters of a text whose bytes come piece by piece.
type source struct {
	rest  string // what has come and was not handed on
	next  int    // the place of its first byte
	at    int    // the place of what was handed on last
	ended bool
}

func (s *source) add(piece string) { s.rest += piece }

func (s *source) end() { s.ended = true }

// keepRest lets go of the piece of which the rest is the end.
func (s *source) keepRest() { s.rest = strings.Clone(s.rest) }

// take hands on the next character. Over and broken stay where they are.
func (s *source) take() (rune, error) {
	if !s.ended && !utf8.FullRuneInString(s.rest) {
		return 0, errMore
	}
	s.at = s.next
	if s.rest == "" {
		return over, nil
	}
	c, n := utf8.DecodeRuneInString(s.rest)
	if chars.Bad(s.rest[:n]) < n {
		return broken, nil
	}
	s.rest = s.rest[n:]
	s.next += n
	return c, nil
}

// refuse says that c, which was handed on last, cannot stand where it does.
func (s *source) refuse(c rune) error {
	if c == broken {
		return wrong{api.ErrChar, s.at}
	}
	return wrong{api.ErrForm, s.at}
}

func beginsName(c rune) bool { return c >= 0 && chars.Name(string(c)) > 0 }

func goesOnInName(c rune) bool { return c >= 0 && chars.Name("_"+string(c)) > 1 }

func blank(c rune) bool { return c == ' ' || c == '\t' || c == '\n' || c == '\r' }
