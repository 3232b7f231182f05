package query

import (
	"strings"

	"prune/api"
	"prune/chars"
)

const (
	maxNest = 8
	blanks  = "\t\n\r "
)

// thrown is what ends a query: what is wrong, and its place.
type thrown struct {
	no api.Errno
	at int
}

// reading is a query that is read part by part.
type reading struct {
	text  string // the query, ahead of the first byte that is of no character
	whole int    // how many bytes the query has
	at    int    // where the next part begins
	nest  int    // how many brackets are open
}

// fail ends the query: the next part cannot stand here, or there is none.
func (r *reading) fail() {
	if r.at == len(r.text) && r.at < r.whole {
		panic(thrown{api.ErrChar, r.at})
	}
	panic(thrown{api.ErrForm, r.at})
}

// part tells the next part, of a STRING its quote; it is empty at the end.
func (r *reading) part() string {
	rest := r.text[r.at:]
	n := chars.Name(rest)
	switch {
	case n > 0:
		return rest[:n]
	case strings.HasPrefix(rest, "//"), strings.HasPrefix(rest, "!="):
		return rest[:2]
	case rest != "":
		return rest[:1]
	}
	return ""
}

// pass goes on to the next part, n bytes behind the beginning of this one.
func (r *reading) pass(n int) {
	rest := r.text[r.at+n:]
	r.at = len(r.text) - len(strings.TrimLeft(rest, blanks))
}

// take passes a part, if it is the next one.
func (r *reading) take(part string) bool {
	if r.part() != part {
		return false
	}
	r.pass(len(part))
	return true
}

func (r *reading) want(part string) {
	if !r.take(part) {
		r.fail()
	}
}

// calls tells whether a word is next and "(" behind it: then not and text are no NAMEs.
func (r *reading) calls(word string) bool {
	if r.part() != word {
		return false
	}
	behind := strings.TrimLeft(r.text[r.at+len(word):], blanks)
	return strings.HasPrefix(behind, "(")
}

func (r *reading) name() string {
	n := chars.Name(r.text[r.at:])
	if n == 0 || r.calls("not") || r.calls("text") {
		r.fail()
	}
	name := r.text[r.at : r.at+n]
	r.pass(n)
	return name
}

func (r *reading) quoted() string {
	quote := r.part()
	if quote != `"` && quote != "'" {
		r.fail()
	}
	text, _, closed := strings.Cut(r.text[r.at+1:], quote)
	if !closed {
		r.at = len(r.text)
		r.fail()
	}
	r.pass(len(text) + 2)
	return text
}

// within reads what stands between two brackets by the function that is handed on.
func (r *reading) within(open, shut string, inner func()) {
	if r.nest == maxNest {
		panic(thrown{api.ErrDeep, r.at})
	}
	r.want(open)
	r.nest++
	inner()
	r.want(shut)
	r.nest--
}
