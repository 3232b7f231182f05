// Package token: a document's tags and texts, as they come: see doc/02-token.md.
package token

import (
	"errors"

	"prune/api"
)

// All tells all tokens of a text (T3).
func All(s string) ([]api.Token, api.Errno, int) {
	r := New()
	tokens := append(r.Write(s), r.Close()...)
	if no, at := r.Err(); no != api.OK {
		return nil, no, at
	}
	return tokens, api.OK, 0
}

// Reader tells tokens as bytes come. Make it by New.
type Reader struct {
	document
	fault  wrong // the first thing that is wrong
	closed bool
}

// New makes a reader (T4).
func New() *Reader {
	return &Reader{document: document{now: between}}
}

// Write takes bytes (T4).
func (r *Reader) Write(s string) []api.Token {
	if r.closed || r.fault.no != api.OK {
		return nil
	}
	r.add(s)
	return r.advance()
}

// Close ends the text (T4).
func (r *Reader) Close() []api.Token {
	if r.closed {
		return nil
	}
	r.closed = true
	if r.fault.no != api.OK {
		return nil
	}
	r.end()
	told := r.advance()
	r.document = document{} // from now on only what is wrong is asked for
	return told
}

// Err tells what is wrong (T4).
func (r *Reader) Err() (api.Errno, int) {
	if !r.closed {
		return api.OK, 0
	}
	return r.fault.no, r.fault.at
}

// advance reads as far as the bytes reach, and answers what that told.
func (r *Reader) advance() []api.Token {
	err := r.read()
	told := r.told
	r.told = nil
	var w wrong
	switch {
	case errors.Is(err, errMore):
		r.keepRest()
	case errors.As(err, &w):
		r.fault = w
		r.document = document{} // nothing behind it is read
	}
	return told
}
