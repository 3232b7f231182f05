// Package tags: what several chapters do with tokens: their kinds, whether they nest (doc/03-tree.md, R1), and how they are written (R3).
package tags

// The kinds of tokens.
const (
	Opening = 1 + iota
	Closing
	Text
)
