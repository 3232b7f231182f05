// Package spine: which nodes a query can touch: see doc/06-spine.md.
package spine

import "prune/api"

// Paths tells the needed paths of queries (S2).
func Paths(queries []string) ([]string, api.Errno, int, int) { return nil, api.OK, 0, 0 }

// Spine follows names from the document's first element on. Make it by New.
type Spine struct{}

// New makes a spine (S3).
func New(queries []string) (*Spine, api.Errno, int, int) { return nil, api.OK, 0, 0 }

// Start is the state of the document (S3).
func (s *Spine) Start() int { return 0 }

// Next is the state of an element within (S3).
func (s *Spine) Next(state int, name string) int { return 0 }

// Keep tells whether a path leads to an element, and whether all of it is needed (S3).
func (s *Spine) Keep(state int) (bool, bool) { return false, false }

// Text tells whether a path leads to texts within an element (S3).
func (s *Spine) Text(state int) bool { return false }

// Live tells whether a path can lead on (S3).
func (s *Spine) Live(state int) bool { return false }
