// Package cut: documents without what is not needed: see doc/07-cut.md.
package cut

import "prune/api"

// Project leaves out what no query needs (X3).
func Project(doc string, queries []string) (string, api.Errno, int, int) { return "", api.OK, 0, 0 }

// Pruner leaves out tokens as they come. Make it by New.
type Pruner struct{}

// New makes a pruner (X4).
func New(queries []string) (*Pruner, api.Errno, int, int) { return nil, api.OK, 0, 0 }

// Push takes a token (X4).
func (p *Pruner) Push(t api.Token) []api.Token { return nil }
