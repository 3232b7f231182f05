// Package flow: three stages and two channels, step by step: see doc/08-flow.md.
package flow

import "prune/api"

// Plant is a reader, a pruner, a writer, and two channels. Make it by New.
type Plant struct{}

// New makes a plant (W1).
func New(doc string, queries []string, c1 int, c2 int) (*Plant, api.Errno, int, int) {
	return nil, api.OK, 0, 0
}

// Can tells whether a stage can step (W5).
func (p *Plant) Can(stage int) bool { return false }

// Step does a step, if it can (W2 to W5).
func (p *Plant) Step(stage int) bool { return false }

// Out tells what was written (W4).
func (p *Plant) Out() string { return "" }

// Held tells how many tokens the channels hold (W5).
func (p *Plant) Held() (int, int) { return 0, 0 }

// Done tells whether all stages are over (W5).
func (p *Plant) Done() bool { return false }

// Err tells what is wrong with the document (W5).
func (p *Plant) Err() (api.Errno, int) { return api.OK, 0 }
