// Package flow: three stages and two channels, step by step: see doc/08-flow.md.
package flow

import (
	"prune/api"
	"prune/cut"
	"prune/token"
)

const maxRoom = 100

// Plant is a reader, a pruner, a writer, and two channels. Make it by New.
type Plant struct {
	stages   [3]stage
	channels [2]*channel
	writer   *writer // the last one of the stages
}

// New makes a plant (W1).
func New(doc string, queries []string, c1 int, c2 int) (*Plant, api.Errno, int, int) {
	if min(c1, c2) < 1 || max(c1, c2) > maxRoom {
		return nil, api.ErrRange, 0, 0
	}
	cutter, no, at, which := cut.New(queries)
	if no != api.OK {
		return nil, no, at, which
	}
	first, second := &channel{room: c1}, &channel{room: c2}
	r := &reader{giver: giver{to: first}, text: token.New(), rest: doc}
	p := &pruner{giver: giver{to: second}, from: first, ahead: r, cutter: cutter, length: len(doc)}
	w := &writer{from: second, ahead: p}
	return &Plant{stages: [3]stage{r, p, w}, channels: [2]*channel{first, second}, writer: w}, api.OK, 0, 0
}

// Can tells whether a stage can step (W5).
func (p *Plant) Can(stage int) bool {
	if stage < 0 || stage >= len(p.stages) {
		return false
	}
	s := p.stages[stage]
	return !s.isOver() && s.can()
}

// Step does a step, if it can (W2 to W5).
func (p *Plant) Step(stage int) bool {
	can := p.Can(stage)
	if can {
		p.stages[stage].step()
	}
	return can
}

// Out tells what was written (W4).
func (p *Plant) Out() string { return p.writer.text.String() }

// Held tells how many tokens the channels hold (W5).
func (p *Plant) Held() (int, int) {
	return len(p.channels[0].line), len(p.channels[1].line)
}

// Done tells whether all stages are over (W5).
func (p *Plant) Done() bool {
	for _, s := range p.stages {
		if !s.isOver() {
			return false
		}
	}
	return true
}

// Err tells what is wrong with the document (W5).
func (p *Plant) Err() (api.Errno, int) {
	if !p.Done() {
		return api.OK, 0
	}
	return p.writer.wrong()
}
