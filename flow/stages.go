package flow

import (
	"prune/api"
	"prune/cut"
	"prune/tags"
	"prune/token"
)

// stage is one of the three, whichever it is.
type stage interface {
	can() bool // asked of one that is not over
	step()     // asked of one that can
	isOver() bool
	stop()
	wrong() (api.Errno, int) // what is wrong with the text, as far as it has come through
}

// end is whether a stage is over.
type end struct{ over bool }

func (e *end) isOver() bool { return e.over }

func (e *end) stop() { e.over = true }

// giver is a stage's hand, and the channel into which it goes.
type giver struct {
	end
	hand line
	to   *channel
}

func (g *giver) holds() bool { return len(g.hand) > 0 }

func (g *giver) give() { g.to.put(g.hand.take()) }

// reader is stage 0.
type reader struct {
	giver
	text  *token.Reader
	rest  string // what was not read
	ended bool
}

func (r *reader) can() bool { return !r.holds() || !r.to.full() }

func (r *reader) step() {
	switch {
	case r.holds():
		r.give()
	case r.rest != "":
		r.hand = r.text.Write(r.rest[:1])
		r.rest = r.rest[1:]
	case !r.ended:
		r.hand = r.text.Close()
		r.ended = true
	default:
		r.stop()
	}
}

func (r *reader) wrong() (api.Errno, int) { return r.text.Err() }

// pruner is stage 1.
type pruner struct {
	giver
	from   *channel
	ahead  stage
	nest   tags.Nest
	cutter *cut.Pruner
	no     api.Errno // of the token that does not nest
	at     int
	length int // of the document
}

func (p *pruner) can() bool {
	if p.holds() {
		return !p.to.full()
	}
	return len(p.from.line) > 0 || p.ahead.isOver()
}

func (p *pruner) step() {
	switch {
	case p.holds():
		p.give()
	case len(p.from.line) > 0:
		p.take(p.from.take())
	default:
		p.stop()
	}
}

func (p *pruner) take(t api.Token) {
	if no := p.nest.Take(t); no != api.OK {
		p.no, p.at = no, t.At
		p.from.line = nil
		p.ahead.stop()
		p.stop()
		return
	}
	p.hand = p.cutter.Push(t)
}

// wrong goes by the order of R1.
func (p *pruner) wrong() (api.Errno, int) {
	if p.no != api.OK {
		return p.no, p.at
	}
	if no, at := p.ahead.wrong(); no != api.OK {
		return no, at
	}
	if !p.nest.Whole() {
		return api.ErrForm, p.length
	}
	return api.OK, 0
}

// writer is stage 2.
type writer struct {
	end
	from  *channel
	ahead stage
	text  tags.Writer
}

func (w *writer) can() bool { return len(w.from.line) > 0 || w.ahead.isOver() }

func (w *writer) step() {
	if len(w.from.line) > 0 {
		w.text.Take(w.from.take())
		return
	}
	w.text.End()
	w.stop()
}

func (w *writer) wrong() (api.Errno, int) { return w.ahead.wrong() }
