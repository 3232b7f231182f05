package cut

import (
	"slices"

	"prune/api"
)

// element is one that is open.
type element struct {
	state int           // of its row of names
	tag   api.Token     // its opening one, until that is answered
	text  bool          // whether a text is the last one of its Kids that are kept
	shell *[2]api.Token // the tags of the first Kid behind that text: it is a shell, if the next Kid that is kept is a text
}

// own is a token whose list is nobody else's.
func own(t api.Token) api.Token {
	t.Attrs = slices.Clone(t.Attrs)
	return t
}

func (p *Pruner) opening(t api.Token) []api.Token {
	if p.skip > 0 {
		p.skip++
		return nil
	}
	state := p.spine.Next(p.state(), t.Name)
	needed, whole := p.spine.Keep(state)
	kept := needed || whole || len(p.open) == 0
	if !kept && !p.spine.Live(state) && !p.wantsShell() {
		p.skip = 1
		return nil
	}
	p.open = append(p.open, element{state: state, tag: t})
	if !kept {
		return nil
	}
	return p.keepOpen()
}

func (p *Pruner) closing(t api.Token) []api.Token {
	last := len(p.open) - 1
	switch {
	case p.skip > 0:
		p.skip--
		return nil
	case last < 0:
		return nil
	}
	closed := p.open[last]
	p.open = slices.Delete(p.open, last, last+1)
	if p.told > last {
		p.told = last
		return []api.Token{t}
	}
	if p.wantsShell() {
		p.open[last-1].shell = &[2]api.Token{closed.tag, t}
	}
	return nil
}

func (p *Pruner) text(t api.Token) []api.Token {
	if p.skip > 0 || !p.keepsText() {
		return nil
	}
	told := p.keepOpen()
	around := &p.open[len(p.open)-1]
	if around.shell != nil {
		told = append(told, around.shell[:]...)
	}
	around.text, around.shell = true, nil
	return append(told, t)
}

// keepOpen answers the opening tags of the open elements that were not certain to be kept so far.
func (p *Pruner) keepOpen() []api.Token {
	if p.told > 0 && p.told < len(p.open) {
		around := &p.open[p.told-1]
		around.text, around.shell = false, nil
	}
	var opened []api.Token
	for ; p.told < len(p.open); p.told++ {
		e := &p.open[p.told]
		opened = append(opened, e.tag)
		e.tag = api.Token{}
	}
	return opened
}

// state is that of the innermost element, or of the document.
func (p *Pruner) state() int {
	if len(p.open) == 0 {
		return p.spine.Start()
	}
	return p.open[len(p.open)-1].state
}

// wantsShell tells whether the innermost element's next Kid may turn out to be a shell.
func (p *Pruner) wantsShell() bool {
	if len(p.open) == 0 {
		return false
	}
	around := p.open[len(p.open)-1]
	return around.text && around.shell == nil
}

// keepsText tells whether a text right within the innermost element is kept.
func (p *Pruner) keepsText() bool {
	if len(p.open) == 0 {
		return false
	}
	_, whole := p.spine.Keep(p.state())
	return whole || p.spine.Text(p.state())
}
