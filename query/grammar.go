package query

import "prune/api"

func (r *reading) query() [][]api.Step {
	r.pass(0) // blanks ahead of the first part
	paths := [][]api.Step{r.path()}
	for r.take("|") {
		paths = append(paths, r.path())
	}
	if r.at < r.whole {
		r.fail()
	}
	return paths
}

func (r *reading) path() []api.Step {
	steps := []api.Step{r.step(r.slash())}
	for r.goesOn(steps) {
		steps = append(steps, r.step(r.slash()))
	}
	return steps
}

// goesOn tells whether another step is to come behind these.
func (r *reading) goesOn(steps []api.Step) bool {
	next := r.part()
	return steps[len(steps)-1].Test != "#" && (next == "/" || next == "//")
}

// slash reads what stands ahead of a step, and tells whether that step is Deep.
func (r *reading) slash() bool {
	if r.take("//") {
		return true
	}
	r.want("/")
	return false
}

func (r *reading) step(deep bool) api.Step {
	s := api.Step{Deep: deep, Test: r.test()}
	for r.part() == "[" {
		r.within("[", "]", func() { s.Preds = append(s.Preds, r.cond()) })
	}
	return s
}

func (r *reading) test() string {
	if r.take("*") {
		return "*"
	}
	if r.calls("text") {
		r.want("text")
		r.want("(")
		r.want(")")
		return "#"
	}
	return r.name()
}

func (r *reading) cond() api.Pred { return r.joined("or", r.both) }

func (r *reading) both() api.Pred { return r.joined("and", r.one) }

// joined reads conditions with a word between them.
func (r *reading) joined(word string, read func() api.Pred) api.Pred {
	first := read()
	if r.part() != word {
		return first
	}
	kids := []api.Pred{first}
	for r.take(word) {
		kids = append(kids, read())
	}
	return api.Pred{Op: word, Kids: kids}
}

func (r *reading) one() api.Pred {
	var p api.Pred
	inner := func() { p = r.cond() }
	switch {
	case r.calls("not"):
		r.want("not")
		r.within("(", ")", inner)
		return api.Pred{Op: "not", Kids: []api.Pred{p}}
	case r.part() == "(":
		r.within("(", ")", inner)
		return p
	}
	return r.compared(r.value())
}

// compared reads what a value is compared with, if it is.
func (r *reading) compared(value api.Pred) api.Pred {
	value.Op = "has"
	for _, op := range []string{"=", "!="} {
		if r.take(op) {
			value.Op, value.Text = op, r.quoted()
			break
		}
	}
	return value
}

func (r *reading) value() api.Pred {
	switch r.part() {
	case ".":
		return r.dot()
	case "@":
		return api.Pred{Attr: r.attr()}
	}
	return r.steps(false)
}

func (r *reading) dot() api.Pred {
	r.want(".")
	if r.take("//") {
		return r.steps(true)
	}
	return api.Pred{}
}

func (r *reading) attr() string {
	r.want("@")
	return r.name()
}

// steps reads the steps to a value, and the attribute behind them.
func (r *reading) steps(deep bool) api.Pred {
	p := api.Pred{Steps: []api.Step{r.step(deep)}}
	for r.goesOn(p.Steps) {
		deep := r.slash()
		if !deep && r.part() == "@" {
			p.Attr = r.attr()
			break
		}
		p.Steps = append(p.Steps, r.step(deep))
	}
	return p
}
