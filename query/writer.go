package query

import (
	"strings"

	"prune/api"
	"prune/steps"
)

// writer writes a query's plain form.
type writer struct {
	strings.Builder
}

func (w *writer) query(paths [][]api.Step) {
	for i, path := range paths {
		if i > 0 {
			w.WriteString("|")
		}
		for _, s := range path {
			w.WriteString(steps.Slash(s))
			w.step(s)
		}
	}
}

func (w *writer) step(s api.Step) {
	w.WriteString(steps.Test(s))
	for _, p := range s.Preds {
		w.WriteString("[")
		w.cond(p)
		w.WriteString("]")
	}
}

func (w *writer) cond(p api.Pred) {
	switch p.Op {
	case "or", "and":
		w.kids(p)
	case "not":
		w.WriteString("not")
		w.bracketed(p.Kids[0])
	default:
		w.value(p)
		w.compared(p)
	}
}

func (w *writer) bracketed(p api.Pred) {
	w.WriteString("(")
	w.cond(p)
	w.WriteString(")")
}

// kids writes those of an or or an and.
func (w *writer) kids(p api.Pred) {
	for i, k := range p.Kids {
		if i > 0 {
			w.WriteString(" " + p.Op + " ")
		}
		if k.Op == "or" || k.Op == "and" && p.Op == "and" {
			w.bracketed(k)
		} else {
			w.cond(k)
		}
	}
}

func (w *writer) value(p api.Pred) {
	w.inner(p.Steps)
	switch {
	case p.Attr == "" && p.Steps == nil:
		w.WriteString(".")
	case p.Attr != "" && p.Steps == nil:
		w.WriteString("@" + p.Attr)
	case p.Attr != "":
		w.WriteString("/@" + p.Attr)
	}
}

// inner writes the steps to a value: ahead of the first one there is no slash, or "." and "//".
func (w *writer) inner(path []api.Step) {
	for i, s := range path {
		if i == 0 && s.Deep {
			w.WriteString(".")
		}
		if i > 0 || s.Deep {
			w.WriteString(steps.Slash(s))
		}
		w.step(s)
	}
}

func (w *writer) compared(p api.Pred) {
	if p.Op == "has" {
		return
	}
	quote := `"`
	if strings.Contains(p.Text, quote) {
		quote = "'"
	}
	w.WriteString(p.Op + quote + p.Text + quote)
}
