package tags

import (
	"strings"

	"prune/api"
	"prune/chars"
)

// Writer writes tokens as the plain form has them.
type Writer struct {
	text strings.Builder
	due  bool // whether an opening tag still needs its end, which hangs on the token behind it
}

// Take writes a token, and the end of an opening tag that is due.
func (w *Writer) Take(t api.Token) {
	if w.due && t.Kind == Closing {
		w.due = false
		w.text.WriteString("/>")
		return
	}
	w.End()
	switch t.Kind {
	case Opening:
		w.text.WriteString(Begin(t.Name, t.Attrs))
		w.due = true
	case Closing:
		w.text.WriteString("</" + t.Name + ">")
	default:
		w.text.WriteString(chars.Escape(t.Text, false))
	}
}

// End writes what is due if no token comes behind.
func (w *Writer) End() {
	if w.due {
		w.due = false
		w.text.WriteString(">")
	}
}

// String is all that was written.
func (w *Writer) String() string { return w.text.String() }

// Begin is an opening tag but for its end.
func Begin(name string, attrs []api.Attr) string {
	var w strings.Builder
	w.WriteString("<" + name)
	for _, a := range attrs {
		w.WriteString(" " + a.Name + `="` + chars.Escape(a.Value, true) + `"`)
	}
	return w.String()
}
