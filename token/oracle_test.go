package token

import (
	"strings"

	"prune/api"
	"prune/chars"
)

// whole reads a text that is all there, by looking ahead in it as far as it
// likes: another way to what a reader finds out character by character.
type whole struct {
	s      string
	i      int
	bad    int // where the first byte is at which no character begins
	tags   []api.Token
	text   string
	textAt int
}

// told is what a reader must tell of s: the tokens up to the last tag, the text
// behind it, and what is wrong.
func told(s string) (tags, last []api.Token, no api.Errno, at int) {
	w := &whole{s: s, bad: chars.Bad(s)}
	defer func() {
		tags = w.tags
		if f, ok := recover().(wrong); ok {
			last, no, at = nil, f.no, f.at
		}
	}()
	for w.i < len(s) {
		w.item()
	}
	if w.text != "" {
		last = []api.Token{{Kind: 3, Text: w.text, At: w.textAt}}
	}
	return
}

func (w *whole) fail(at int) {
	if at == w.bad && at < len(w.s) {
		panic(wrong{api.ErrChar, at})
	}
	panic(wrong{api.ErrForm, at})
}

func (w *whole) has(word string) bool { return strings.HasPrefix(w.s[w.i:], word) }

func (w *whole) want(word string) {
	for _, c := range word {
		if !w.has(string(c)) {
			w.fail(w.i)
		}
		w.i++
	}
}

// upTo passes characters up to a word, and the word.
func (w *whole) upTo(word string) string {
	n := strings.Index(w.s[w.i:], word)
	if n < 0 {
		n = len(w.s) - w.i
	}
	if w.bad < w.i+n {
		w.fail(w.bad)
	}
	inside := w.s[w.i : w.i+n]
	w.i += n
	if w.i == len(w.s) {
		w.fail(w.i)
	}
	w.i += len(word)
	return inside
}

func (w *whole) name() string {
	n := chars.Name(w.s[w.i:])
	if n == 0 {
		w.fail(w.i)
	}
	w.i += n
	return w.s[w.i-n : w.i]
}

func (w *whole) blanks() bool {
	rest := strings.TrimLeft(w.s[w.i:], " \t\r\n")
	n := len(w.s) - len(rest)
	some := n > w.i
	w.i = n
	return some
}

func (w *whole) reference() string {
	end := strings.IndexByte(w.s[w.i:], ';') + 1
	s, no, _ := chars.Unescape(w.s[w.i : w.i+end])
	if end == 0 || no != api.OK || len(s) == 0 || strings.LastIndexByte(w.s[w.i:w.i+end], '&') > 0 {
		panic(wrong{api.ErrRef, w.i})
	}
	w.i += end
	return s
}

// one is the next character, or what a reference stands for.
func (w *whole) one() string {
	switch {
	case w.i == len(w.s), w.i == w.bad, w.has("<"):
		w.fail(w.i)
	case w.has("&"):
		return w.reference()
	}
	n := 1
	for n < len(w.s)-w.i && w.s[w.i+n]&0xC0 == 0x80 && w.i+n < w.bad {
		n++
	}
	w.i += n
	return w.s[w.i-n : w.i]
}

func (w *whole) addText(s string, at int) {
	if w.text == "" {
		w.textAt = at
	}
	w.text += s
}

func (w *whole) addTags(list ...api.Token) {
	if w.text != "" {
		w.tags = append(w.tags, api.Token{Kind: 3, Text: w.text, At: w.textAt})
	}
	w.text = ""
	w.tags = append(w.tags, list...)
}

func (w *whole) item() {
	at := w.i
	switch {
	case !w.has("<"):
		w.addText(w.one(), at)
	case w.has("</"):
		w.i += 2
		t := api.Token{Kind: 2, Name: w.name(), At: at}
		w.blanks()
		w.want(">")
		w.addTags(t)
	case w.has("<?"):
		w.i += 2
		w.name()
		w.upTo("?>")
	case w.has("<!["):
		w.want("<![CDATA[")
		from := w.i
		if inside := w.upTo("]]>"); inside != "" {
			w.addText(inside, from)
		}
	case w.has("<!"):
		w.want("<!--")
		w.upTo("--")
		w.want(">")
	default:
		w.opening()
	}
}

func (w *whole) opening() {
	at := w.i
	w.i++
	t := api.Token{Kind: 1, Name: w.name(), At: at}
	for w.blanks() && chars.Name(w.s[w.i:]) > 0 {
		t.Attrs = append(t.Attrs, w.attr(t.Attrs))
	}
	if !w.has("/") {
		w.want(">")
		w.addTags(t)
		return
	}
	w.want("/>")
	w.addTags(t, api.Token{Kind: 2, Name: t.Name, At: at})
}

func (w *whole) attr(ahead []api.Attr) api.Attr {
	at := w.i
	a := api.Attr{Name: w.name()}
	for _, x := range ahead {
		if x.Name == a.Name {
			panic(wrong{api.ErrTwice, at})
		}
	}
	w.blanks()
	w.want("=")
	w.blanks()
	quote := "'"
	if w.has("\"") {
		quote = "\""
	}
	w.want(quote)
	for !w.has(quote) {
		a.Value += w.one()
	}
	w.i++
	return a
}
