package token

import (
	"unicode/utf8"

	"prune/api"
	"prune/tags"
)

// document is what is being read. It embeds the source of its characters, and
// keeps what was read of tokens that are not told yet: so no byte is read
// twice, however the text is cut.
type document struct {
	source
	now   part                // what takes the next character
	told  []api.Token         // and not answered yet
	text  run                 // since the last tag
	tagAt int                 // the place of the tag's "<"
	name  run                 // of the tag
	attrs []api.Attr          // of the tag
	names map[string]struct{} // of its attributes, the last one's too
	attr  run                 // the last one's name
	value run                 // and value
	quote rune                // with which the value began
	ref   run                 // a reference, as far as it has come
}

// part takes the character that was handed on last, and tells what takes the
// one behind it: nothing, if the text has ended as it should.
type part func(d *document, c rune) (part, error)

// run is characters that are put together.
type run struct {
	bytes []byte
	at    int // the place of what tells the first one
}

func (r *run) put(c rune, at int) {
	if len(r.bytes) == 0 {
		r.at = at
	}
	r.bytes = utf8.AppendRune(r.bytes, c)
}

// read goes on as far as the bytes reach, until more are needed. Nil: the text
// has ended, and nothing is wrong with it.
func (d *document) read() error {
	for d.now != nil {
		c, err := d.take()
		if err != nil {
			return err
		}
		if d.now, err = d.now(d, c); err != nil {
			return err
		}
	}
	return nil
}

func (d *document) tellText() {
	if len(d.text.bytes) == 0 {
		return
	}
	d.told = append(d.told, api.Token{Kind: tags.Text, Text: string(d.text.bytes), At: d.text.at})
	d.text = run{}
}

func (d *document) tellOpening() {
	d.tellText()
	d.told = append(d.told, api.Token{Kind: tags.Opening, Name: string(d.name.bytes), Attrs: d.attrs, At: d.tagAt})
	d.attrs = nil // from now on they are the token's own
	d.names = nil
}

func (d *document) tellClosing() {
	d.tellText()
	d.told = append(d.told, api.Token{Kind: tags.Closing, Name: string(d.name.bytes), At: d.tagAt})
}

// addName refuses the name of an attribute that is there already.
func (d *document) addName() error {
	name := string(d.attr.bytes)
	if _, ok := d.names[name]; ok {
		return wrong{api.ErrTwice, d.attr.at}
	}
	if d.names == nil {
		d.names = map[string]struct{}{}
	}
	d.names[name] = struct{}{}
	return nil
}

func (d *document) addAttr() {
	d.attrs = append(d.attrs, api.Attr{Name: string(d.attr.bytes), Value: string(d.value.bytes)})
	d.value = run{}
}
