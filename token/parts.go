package token

import (
	"prune/api"
	"prune/chars"
)

// between takes what stands between tags. Only here may the text end.
func between(d *document, c rune) (part, error) {
	switch c {
	case '<':
		d.tagAt = d.at
		return behindLess, nil
	case '&':
		return d.reference(&d.text, between), nil
	case over:
		d.tellText()
		return nil, nil
	case broken:
		return nil, d.refuse(c)
	}
	d.text.put(c, d.at)
	return between, nil
}

// behindLess takes what tells the item that has begun.
func behindLess(d *document, c rune) (part, error) {
	switch c {
	case '/':
		return wantName(&d.name, behindClosingName), nil
	case '?':
		return wantOrderName, nil
	case '!':
		return behindBang, nil
	}
	return wantName(&d.name, behindPart)(d, c)
}

func behindBang(d *document, c rune) (part, error) {
	switch c {
	case '-':
		return wantWord("-", inRemark), nil
	case '[':
		return wantWord("CDATA[", inSection), nil
	}
	return nil, d.refuse(c)
}

// wantWord takes that word, and hands what stands behind it to another part.
func wantWord(word string, behind part) part {
	if word == "" {
		return behind
	}
	return func(d *document, c rune) (part, error) {
		if c != rune(word[0]) {
			return nil, d.refuse(c)
		}
		return wantWord(word[1:], behind), nil
	}
}

// wantName takes a name into a run, and hands what stands behind it to another
// part.
func wantName(into *run, behind part) part {
	*into = run{}
	var inName part
	inName = func(d *document, c rune) (part, error) {
		switch first := len(into.bytes) == 0; {
		case first && !beginsName(c):
			return nil, d.refuse(c)
		case !first && !goesOnInName(c):
			return behind(d, c)
		}
		into.put(c, d.at)
		return inName, nil
	}
	return inName
}

// reference takes a reference, whose "&" was handed on last, into a run, and
// hands what stands behind it to another part. Whatever is wrong with it is
// wrong at its "&", so it is looked at when all of it is there.
func (d *document) reference(into *run, behind part) part {
	d.ref = run{}
	d.ref.put('&', d.at)
	var inReference part
	inReference = func(d *document, c rune) (part, error) {
		if c != '#' && c != ';' && (c >= 128 || !goesOnInName(c)) {
			return nil, wrong{api.ErrRef, d.ref.at}
		}
		d.ref.put(c, d.at)
		if c != ';' {
			return inReference, nil
		}
		s, no, _ := chars.Unescape(string(d.ref.bytes))
		if no != api.OK {
			return nil, wrong{api.ErrRef, d.ref.at}
		}
		for _, r := range s {
			into.put(r, d.ref.at)
		}
		return behind, nil
	}
	return inReference
}
