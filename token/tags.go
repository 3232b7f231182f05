package token

// behindPart takes what stands right behind an opening tag's name, or behind
// an attribute.
func behindPart(d *document, c rune) (part, error) {
	switch {
	case blank(c):
		return behindBlanks, nil
	case c == '/':
		return behindSlash, nil
	case c == '>':
		d.tellOpening()
		return between, nil
	}
	return nil, d.refuse(c)
}

// behindBlanks is behindPart where an attribute may stand as well.
func behindBlanks(d *document, c rune) (part, error) {
	if beginsName(c) {
		return wantName(&d.attr, behindNewAttr)(d, c)
	}
	return behindPart(d, c)
}

// behindNewAttr looks at the name of an attribute as soon as it is whole: it
// stands ahead of whatever may be wrong behind it.
func behindNewAttr(d *document, c rune) (part, error) {
	if err := d.addName(); err != nil {
		return nil, err
	}
	return behindAttr(d, c)
}

func behindAttr(d *document, c rune) (part, error) {
	switch {
	case blank(c):
		return behindAttr, nil
	case c == '=':
		return behindEquals, nil
	}
	return nil, d.refuse(c)
}

func behindEquals(d *document, c rune) (part, error) {
	switch {
	case blank(c):
		return behindEquals, nil
	case c == '"', c == '\'':
		d.quote = c
		return inValue, nil
	}
	return nil, d.refuse(c)
}

func inValue(d *document, c rune) (part, error) {
	switch {
	case c == d.quote:
		d.addAttr()
		return behindPart, nil
	case c == '&':
		return d.reference(&d.value, inValue), nil
	case c == '<', c < 0:
		return nil, d.refuse(c)
	}
	d.value.put(c, d.at)
	return inValue, nil
}

func behindSlash(d *document, c rune) (part, error) {
	if c != '>' {
		return nil, d.refuse(c)
	}
	d.tellOpening()
	d.tellClosing()
	return between, nil
}

func behindClosingName(d *document, c rune) (part, error) {
	switch {
	case blank(c):
		return behindClosingName, nil
	case c == '>':
		d.tellClosing()
		return between, nil
	}
	return nil, d.refuse(c)
}
