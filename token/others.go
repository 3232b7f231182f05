package token

func inRemark(d *document, c rune) (part, error) {
	switch {
	case c == '-':
		return behindDash, nil
	case c < 0:
		return nil, d.refuse(c)
	}
	return inRemark, nil
}

func behindDash(d *document, c rune) (part, error) {
	if c == '-' {
		return wantWord(">", between), nil
	}
	return inRemark(d, c)
}

// wantOrderName takes the first character of an order's name: as no name has a
// "?" in it, the others can be taken with what stands behind the name.
func wantOrderName(d *document, c rune) (part, error) {
	if !beginsName(c) {
		return nil, d.refuse(c)
	}
	return inOrder, nil
}

func inOrder(d *document, c rune) (part, error) {
	switch {
	case c == '?':
		return behindMark, nil
	case c < 0:
		return nil, d.refuse(c)
	}
	return inOrder, nil
}

func behindMark(d *document, c rune) (part, error) {
	if c == '>' {
		return between, nil
	}
	return inOrder(d, c)
}

func inSection(d *document, c rune) (part, error) {
	switch {
	case c == ']':
		return behindBracket, nil
	case c < 0:
		return nil, d.refuse(c)
	}
	d.text.put(c, d.at)
	return inSection, nil
}

// behindBracket takes what stands behind a "]" that may begin the section's
// end; if it does not, that is one of its characters.
func behindBracket(d *document, c rune) (part, error) {
	if c == ']' {
		return behindBrackets, nil
	}
	d.text.put(']', d.at-1)
	return inSection(d, c)
}

// behindBrackets is behindBracket with two of them.
func behindBrackets(d *document, c rune) (part, error) {
	if c == '>' {
		return between, nil
	}
	d.text.put(']', d.at-2)
	return behindBracket(d, c)
}
