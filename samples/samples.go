// Package samples: documents and queries for the tests of several packages. Which ones hangs on a number alone.
package samples

import "strings"

// Dice chooses by a number, which changes with each choice.
type Dice uint32

// Below chooses a number from 0 on, below n.
func (d *Dice) Below(n int) int {
	*d = *d*1664525 + 1013904223
	return int(*d>>8) % n
}

// Of chooses one of some texts.
func (d *Dice) Of(texts ...string) string { return texts[d.Below(len(texts))] }

// Document is one in which nothing is wrong.
func (d *Dice) Document() string {
	return d.Of("", "\n", "<?o?> ") + d.element(2+d.Below(3)) + d.Of("", "\n<!--c-->\t")
}

// element has others within, so many deep at the most.
func (d *Dice) element(deep int) string {
	name := d.Of("a", "b", "c")
	var s strings.Builder
	s.WriteString("<" + name + d.Of("", "", " k='x'", " j='&quot;' k='y'") + ">")
	for range d.Below(8) {
		if deep == 0 || d.Below(2) == 0 {
			s.WriteString(d.Of("x", "y", " ", "&lt;", "<!--c-->", "<![CDATA[&]]>"))
		} else {
			s.WriteString(d.element(deep - 1))
		}
	}
	s.WriteString("</" + name + ">")
	return s.String()
}

// Spoiled is a document to which something was done by which it may be wrong.
func (d *Dice) Spoiled() string {
	doc := d.Document()
	at := d.Below(len(doc))
	switch d.Below(4) {
	case 0:
		return doc[:at]
	case 1:
		return doc[:at] + doc[at+1:]
	case 2:
		return doc + d.Of("x", "<a/>", "</a>", "<", "\xff", "&")
	}
	return doc[:at] + d.Of("<", ">", "&", "\x00", "</a>", "</b>", "<a>", "é", "<a k='' k=''/>") + doc[at:]
}

// Queries are some, perhaps none.
func (d *Dice) Queries() []string {
	var all []string
	for range d.Below(4) {
		q := d.Of(d.Path(3), d.Path(3), d.Path(3)+"|"+d.Path(3), "/*/text()", "//b/text()", "/a[b]//text()")
		if len(q) <= 500 {
			all = append(all, q)
		}
	}
	return all
}

// Path is one whose conditions stand in so many brackets at the most.
func (d *Dice) Path(nest int) string {
	s := ""
	for range 1 + d.Below(3) {
		test := d.Of("a", "b", "c", "*", "text()", "text()")
		s += d.Of("/", "/", "//") + test
		for nest > 0 && d.Below(4) == 0 {
			s += "[" + d.cond(nest-1) + "]"
		}
		if test == "text()" {
			break
		}
	}
	return s
}

func (d *Dice) cond(nest int) string {
	switch kind := d.Below(8); {
	case kind == 0 && nest > 0:
		return "not(" + d.cond(nest-1) + ")"
	case kind == 1 && nest > 0:
		return d.cond(nest-1) + d.Of(" or ", " and ") + d.cond(nest-1)
	case kind == 2:
		return d.Of(".", "@k", ".='x'", ".!='x'", "@k='x'", ".//*/@k", "*/@j!='x'")
	}
	return d.Of("", ".//") + strings.TrimLeft(d.Path(nest), "/") + d.Of("", "='x'", "!=''")
}
