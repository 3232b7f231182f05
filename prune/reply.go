package prune

import (
	"prune/answer"
	"prune/api"
	"prune/pipe"
	"prune/tags"
	"prune/token"
)

// reply is what queries lead to in a document, or what is wrong with it.
type reply struct {
	texts [][]string // for each query
	no    api.Errno
	at    int
}

// ask asks queries of a projection.
func ask(r pipe.Result, queries []string) reply {
	if r.Err != api.OK {
		return reply{no: r.Err, at: r.At}
	}
	all := parts(r.Text)
	var told reply
	for _, q := range queries {
		led, _, _, _ := answer.Eval(r.Text, q)
		var texts []string
		for _, k := range led {
			texts = append(texts, all[k].of(r.Text))
		}
		told.texts = append(told.texts, texts)
	}
	return told
}

// part is where a node's plain form stands in that of its document.
type part struct{ from, to int }

func (p part) of(plain string) string { return plain[p.from:p.to] }

// parts tells that of each node of a document that is a plain form. (tree.Sub would read all of it anew for each node.)
func parts(plain string) []part {
	tokens, _, _ := token.All(plain)
	var all []part
	var open []int // the numbers of the elements that are open
	for i, t := range tokens {
		end := len(plain)
		if i+1 < len(tokens) {
			end = tokens[i+1].At
		}
		switch t.Kind {
		case tags.Opening:
			open = append(open, len(all))
			all = append(all, part{from: t.At})
		case tags.Closing:
			last := len(open) - 1
			all[open[last]].to = end
			open = open[:last]
		default:
			all = append(all, part{t.At, end})
		}
	}
	return all
}
