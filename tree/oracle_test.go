package tree

import (
	"reflect"
	"strings"
	"testing"

	"prune/api"
	"prune/chars"
	"prune/token"
)

// check holds what the package tells of a document against what is found out here.
func check(t *testing.T, s string) {
	t.Helper()
	nodes, no, at := found(s)
	if l, e, n := Parse(s); !reflect.DeepEqual(l, nodes) || e != no || n != at {
		t.Fatalf("R1, R2: Parse(%q) = %v, %d, %d, want %v, %d, %d", s, l, e, n, nodes, no, at)
	}
	if no != api.OK {
		return
	}
	p, _, _ := Print(s)
	if l, _, _ := Parse(p); !reflect.DeepEqual(l, nodes) {
		t.Fatalf("R3: %v is read from %q, the plain form of %q", l, p, s)
	}
	for k := range nodes {
		if p, e, n := Sub(s, k); p != plain(nodes, k) || e != api.OK || n != 0 {
			t.Fatalf("R3: Sub(%q, %d) = %q, %d, %d", s, k, p, e, n)
		}
		if v, e, n := Value(s, k); v != value(nodes, k) || e != api.OK || n != 0 {
			t.Fatalf("R3: Value(%q, %d) = %q, %d, %d", s, k, v, e, n)
		}
	}
}

// found reads a document by a row of open names; who is within whom is worked out of the depths alone.
func found(s string) ([]api.Node, api.Errno, int) {
	r := token.New()
	var tokens []api.Token
	for i := range len(s) {
		tokens = append(tokens, r.Write(s[i:i+1])...)
	}
	tokens = append(tokens, r.Close()...)
	var open []string
	var depths []int
	var nodes []api.Node
	for _, t := range tokens {
		if no := wrong(t, open, len(nodes) > 0); no != api.OK {
			return nil, no, t.At
		}
		switch {
		case t.Kind == 1:
			nodes, depths = append(nodes, api.Node{Name: t.Name, Attrs: t.Attrs}), append(depths, len(open))
			open = append(open, t.Name)
		case t.Kind == 2:
			open = open[:len(open)-1]
		case len(open) > 0:
			nodes, depths = append(nodes, api.Node{Text: t.Text}), append(depths, len(open))
		}
	}
	if no, at := r.Err(); no != api.OK {
		return nil, no, at
	}
	if len(open) > 0 || len(nodes) == 0 {
		return nil, api.ErrForm, len(s)
	}
	for k := range nodes {
		nodes[k].Up = -1
		for j := range k {
			if depths[j] == depths[k]-1 {
				nodes[k].Up = j
			}
		}
		if up := nodes[k].Up; up >= 0 {
			nodes[up].Kids = append(nodes[up].Kids, k)
		}
	}
	return nodes, api.OK, 0
}

func wrong(t api.Token, open []string, some bool) api.Errno {
	switch {
	case t.Kind == 2 && (len(open) == 0 || open[len(open)-1] != t.Name):
		return api.ErrMatch
	case t.Kind == 1 && len(open) == 0 && some:
		return api.ErrRoot
	case t.Kind == 3 && len(open) == 0 && len(strings.Fields(t.Text)) > 0:
		return api.ErrRoot
	case t.Kind == 1 && len(open) >= 30:
		return api.ErrDeep
	}
	return api.OK
}

func plain(nodes []api.Node, k int) string {
	n := nodes[k]
	if n.Name == "" {
		return chars.Escape(n.Text, false)
	}
	tag := "<" + n.Name
	for _, a := range n.Attrs {
		tag += " " + a.Name + "=\"" + chars.Escape(a.Value, true) + "\""
	}
	var inner string
	for _, kid := range n.Kids {
		inner += plain(nodes, kid)
	}
	if len(n.Kids) == 0 {
		return tag + "/>"
	}
	return tag + ">" + inner + "</" + n.Name + ">"
}

// value is all texts behind k, as long as k is around them.
func value(nodes []api.Node, k int) string {
	var out string
	for j := range nodes {
		up := j
		for up > k {
			up = nodes[up].Up
		}
		if up == k {
			out += nodes[j].Text
		}
	}
	return out
}
