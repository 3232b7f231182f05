package steps

import (
	"testing"

	"prune/api"
)

func TestParts(t *testing.T) {
	for _, c := range []struct {
		s           api.Step
		slash, test string
	}{
		{api.Step{Test: "a"}, "/", "a"}, {api.Step{Deep: true, Test: "*"}, "//", "*"}, {api.Step{Test: Text}, "/", "text()"}, {api.Step{Deep: true, Test: "text"}, "//", "text"},
	} {
		if slash, test := Slash(c.s), Test(c.s); slash != c.slash || test != c.test {
			t.Errorf("Q3: %v: %q, %q", c.s, slash, test)
		}
	}
}

func TestBare(t *testing.T) {
	conds := []api.Pred{{Op: "has", Attr: "k"}, {Op: "not", Kids: []api.Pred{{Op: "has", Steps: []api.Step{{Test: "z"}}}}}}
	for _, c := range []struct {
		path []api.Step
		want string
	}{
		{nil, ""}, {[]api.Step{{Test: "a"}}, "/a"}, {[]api.Step{{Deep: true, Test: Text, Preds: conds}}, "//text()"}, {[]api.Step{{Test: "é", Preds: conds}, {Deep: true, Test: "*"}, {Test: "text", Preds: conds[1:]}, {Test: Text}}, "/é//*/text/text()"},
	} {
		if s := Bare(c.path); s != c.want {
			t.Errorf("Q3: %v: %q, want %q", c.path, s, c.want)
		}
	}
}
