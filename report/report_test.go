package report

import (
	"slices"
	"strings"
	"testing"

	"easement/api"
	"easement/body"
	"easement/script"
)

func one(region int) api.Type { return api.Type{Slots: []api.Slot{{Region: region}}} }

// chain is a body in which 1 has to outlive 2, and 2 to outlive 3.
func chain(bounds ...api.Bound) api.Body {
	return api.Body{
		Universals: 4, Regions: 5, Bounds: bounds,
		Locals: []api.Type{{}, one(1), one(2), one(3), one(4)},
		Blocks: []api.Block{{
			Stmts: []api.Stmt{{Kind: api.Assign, Dst: 2, Src: 1}, {Kind: api.Assign, Dst: 3, Src: 2}, {Kind: api.Assign, Dst: 4, Src: 3}, {Kind: api.Use, Src: 4}},
			Term:  api.Term{Kind: api.Return},
		}},
	}
}

func cmd(kind int, n ...int) script.Cmd {
	c := script.Cmd{Kind: kind}
	copy(c.N[:], n)
	return c
}

func runs(t *testing.T, b api.Body, want []string, cmds ...script.Cmd) {
	t.Helper()
	if got := Run(script.Script{Body: b, Cmds: cmds}); !slices.Equal(got, want) {
		t.Errorf("%q, not %q", got, want)
	}
}

// Promise 43.1.
func TestExample(t *testing.T) {
	b := api.Body{Universals: 1, Regions: 2, Locals: []api.Type{one(1)}, Ret: one(0), Blocks: []api.Block{{Term: api.Term{Kind: api.Return}}}}
	b.Universals = 2
	runs(t, b, []string{"rejected", "1:0 is missing, by 1", "  1:0 at 0.0 out 0"}, cmd(script.Check))
	runs(t, b, nil)
	runs(t, b, nil, cmd(10), cmd(-1))
}

// Promise 43.1: what each command tells.
func TestCommands(t *testing.T) {
	b := chain(api.Bound{Sup: 1, Sub: 2})
	runs(t, b, []string{"rejected", "1:3 is missing, by 2", "  1:2 at 0.0 flow 0", "  2:3 at 0.1 flow 0", "2:3 is missing, by 1", "  2:3 at 0.1 flow 0"}, cmd(script.Check))
	runs(t, b, []string{"1:2 at 0.0 flow 0", "2:3 at 0.1 flow 0", "3:4 at 0.2 flow 0"}, cmd(script.Cons))
	runs(t, b, []string{"live 0 0,1", "live 3 0,4", "live 5 -", "live  -"}, cmd(script.Live), cmd(script.Live, 3), cmd(script.Live, 5), cmd(script.Live, -1))
	runs(t, b, []string{"value 4 3 -", "value 2 0,1,2,3,4 2,3", "value 5 - -", "value  - -"}, cmd(script.Value, 4), cmd(script.Value, 2), cmd(script.Value, 5), cmd(script.Value, -1))
	runs(t, b, []string{"1:3 is missing, by 2", "  1:2 at 0.0 flow 0", "  2:3 at 0.1 flow 0", "3:1 is not needed", "1:1 is missing, by 0", "9:9 is not needed", " is not needed"}, cmd(script.Why, 1, 3), cmd(script.Why, 3, 1), cmd(script.Why, 1, 1), cmd(script.Why, 9, 9), cmd(script.Why, -1, 1))
	runs(t, chain(), []string{"suggest 1:2,2:3 of 1:2,1:3,2:3"}, cmd(script.Suggest))
	runs(t, chain(api.Bound{Sup: 1}, api.Bound{Sup: 2}), []string{"accepted", "suggest - of -"}, cmd(script.Check), cmd(script.Suggest))
	runs(t, b, []string{"proof 34 wrong", "edit ok", "proof 34 ok"}, cmd(script.Prove), cmd(script.Edit, 7, 2, 3, 0), cmd(script.Prove))
	runs(t, b, []string{"regions 4 5", "bounds 1:2", "local -", "local 1", "local 2", "local 3", "local 4", "gives -", "block", "assign 2 1", "assign 3 2", "assign 4 3", "use 4", "return"}, cmd(script.Print))
}

// Promise 43.1: commands that change the body.
func TestChanges(t *testing.T) {
	b := chain(api.Bound{Sup: 1, Sub: 2}, api.Bound{Sup: 1, Sub: 3}, api.Bound{Sup: 2, Sub: 3}, api.Bound{Sup: 3, Sub: 3})
	runs(t, b, []string{
		"accepted", "trim 1:2,2:3", "edit ok", "edit ok", "rejected", "2:3 is missing, by 1", "  2:3 at 0.1 flow 0",
		"edit range", "edit range", "edit range", "suggest 2:3 of 2:3", "edit ok", "trim -", "accepted",
	},
		cmd(script.Check), cmd(script.Trim), cmd(script.Edit, 8, 1, 0, 0), cmd(script.Edit, 1, 0, 0, 0), cmd(script.Check),
		cmd(script.Edit, 2, 9, 0, 0), cmd(script.Edit, 0, 0, 0, 0), cmd(script.Edit, 7, 4, 0, 0), cmd(script.Suggest), cmd(script.Edit, 1, 0, 1, 0), cmd(script.Trim), cmd(script.Check))
	if !body.Same(b, chain(api.Bound{Sup: 1, Sub: 2}, api.Bound{Sup: 1, Sub: 3}, api.Bound{Sup: 2, Sub: 3}, api.Bound{Sup: 3, Sub: 3})) {
		t.Error("changed")
	}
}

// Promise 43.1, of bodies that are not well-formed.
func TestMalformed(t *testing.T) {
	runs(t, api.Body{}, []string{"body: head: range"}, cmd(script.Check), cmd(script.Print))
	b := chain()
	b.Blocks[0].Stmts[1].Src = 9
	runs(t, b, []string{"body: statement: range"}, cmd(script.Check))
	runs(t, b, []string{"body: statement: range"})
}

// Promise 43.2.
func TestText(t *testing.T) {
	top := "regions 2 2\nbounds\nlocal 1\ngives 0\nblock\nreturn\n"
	for s, want := range map[string]string{
		"": "script: missing, line 0\n", "x": "script: form, line 1\n", top + "then\nlive 9999999": "script: over, line 8\n", strings.Repeat("x", api.MaxText+1): "script: over, line 0\n",
		top + "then":                         "",
		top + "then\ncheck":                  "rejected\n1:0 is missing, by 1\n  1:0 at 0.0 out 0\n",
		top + "then\ncheck\nprint":           "rejected\n1:0 is missing, by 1\n  1:0 at 0.0 out 0\n" + top,
		"regions 0 0\nbounds\ngives -\nthen": "body: head: range\n",
	} {
		if got := Text(s); got != want {
			t.Errorf("%.40q: %q", s, got)
		}
	}
}
