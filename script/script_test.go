package script

import (
	"math"
	"slices"
	"strings"
	"testing"

	"easement/api"
	"easement/body"
	"easement/edit"
)

// Promise 42.1.
func TestLineCommand(t *testing.T) {
	for s, c := range map[string]Cmd{
		"check": {}, "cons": {Kind: Cons}, "live 7": {Kind: Live, N: [4]int{7}}, "value 1048576": {Kind: Value, N: [4]int{api.MaxBits}}, "why 1:2": {Kind: Why, N: [4]int{1, 2}},
		"suggest": {Kind: Suggest}, "trim": {Kind: Trim}, "edit drop 0 1 0": {Kind: Edit, N: [4]int{edit.Drop, 0, 1, 0}}, "edit undeclare 3 2 1": {Kind: Edit, N: [4]int{edit.Undeclare, 3, 2, 1}}, "prove": {Kind: Prove}, "print": {Kind: Print},
	} {
		if Line(c) != s {
			t.Error(s, Line(c))
		}
		w := strings.Split(s, " ")
		if got, e := Command(w); got != c || e != api.OK || strings.Join(w, " ") != s {
			t.Error(s, got, e)
		}
	}
	for want, c := range map[string]Cmd{"?": {Kind: 10}, "live ": {Kind: Live, N: [4]int{-1}}, "why ": {Kind: Why, N: [4]int{1, -2}}, "edit ? 1  3": {Kind: Edit, N: [4]int{0, 1, -2, 3}}, "check": {N: [4]int{1, 2, 3, 4}}} {
		if Line(c) != want {
			t.Error(c, Line(c))
		}
	}
	if Line(Cmd{Kind: -1}) != "?" || Line(Cmd{Kind: math.MaxInt}) != "?" {
		t.Error("no kind")
	}
	const over = "1048577"
	for s, want := range map[string]api.Errno{
		"": api.ErrForm, "x": api.ErrForm, "Check": api.ErrForm, "?": api.ErrForm, "check 1": api.ErrForm, "live": api.ErrForm, "live 1 2": api.ErrForm, "live x": api.ErrForm, "live " + over: api.ErrOver, "value -1": api.ErrForm, "value " + over: api.ErrOver,
		"why": api.ErrForm, "why 12": api.ErrForm, "why 1:2 3": api.ErrForm, "why " + over + ":x": api.ErrOver, "why x:" + over: api.ErrForm, "why 1:": api.ErrForm,
		"edit": api.ErrForm, "edit drop 1 2": api.ErrForm, "edit drop 1 2 3 4": api.ErrForm, "edit fly 1 2 3": api.ErrForm, "edit fly " + over + " 2 3": api.ErrForm, "edit ? 1 2 3": api.ErrForm, "edit drop 1 x " + over: api.ErrForm, "edit drop 1 " + over + " x": api.ErrOver, "edit drop 1 2 03": api.ErrForm, "print print": api.ErrForm,
	} {
		if got, e := Command(strings.Split(s, " ")); got != (Cmd{}) || e != want {
			t.Error(s, got, e)
		}
	}
	if got, e := Command(nil); got != (Cmd{}) || e != api.ErrForm {
		t.Error(got, e)
	}
}

func given() api.Body {
	return api.Body{Universals: 1, Regions: 1, Locals: []api.Type{{}}, Blocks: []api.Block{{Term: api.Term{Kind: api.Return}}}}
}

const top = "regions 1 1\nbounds\nlocal -\ngives -\nblock\nreturn\n"

// Promises 42.1 and 42.2.
func TestShowParse(t *testing.T) {
	s := Script{Body: given(), Cmds: []Cmd{{}, {Kind: Why, N: [4]int{1, 2}}, {Kind: 10}}}
	if got := Show(s); got != top+"then\ncheck\nwhy 1:2\n?\n" {
		t.Error(got)
	}
	if got := Show(Script{}); got != "regions 0 0\nbounds\ngives -\nthen\n" {
		t.Error(got)
	}
	s.Cmds = s.Cmds[:2]
	for _, text := range []string{top + "then\ncheck\nwhy 1:2\n", top + "then\ncheck\nwhy 1:2", "#\n" + top + "\n   then  \n\n #x\n  check\n \nwhy   1:2  \n# then\n"} {
		got, n, e := Parse(text)
		if !body.Same(got.Body, s.Body) || !slices.Equal(got.Cmds, s.Cmds) || n != 0 || e != api.OK {
			t.Error(text, got, n, e)
		}
	}
	if got, n, e := Parse(top + "then"); !body.Same(got.Body, given()) || len(got.Cmds) != 0 || n != 0 || e != api.OK {
		t.Error(got, n, e)
	}
}

// Promise 42.2: what is wrong.
func TestWrong(t *testing.T) {
	most := strings.Repeat("check\n", api.MaxLines)
	for i, x := range []struct {
		s string
		n int
		e api.Errno
	}{
		{"", 0, api.ErrMissing}, {"then", 0, api.ErrMissing}, {"x", 1, api.ErrForm}, {"x\nthen", 1, api.ErrForm}, {"then\nx", 0, api.ErrMissing},
		{top, 0, api.ErrMissing}, {top + "then then", 7, api.ErrForm}, {top + "#then", 0, api.ErrMissing}, {top + "check", 7, api.ErrForm}, {"regions 1 1\nthen\nx", 0, api.ErrMissing}, {"regions 1\nthen\nx", 1, api.ErrForm},
		{top + "then\ncheck\n\nx", 10, api.ErrForm}, {top + "then\nthen", 8, api.ErrForm}, {top + "then\nlive 1048577\nx", 8, api.ErrOver}, {top + "then\r", 7, api.ErrForm},
		{top + "then\n" + most, 0, api.OK}, {top + "then\n" + most + "#\n\n", 0, api.OK}, {top + "then\n" + most + "#\ncheck", 7 + api.MaxLines + 2, api.ErrFull}, {top + "then\n" + most + "live 1048577\ncheck", 7 + api.MaxLines + 1, api.ErrOver}, {top + "then\n" + most + "x", 7 + api.MaxLines + 1, api.ErrForm},
		{top + "then\n" + strings.Repeat("#", api.MaxText-len(top)-5), 0, api.OK}, {top + "then\n" + strings.Repeat("#", api.MaxText-len(top)-4), 0, api.ErrOver}, {"x" + strings.Repeat(" ", api.MaxText), 0, api.ErrOver},
	} {
		got, n, e := Parse(x.s)
		if n != x.n || e != x.e || e != api.OK && (!body.Same(got.Body, api.Body{}) || len(got.Cmds) != 0) {
			t.Error(i, n, e)
		}
	}
}
