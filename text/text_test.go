package text

import (
	"slices"
	"strings"
	"testing"

	"easement/api"
	"easement/body"
)

// of is a type by the regions of its slots; what may not vary is told by ^ of its region.
func of(regions ...int) api.Type {
	var t api.Type
	for _, r := range regions {
		if r < 0 {
			t.Slots = append(t.Slots, api.Slot{Region: ^r, Inv: true})
		} else {
			t.Slots = append(t.Slots, api.Slot{Region: r})
		}
	}
	return t
}

// Promises 38.1 and 38.2.
func TestType(t *testing.T) {
	for s, typ := range map[string]api.Type{"-": of(), "1/2!": of(1, ^2), "0": of(0), "7!": of(^7), "1048576/0!/3": of(1<<20, ^0, 3), strings.Repeat("1/", 20) + "1": {Slots: slices.Repeat([]api.Slot{{Region: 1}}, 21)}} {
		if Type(typ) != s {
			t.Error(s, Type(typ))
		}
		if x, e := ParseType(s); !slices.Equal(x.Slots, typ.Slots) || e != api.OK {
			t.Error(s, x, e)
		}
	}
	for s, want := range map[string]api.Errno{"": api.ErrForm, "/": api.ErrForm, "1/": api.ErrForm, "/1": api.ErrForm, "1!!": api.ErrForm, "!": api.ErrForm, "!1": api.ErrForm, "--": api.ErrForm, "-/1": api.ErrForm, "01": api.ErrForm, "1 ": api.ErrForm, "1048577": api.ErrOver, "1048577!/x": api.ErrOver, "x/1048577": api.ErrForm} {
		if x, e := ParseType(s); len(x.Slots) != 0 || e != want {
			t.Error(s, x, e)
		}
	}
	if s := Type(api.Type{Slots: []api.Slot{{Region: -1, Inv: true}, {Region: -5}}}); s != "!/" {
		t.Error(s)
	}
}

// Promise 38.1.
func TestStmtTerm(t *testing.T) {
	for s, want := range map[api.Stmt]string{
		{}: "nop", {Kind: api.Assign, Dst: 1, Src: 2}: "assign 1 2", {Kind: api.Borrow, Src: 1, Region: 3, Mut: true}: "borrow 0 1 3 mut",
		{Kind: api.Borrow, Dst: 4, Src: 1, Region: 3}: "borrow 4 1 3", {Kind: api.Reborrow, Dst: 4, Src: 1, Region: 3, Mut: true}: "reborrow 4 1 3 mut",
		{Kind: api.Use, Src: 5}: "use 5", {Kind: api.Dead, Dst: 5}: "dead 5", {Kind: 6}: "?", {Kind: -1}: "?", {Kind: api.Assign, Dst: -1, Src: 2}: "assign  2",
	} {
		if Stmt(s) != want {
			t.Error(s, Stmt(s))
		}
	}
	for _, x := range []struct {
		t    api.Term
		want string
	}{
		{api.Term{Kind: api.Goto, To: []int{3}}, "goto 3"}, {api.Term{Kind: api.Goto}, "goto -"}, {api.Term{Kind: api.Goto, To: []int{3, 4}}, "goto 3,4"},
		{api.Term{Kind: api.Switch, To: []int{1, 2}}, "switch 1,2 -"}, {api.Term{Kind: api.Switch, To: []int{1}, Args: []int{5, 6}}, "switch 1 5,6"},
		{api.Term{Kind: api.Return}, "return"}, {api.Term{Kind: api.Call, Sig: 1, Dst: 2, To: []int{3}, Args: []int{4, 5}}, "call 1 2 3 - 4,5"},
		{api.Term{Kind: api.Call, To: []int{0}, Params: []int{7}}, "call 0 0 0 7 -"}, {api.Term{}, "?"}, {api.Term{Kind: 5}, "?"}, {api.Term{Kind: api.Goto, To: []int{-1}}, "goto "},
	} {
		if Term(x.t) != x.want {
			t.Error(x.t, Term(x.t))
		}
	}
}

// whole is a body, and wholeText its lines.
func whole() api.Body {
	return api.Body{
		Universals: 2, Regions: 5,
		Bounds: []api.Bound{{Sup: 1, Sub: 0}, {Sup: 0, Sub: 1}},
		Locals: []api.Type{of(2, ^3), of()},
		Ret:    of(1, ^0),
		Sigs:   []api.Sig{{}, {Params: 2, Bounds: []api.Bound{{Sup: 0, Sub: 1}}, Args: []api.Type{of(0), of()}, Ret: of(^1)}},
		Blocks: []api.Block{
			{Stmts: []api.Stmt{{}, {Kind: api.Assign, Dst: 1, Src: 0}, {Kind: api.Borrow, Dst: 1, Src: 2, Region: 3}, {Kind: api.Reborrow, Dst: 1, Src: 2, Region: 3, Mut: true}, {Kind: api.Use, Src: 9}, {Kind: api.Dead, Dst: 8}}, Term: api.Term{Kind: api.Switch, To: []int{1, 2}, Args: []int{3}}},
			{Term: api.Term{Kind: api.Call, Sig: 1, Dst: 2, To: []int{3}, Params: []int{4, 5}}},
			{Term: api.Term{Kind: api.Goto, To: []int{1, 1}}},
			{Stmts: []api.Stmt{{}}, Term: api.Term{Kind: api.Return}},
		},
	}
}

const wholeText = `regions 2 5
bounds 1:0 0:1
local 2/3!
local -
gives 1/0!
sig 0 -
needs
sig 2 1!
needs 0:1
arg 0
arg -
block
nop
assign 1 0
borrow 1 2 3
reborrow 1 2 3 mut
use 9
dead 8
switch 1,2 3
block
call 1 2 3 4,5 -
block
goto 1,1
block
nop
return
`

// Promises 38.1 and 38.3.
func TestPrintParse(t *testing.T) {
	if s := Print(whole()); s != wholeText {
		t.Error(s)
	}
	if s := Print(api.Body{}); s != "regions 0 0\nbounds\ngives -\n" {
		t.Error(s)
	}
	if s := Print(api.Body{Universals: -1, Bounds: []api.Bound{{Sup: -1}}, Blocks: []api.Block{{}}}); s != "regions  0\nbounds \ngives -\nblock\n?\n" {
		t.Error(s)
	}
	odd := "# what this is\n\n   \n" + strings.ReplaceAll(wholeText, " ", "   ") + "  #x y"
	for _, s := range []string{wholeText, strings.TrimSuffix(wholeText, "\n"), odd, strings.ReplaceAll(wholeText, "\n", "  \n\n  # z\n"), "regions 0 0\nbounds\ngives -", "regions 0 0\nbounds\ngives -\nsig 0 -\nneeds\narg -"} {
		want := whole()
		if strings.HasPrefix(s, "regions 0 0") {
			want = api.Body{}
			if strings.Contains(s, "sig") {
				want.Sigs = []api.Sig{{Args: []api.Type{{}}}}
			}
		}
		if b, n, e := Parse(s); !body.Same(b, want) || n != 0 || e != api.OK {
			t.Error(s, b, n, e)
		}
	}
	b, n, e := Parse("regions 1048576 0\nbounds 1048576:1048576\nlocal 1048576\ngives -\nblock\nborrow 1048576 1048576 1048576\nswitch - 1048576")
	if b.Universals != api.MaxBits || b.Blocks[0].Term.Args[0] != api.MaxBits || n != 0 || e != api.OK {
		t.Error(b, n, e)
	}
}

// Promise 38.3: lines that are wrong.
func TestWrongLines(t *testing.T) {
	top := "regions 1 1\nbounds\nlocal -\ngives -\n"
	const over = "1048577"
	for s, want := range map[string]struct {
		n int
		e api.Errno
	}{
		"": {0, api.ErrMissing}, "#": {0, api.ErrMissing}, "regions 1 1": {0, api.ErrMissing}, "regions 1 1\nbounds": {0, api.ErrMissing}, "regions 1 1\nbounds\nlocal -": {0, api.ErrMissing},
		top + "sig 0 -": {0, api.ErrMissing}, top + "block": {0, api.ErrMissing}, top + "block\nnop\n#x": {0, api.ErrMissing}, top + "block\nreturn\nblock": {0, api.ErrMissing},
		"bounds": {1, api.ErrForm}, "x": {1, api.ErrForm}, "\n\n#\nblock": {4, api.ErrForm}, "regions 1": {1, api.ErrForm}, "regions 1 1 1": {1, api.ErrForm}, "regions 1 1\nregions 1 1": {2, api.ErrForm}, "regions 1 1\nlocal -": {2, api.ErrForm},
		"Regions 1 1": {1, api.ErrForm}, "regions\t1 1": {1, api.ErrForm}, "regions 1 1\r\nbounds": {1, api.ErrForm}, "regions 1 x": {1, api.ErrForm}, "regions " + over + " x": {1, api.ErrOver}, "regions x " + over: {1, api.ErrForm}, "regions 01 1": {1, api.ErrForm},
		"regions 1 1\nbounds 1": {2, api.ErrForm}, "regions 1 1\nbounds 1:1 1:" + over + " x": {2, api.ErrOver}, "regions 1 1\nbounds -": {2, api.ErrForm},
		"regions 1 1\nbounds\nlocal": {3, api.ErrForm}, "regions 1 1\nbounds\nlocal - -": {3, api.ErrForm}, "regions 1 1\nbounds\nlocal 1/": {3, api.ErrForm}, "regions 1 1\nbounds\nlocal " + over: {3, api.ErrOver}, "regions 1 1\nbounds\nsig 0 -": {3, api.ErrForm}, "regions 1 1\nbounds\ngives x": {3, api.ErrForm},
		top + "local -": {5, api.ErrForm}, top + "gives -": {5, api.ErrForm}, top + "arg -": {5, api.ErrForm}, top + "needs": {5, api.ErrForm}, top + "nop": {5, api.ErrForm}, top + "return": {5, api.ErrForm}, top + "block 1": {5, api.ErrForm},
		top + "sig 0": {5, api.ErrForm}, top + "sig 0 - -": {5, api.ErrForm}, top + "sig x y": {5, api.ErrForm}, top + "sig " + over + " y": {5, api.ErrOver}, top + "sig 0 -\narg -": {6, api.ErrForm}, top + "sig 0 -\nblock": {6, api.ErrForm}, top + "sig 0 -\nneeds x": {6, api.ErrForm}, top + "sig 0 -\nneeds\nneeds": {7, api.ErrForm}, top + "sig 0 -\nneeds\narg": {7, api.ErrForm}, top + "sig 0 -\nneeds\narg x": {7, api.ErrForm},
		top + "block\nblock": {6, api.ErrForm}, top + "block\nsig 0 -": {6, api.ErrForm}, top + "block\nreturn\nnop": {7, api.ErrForm}, top + "block\nreturn\nreturn": {7, api.ErrForm}, top + "block\nreturn\nsig 0 -": {7, api.ErrForm},
		top + "block\nnop 1": {6, api.ErrForm}, top + "block\nassign 1": {6, api.ErrForm}, top + "block\nassign 1 2 3": {6, api.ErrForm}, top + "block\nassign " + over + " x": {6, api.ErrOver}, top + "block\nassign x " + over: {6, api.ErrForm},
		top + "block\nborrow 1 2": {6, api.ErrForm}, top + "block\nborrow 1 2 3 4": {6, api.ErrForm}, top + "block\nborrow 1 2 3 mut mut": {6, api.ErrForm}, top + "block\nborrow 1 2 mut": {6, api.ErrForm}, top + "block\nreborrow 1 " + over + " x mut": {6, api.ErrOver},
		top + "block\nuse": {6, api.ErrForm}, top + "block\nuse -1": {6, api.ErrForm}, top + "block\ndead 1 2": {6, api.ErrForm}, top + "block\ndead " + over: {6, api.ErrOver},
		top + "block\ngoto": {6, api.ErrForm}, top + "block\ngoto 1 2": {6, api.ErrForm}, top + "block\ngoto 1,": {6, api.ErrForm}, top + "block\ngoto " + over + ",": {6, api.ErrOver}, top + "block\nswitch 1": {6, api.ErrForm}, top + "block\nswitch x " + over: {6, api.ErrForm}, top + "block\nswitch " + over + " x": {6, api.ErrOver}, top + "block\nreturn 1": {6, api.ErrForm},
		top + "block\ncall 1 2 3 4": {6, api.ErrForm}, top + "block\ncall 1 2 3 4 5 6": {6, api.ErrForm}, top + "block\ncall - 2 3 4 5": {6, api.ErrForm}, top + "block\ncall 1 2 3 4 " + over: {6, api.ErrOver}, top + "block\n?": {6, api.ErrForm},
	} {
		if b, n, e := Parse(s); !body.Same(b, api.Body{}) || n != want.n || e != want.e {
			t.Errorf("%q: %v, %d, %v", s, b, n, e)
		}
	}
	short := top + strings.Repeat("#", api.MaxText-len(top))
	if _, n, e := Parse(short); n != 0 || e != api.OK {
		t.Error(n, e)
	}
	if b, n, e := Parse(short + "#"); !body.Same(b, api.Body{}) || n != 0 || e != api.ErrOver {
		t.Error(n, e)
	}
	if _, n, e := Parse("x" + short); n != 0 || e != api.ErrOver {
		t.Error(n, e)
	}
}
