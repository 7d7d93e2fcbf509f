package amend

import (
	"slices"
	"testing"

	"easement/api"
	"easement/body"
)

func pairs(l ...int) []api.Bound {
	var bounds []api.Bound
	for i := 0; i < len(l); i += 2 {
		bounds = append(bounds, api.Bound{Sup: l[i], Sub: l[i+1]})
	}
	return bounds
}

// chain is a body with universal regions, in which each one of chain is needed to outlive the next one.
func chain(universals int, bounds []api.Bound, chain ...int) api.Body {
	b := api.Body{Universals: universals, Regions: universals, Bounds: bounds, Locals: []api.Type{{}}, Sigs: []api.Sig{{Params: 1, Bounds: pairs(0, 0), Args: []api.Type{{Slots: []api.Slot{{}}}}}}}
	var x api.Block
	for i, r := range chain {
		b.Locals = append(b.Locals, api.Type{Slots: []api.Slot{{Region: r}}})
		if i > 0 {
			x.Stmts = append(x.Stmts, api.Stmt{Kind: api.Assign, Dst: i + 1, Src: i})
		}
	}
	x.Term = api.Term{Kind: api.Call, To: []int{1}, Args: []int{1}, Params: []int{0}}
	b.Blocks = []api.Block{x, {Term: api.Term{Kind: api.Return}}}
	return b
}

// bad is a body that is not well-formed.
func bad() api.Body {
	b := chain(3, pairs(1, 2), 0)
	b.Regions = 1
	return b
}

// Promise 35.1.
func TestAdd(t *testing.T) {
	b := chain(4, pairs(1, 2, 1, 2), 0, 2, 3)
	want := chain(4, pairs(1, 2, 1, 2, 3, 0, 1, 2), 0, 2, 3)
	l := pairs(3, 0, 1, 2)
	got, e := Add(b, l)
	if !body.Same(got, want) || e != api.OK || !slices.Equal(b.Bounds, pairs(1, 2, 1, 2)) {
		t.Error(got, e)
	}
	bytes, _ := body.Put(want)
	if s, e := Bytes(b, l); s != bytes || e != api.OK {
		t.Errorf("%x, %v", s, e)
	}
	if got, e := Add(b, nil); !body.Same(got, b) || e != api.OK {
		t.Error(got, e)
	}
	full := chain(4, make([]api.Bound, api.MaxMany-1), 1)
	if got, e := Add(full, pairs(1, 1)); len(got.Bounds) != api.MaxMany || e != api.OK {
		t.Error(len(got.Bounds), e)
	}
	for i, x := range []struct {
		b api.Body
		l []api.Bound
		e api.Errno
	}{
		{api.Body{}, nil, api.ErrArg}, {bad(), pairs(9, 9), api.ErrArg},
		{b, pairs(1, 1, 4, 1), api.ErrRange}, {b, pairs(1, 4), api.ErrRange}, {b, pairs(-1, 1), api.ErrRange}, {b, pairs(1, -1), api.ErrRange},
		{full, pairs(1, 1, 1, 4), api.ErrRange}, {full, pairs(1, 1, 1, 1), api.ErrMany},
	} {
		if got, e := Add(x.b, x.l); !body.Same(got, api.Body{}) || e != x.e {
			t.Error(i, e)
		}
		if s, e := Bytes(x.b, x.l); s != "" || e != x.e {
			t.Error(i, e)
		}
	}
}

// Promise 35.2.
func TestTidyTrim(t *testing.T) {
	for _, x := range []struct{ bounds, tidy, trim []api.Bound }{
		{nil, nil, nil},
		{pairs(1, 2, 1, 3, 2, 3), pairs(1, 2, 1, 3, 2, 3), pairs(1, 2, 2, 3)},
		{pairs(2, 3, 1, 2, 2, 3, 1, 2), pairs(1, 2, 2, 3), pairs(2, 3, 1, 2)},
		{pairs(1, 0, 2, 3), pairs(1, 0, 2, 3), pairs(1, 0, 2, 3)},
		{pairs(3, 2, 3, 1, 0, 1), pairs(0, 1, 3, 1, 3, 2), nil},
		{pairs(1, 2, 2, 1, 1, 3), pairs(1, 2, 1, 3, 2, 1), pairs(1, 2, 2, 1, 1, 3)},
		{pairs(1, 3, 1, 2, 2, 3), pairs(1, 2, 1, 3, 2, 3), pairs(1, 2, 2, 3)},
	} {
		b := chain(4, x.bounds, 1, 2, 3)
		got, e := Tidy(b)
		if !body.Same(got, chain(4, x.tidy, 1, 2, 3)) || e != api.OK {
			t.Error(x, got.Bounds, e)
		}
		got, e = Trim(b)
		if !body.Same(got, chain(4, x.trim, 1, 2, 3)) || e != api.OK || !body.Same(b, chain(4, x.bounds, 1, 2, 3)) {
			t.Error(x, got.Bounds, e)
		}
	}
	for _, x := range []api.Body{{}, bad()} {
		if got, e := Tidy(x); !body.Same(got, api.Body{}) || e != api.ErrArg {
			t.Error(got, e)
		}
		if got, e := Trim(x); !body.Same(got, api.Body{}) || e != api.ErrArg {
			t.Error(got, e)
		}
	}
}

// What is answered shares nothing with what was handed in.
func TestShared(t *testing.T) {
	for i, call := range []func(api.Body) (api.Body, api.Errno){
		func(b api.Body) (api.Body, api.Errno) { return Add(b, nil) }, Tidy, Trim,
	} {
		b := chain(4, pairs(1, 2, 2, 3), 1, 2, 3)
		got, _ := call(b)
		got.Bounds[0].Sup = 9
		got.Locals[1].Slots[0].Region = 9
		got.Sigs[0].Bounds[0].Sup = 9
		got.Sigs[0].Args[0].Slots[0].Region = 9
		got.Sigs[0].Params = 9
		got.Blocks[0].Stmts[0].Dst = 9
		got.Blocks[0].Term.To[0] = 9
		got.Blocks[0].Term.Args[0] = 9
		got.Blocks[0].Term.Params[0] = 9
		got.Blocks[1].Term.Kind = 9
		got.Locals[0].Slots = append(got.Locals[0].Slots, api.Slot{})
		if !body.Same(b, chain(4, pairs(1, 2, 2, 3), 1, 2, 3)) {
			t.Error(i)
		}
	}
}
