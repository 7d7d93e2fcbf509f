package body

import (
	"math/rand"
	"strings"
	"testing"

	"easement/api"
	"easement/leb"
	"easement/tick"
)

func typ(r *rand.Rand) api.Type {
	var t api.Type
	for range r.Intn(4) {
		t.Slots = append(t.Slots, api.Slot{Region: r.Intn(300), Inv: r.Intn(2) > 0})
	}
	return t
}

func numbers(r *rand.Rand, least int) []int {
	l := make([]int, least+r.Intn(4))
	for i := range l {
		l[i] = r.Intn(300)
	}
	return l
}

func bounds(r *rand.Rand) []api.Bound {
	var l []api.Bound
	for range r.Intn(4) {
		l = append(l, api.Bound{Sup: r.Intn(300), Sub: r.Intn(300)})
	}
	return l
}

func statement(r *rand.Rand) api.Stmt {
	switch r.Intn(6) {
	case 0:
		return api.Stmt{Kind: api.Assign, Dst: r.Intn(300), Src: r.Intn(300)}
	case 1:
		return api.Stmt{Kind: api.Borrow, Dst: r.Intn(300), Src: r.Intn(300), Region: r.Intn(300), Mut: r.Intn(2) > 0}
	case 2:
		return api.Stmt{Kind: api.Reborrow, Dst: r.Intn(300), Src: r.Intn(300), Region: r.Intn(300), Mut: r.Intn(2) > 0}
	case 3:
		return api.Stmt{Kind: api.Use, Src: r.Intn(300)}
	case 4:
		return api.Stmt{Kind: api.Dead, Dst: r.Intn(300)}
	}
	return api.Stmt{}
}

func terminator(r *rand.Rand) api.Term {
	switch r.Intn(4) {
	case 0:
		return api.Term{Kind: api.Goto, To: []int{r.Intn(300)}}
	case 1:
		return api.Term{Kind: api.Switch, To: numbers(r, 1), Args: numbers(r, 0)}
	case 2:
		return api.Term{Kind: api.Call, Sig: r.Intn(300), Dst: r.Intn(300), To: []int{r.Intn(300)}, Params: numbers(r, 0), Args: numbers(r, 0)}
	}
	return api.Term{Kind: api.Return}
}

// random is a body that has bytes, and need not be well-formed.
func random(r *rand.Rand) api.Body {
	b := api.Body{Universals: r.Intn(300), Regions: r.Intn(70000) % (api.MaxMany + 1), Bounds: bounds(r), Ret: typ(r)}
	for range r.Intn(4) {
		b.Locals = append(b.Locals, typ(r))
	}
	for range r.Intn(3) {
		s := api.Sig{Params: r.Intn(300), Bounds: bounds(r), Ret: typ(r)}
		for range r.Intn(3) {
			s.Args = append(s.Args, typ(r))
		}
		b.Sigs = append(b.Sigs, s)
	}
	for range r.Intn(4) {
		x := api.Block{Term: terminator(r)}
		for range r.Intn(4) {
			x.Stmts = append(x.Stmts, statement(r))
		}
		b.Blocks = append(b.Blocks, x)
	}
	return b
}

// Promise 20.1.
func TestPut(t *testing.T) {
	least := api.Body{Universals: 1, Regions: 1, Locals: []api.Type{{}}, Blocks: []api.Block{{Term: api.Term{Kind: api.Return}}}}
	if s, e := Put(least); s != "mir\x01\x01\x01\x00\x01\x00\x00\x00\x01\x00\x03" || e != api.OK {
		t.Errorf("%x, %v", s, e)
	}
	if s, e := Put(api.Body{}); s != "mir\x01\x00\x00\x00\x00\x00\x00\x00" || e != api.OK {
		t.Errorf("%x, %v", s, e)
	}
	wide := api.Body{
		Universals: 2, Regions: 300,
		Bounds: []api.Bound{{Sup: 1, Sub: 0}},
		Locals: []api.Type{{Slots: []api.Slot{{Region: 3}, {Region: 4, Inv: true}}}},
		Ret:    api.Type{Slots: []api.Slot{{Region: 1}}},
		Sigs:   []api.Sig{{Params: 1, Args: []api.Type{{}}}},
		Blocks: []api.Block{{Stmts: []api.Stmt{{}, {Kind: api.Use, Src: 7}}, Term: api.Term{Kind: api.Goto, To: []int{1}}}, {Term: api.Term{Kind: api.Return}}},
	}
	want := "mir\x01" + "\x02\xf9\x01\x2c" + "\x01\x01\x00" + "\x01\x02\x06\x09" + "\x01\x02" + "\x01\x01\x00\x01\x00\x00" + "\x02\x02\x00\x04\x07\x01\x01\x00\x03"
	if s, e := Put(wide); s != want || e != api.OK {
		t.Errorf("%x, %v", s, e)
	}
	for _, x := range []struct {
		blocks []api.Block
		e      api.Errno
	}{
		{[]api.Block{{}}, api.ErrForm},
		{[]api.Block{{Stmts: []api.Stmt{{Kind: 9}}, Term: api.Term{Kind: api.Switch, To: make([]int, 17)}}}, api.ErrForm},
		{[]api.Block{{Term: api.Term{Kind: api.Switch, To: make([]int, 17)}}, {}}, api.ErrMany},
		{[]api.Block{{Term: api.Term{Kind: api.Return}}, {Stmts: []api.Stmt{{}, {Dst: 1}}, Term: api.Term{Kind: api.Return}}}, api.ErrForm},
	} {
		if s, e := Put(api.Body{Blocks: x.blocks}); s != "" || e != x.e {
			t.Error(x, s, e)
		}
	}
}

// Promise 20.2.
func TestTake(t *testing.T) {
	over := leb.Put(api.MaxMany + 1)
	for s, want := range map[string]api.Errno{
		"": api.ErrHead, "mir": api.ErrHead, "mir\x02\x01\x01": api.ErrHead, "Mir\x01": api.ErrHead, "mir\x01": api.ErrShort,
		Mark + "\xff": api.ErrForm, Mark + over: api.ErrMany, Mark + "\x01" + over: api.ErrMany, Mark + "\x01\xfc": api.ErrForm,
		Mark + "\x01\x01" + over: api.ErrMany, Mark + "\x01\x01\x01\x00": api.ErrShort,
		Mark + "\x01\x01\x00" + over: api.ErrMany, Mark + "\x01\x01\x00\x01\x11": api.ErrMany, Mark + "\x01\x01\x00\x01": api.ErrShort,
		Mark + "\x01\x01\x00\x01\x00\x11": api.ErrMany, Mark + "\x01\x01\x00\x01\x00\x00" + over: api.ErrMany,
		Mark + "\x01\x01\x00\x01\x00\x00\x01\x00\x11": api.ErrMany, Mark + "\x01\x01\x00\x01\x00\x00\x01\xff": api.ErrForm,
		Mark + "\x01\x01\x00\x01\x00\x00\x00" + over: api.ErrMany, Mark + "\x01\x01\x00\x01\x00\x00\x00\x01" + over: api.ErrMany,
		Mark + "\x01\x01\x00\x01\x00\x00\x00\x01\x01\x06": api.ErrForm, Mark + "\x01\x01\x00\x01\x00\x00\x00\x01\x01\x00\x05": api.ErrForm,
		Mark + "\x01\x01\x00\x01\x00\x00\x00\x01\x00\x02\x11": api.ErrMany,
		Mark + "\x01\x01\x00\x01\x00\x00\x00\x01\x00\x03\x00": api.ErrMore, Mark + "\x00\x00\x00\x00\x00\x00\x00\xff": api.ErrMore,
		Mark + "\x01\x01\x00\x01\x00\x00\x00\x02\x00\x03": api.ErrShort,
	} {
		var c tick.Counter
		if b, e := Take(s, &c); !Same(b, api.Body{}) || e != want || c.Total() != 0 {
			t.Errorf("%x: %v, %v", s, b, e)
		}
	}
	most := leb.Put(api.MaxMany)
	if b, e := Take(Mark+most+most+"\x00\x00\x00\x00\x00", nil); b.Universals != api.MaxMany || b.Regions != api.MaxMany || e != api.OK {
		t.Error(b, e)
	}
	many := Mark + "\x00\x00\x00\x00\x00\x00\x01" + most + strings.Repeat("\x00", api.MaxMany) + "\x03"
	if b, e := Take(many, nil); e != api.OK || len(b.Blocks[0].Stmts) != api.MaxMany {
		t.Error(e)
	}
}

// Promise 20.3, and the steps of promise 20.2.
func TestTakenAsPut(t *testing.T) {
	r := rand.New(rand.NewSource(17))
	byBytes := map[string]api.Body{}
	for range 2000 {
		b := random(r)
		s, e := Put(b)
		if e != api.OK {
			t.Fatal(b, e)
		}
		if other, ok := byBytes[s]; ok && !Same(b, other) {
			t.Fatal("unlike bodies, the same bytes")
		}
		byBytes[s] = b
		var c tick.Counter
		x, e := Take(s, &c)
		if !Same(x, b) || !Same(b, x) || e != api.OK {
			t.Fatal(b, x, e)
		}
		if n := c.Of(tick.Decode); n < 1 || n > len(s)+1 || n != c.Total() {
			t.Fatal("steps", n)
		}
		if _, e := Take(s+"\x00", nil); e != api.ErrMore {
			t.Fatal(e)
		}
		for range 20 {
			if _, e := Take(s[:r.Intn(len(s))], nil); e == api.OK {
				t.Fatal("cut off")
			}
			bytes := []byte(s)
			bytes[r.Intn(len(bytes))] = byte(r.Intn(256))
			if x, e := Take(string(bytes), nil); e == api.OK {
				if again, e := Put(x); again != string(bytes) || e != api.OK {
					t.Fatalf("%x, %x", bytes, again)
				}
			}
		}
	}
}

// Promise 20.2.
func TestSame(t *testing.T) {
	r := rand.New(rand.NewSource(18))
	changes := []func(*api.Body){
		func(b *api.Body) { b.Universals++ },
		func(b *api.Body) { b.Regions++ },
		func(b *api.Body) { b.Bounds = append(b.Bounds, api.Bound{}) },
		func(b *api.Body) { b.Locals = append(b.Locals, api.Type{}) },
		func(b *api.Body) { b.Ret.Slots = append(b.Ret.Slots, api.Slot{}) },
		func(b *api.Body) { b.Sigs = append(b.Sigs, api.Sig{}) },
		func(b *api.Body) { b.Blocks = append(b.Blocks, api.Block{}) },
	}
	for range 100 {
		b := random(r)
		s, _ := Put(b)
		for i, change := range changes {
			x, _ := Take(s, nil)
			if !Same(b, x) {
				t.Fatal("same")
			}
			change(&x)
			if Same(b, x) || Same(x, b) {
				t.Fatal("change", i)
			}
		}
	}
	sigs := func(s api.Sig) api.Body { return api.Body{Sigs: []api.Sig{s}} }
	blocks := func(x api.Block) api.Body { return api.Body{Blocks: []api.Block{x}} }
	for i, x := range [][2]api.Body{
		{sigs(api.Sig{Params: 1}), sigs(api.Sig{})},
		{sigs(api.Sig{Bounds: []api.Bound{{}}}), sigs(api.Sig{})},
		{sigs(api.Sig{Args: []api.Type{{}}}), sigs(api.Sig{})},
		{sigs(api.Sig{Ret: api.Type{Slots: []api.Slot{{}}}}), sigs(api.Sig{})},
		{blocks(api.Block{Stmts: []api.Stmt{{}}}), blocks(api.Block{})},
		{blocks(api.Block{Stmts: []api.Stmt{{}}}), blocks(api.Block{Stmts: []api.Stmt{{Mut: true}}})},
		{blocks(api.Block{Term: api.Term{Kind: 3}}), blocks(api.Block{})},
	} {
		if Same(x[0], x[1]) {
			t.Error(i)
		}
	}
	if !Same(api.Body{Bounds: []api.Bound{}, Locals: []api.Type{}}, api.Body{}) {
		t.Error("nil and empty")
	}
}
