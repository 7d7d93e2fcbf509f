package term

import (
	"math"
	"math/rand"
	"slices"
	"testing"

	"easement/api"
	"easement/relate"
)

// of is a type by the regions of its slots; what may not vary is told by ^ of its region.
func of(regions ...int) api.Type {
	var t api.Type
	for _, r := range regions {
		if r < 0 {
			t.Slots = append(t.Slots, api.Slot{Region: ^r, Inv: true})
		} else {
			t.Slots = append(t.Slots, api.Slot{Region: r})
		}
	}
	return t
}

func around() Around {
	return Around{
		Blocks: 3, Regions: 6,
		Locals: []api.Type{of(1), of(2), of(3, ^4)},
		Ret:    of(0),
		Sigs: []api.Sig{
			{},
			{Params: 1, Bounds: []api.Bound{{}}, Args: []api.Type{of(0)}, Ret: of(0)},
			{Params: 17},
			{Params: 1, Args: []api.Type{of(0, ^0), of(0)}, Ret: of(0)},
		},
	}
}

// Promise 19.1.
func TestNeeds(t *testing.T) {
	for _, x := range []struct {
		t    api.Term
		want []relate.Need
	}{
		{api.Term{Kind: api.Goto, To: []int{2}}, nil},
		{api.Term{Kind: api.Switch, To: []int{0, 0, 2}, Args: []int{2, 2}}, nil},
		{api.Term{Kind: api.Switch, To: make([]int, 16), Args: make([]int, 16)}, nil},
		{api.Term{Kind: api.Return}, []relate.Need{{Sup: 1, Sub: 0, Kind: api.Out}}},
		{api.Term{Kind: api.Call, Sig: 1, Dst: 0, To: []int{1}, Params: []int{5}, Args: []int{1}}, []relate.Need{
			{Sup: 5, Sub: 5, Kind: api.Need}, {Sup: 2, Sub: 5, Kind: api.Pass}, {Sup: 5, Sub: 1, Kind: api.Give}}},
		{api.Term{Kind: api.Call, Sig: 3, Dst: 0, To: []int{1}, Params: []int{5}, Args: []int{2, 1}}, []relate.Need{
			{Sup: 3, Sub: 5, Kind: api.Pass}, {Sup: 4, Sub: 5, Kind: api.Pass, Slot: 1}, {Sup: 5, Sub: 4, Kind: api.Pass, Slot: 1, Back: true},
			{Sup: 2, Sub: 5, Kind: api.Pass, Slot: 16}, {Sup: 5, Sub: 1, Kind: api.Give}}},
	} {
		l, e := Needs(x.t, around())
		if !slices.Equal(l, x.want) || e != api.OK || Check(x.t, around()) != api.OK {
			t.Error(x.t, l, e)
		}
	}
}

// Promise 19.1.
func TestCheck(t *testing.T) {
	one := []int{0}
	for _, x := range []struct {
		t api.Term
		e api.Errno
	}{
		{api.Term{}, api.ErrForm}, {api.Term{Kind: 5, To: one}, api.ErrForm}, {api.Term{Kind: -1}, api.ErrForm}, {api.Term{Kind: math.MaxInt}, api.ErrForm},
		{api.Term{Kind: api.Goto}, api.ErrForm}, {api.Term{Kind: api.Goto, To: []int{0, 1}}, api.ErrForm}, {api.Term{Kind: api.Goto, To: make([]int, 17)}, api.ErrForm},
		{api.Term{Kind: api.Goto, To: one, Args: one}, api.ErrForm}, {api.Term{Kind: api.Goto, To: one, Params: one}, api.ErrForm}, {api.Term{Kind: api.Goto, To: one, Sig: 1}, api.ErrForm}, {api.Term{Kind: api.Goto, To: []int{9}, Dst: 1}, api.ErrForm},
		{api.Term{Kind: api.Switch, Args: one}, api.ErrForm}, {api.Term{Kind: api.Switch, To: one, Params: one}, api.ErrForm}, {api.Term{Kind: api.Switch, To: one, Sig: -1}, api.ErrForm}, {api.Term{Kind: api.Switch, To: make([]int, 17), Dst: 1}, api.ErrForm},
		{api.Term{Kind: api.Return, To: one}, api.ErrForm}, {api.Term{Kind: api.Return, Args: one}, api.ErrForm}, {api.Term{Kind: api.Return, Params: one}, api.ErrForm}, {api.Term{Kind: api.Return, Dst: 1}, api.ErrForm}, {api.Term{Kind: api.Return, Sig: 1}, api.ErrForm},
		{api.Term{Kind: api.Call}, api.ErrForm}, {api.Term{Kind: api.Call, To: []int{0, 0}}, api.ErrForm},
		{api.Term{Kind: api.Switch, To: make([]int, 17), Args: []int{9}}, api.ErrMany}, {api.Term{Kind: api.Switch, To: []int{9}, Args: make([]int, 17)}, api.ErrMany},
		{api.Term{Kind: api.Call, To: []int{9}, Args: make([]int, 17)}, api.ErrMany}, {api.Term{Kind: api.Call, To: []int{9}, Params: make([]int, 17)}, api.ErrMany},
		{api.Term{Kind: api.Goto, To: []int{3}}, api.ErrRange}, {api.Term{Kind: api.Goto, To: []int{-1}}, api.ErrRange},
		{api.Term{Kind: api.Switch, To: []int{0, 3}}, api.ErrRange}, {api.Term{Kind: api.Switch, To: one, Args: []int{3}}, api.ErrRange}, {api.Term{Kind: api.Switch, To: one, Args: []int{0, -1}}, api.ErrRange},
		{api.Term{Kind: api.Call, To: []int{3}}, api.ErrRange}, {api.Term{Kind: api.Call, To: one, Dst: 3}, api.ErrRange}, {api.Term{Kind: api.Call, To: one, Dst: -1}, api.ErrRange},
		{api.Term{Kind: api.Call, To: one, Sig: 4}, api.ErrRange}, {api.Term{Kind: api.Call, To: one, Sig: -1}, api.ErrRange}, {api.Term{Kind: api.Call, To: one, Params: []int{6}}, api.ErrRange}, {api.Term{Kind: api.Call, To: one, Params: []int{-1}}, api.ErrRange}, {api.Term{Kind: api.Call, To: one, Args: []int{3}}, api.ErrRange},
		{api.Term{Kind: api.Call, Sig: 2, To: one}, api.ErrMany},
		{api.Term{Kind: api.Call, Sig: 1, To: one, Args: []int{1}}, api.ErrArg}, {api.Term{Kind: api.Call, Sig: 1, To: one, Params: []int{1}}, api.ErrArg},
		{api.Term{Kind: api.Call, Sig: 1, To: one, Params: []int{1}, Args: []int{2}}, api.ErrShape}, {api.Term{Kind: api.Call, Sig: 1, Dst: 2, To: one, Params: []int{1}, Args: []int{1}}, api.ErrShape}, {api.Term{Kind: api.Call, Sig: 0, To: one}, api.ErrShape},
	} {
		if e := Check(x.t, around()); e != x.e {
			t.Error(x.t, e)
		}
		if l, e := Needs(x.t, around()); e != x.e || l != nil {
			t.Error(x.t, l, e)
		}
	}
	a := around()
	a.Ret = of(0, 1)
	if e := Check(api.Term{Kind: api.Return}, a); e != api.ErrShape {
		t.Error(e)
	}
	a.Locals = nil
	if e := Check(api.Term{Kind: api.Return}, a); e != api.ErrMissing {
		t.Error(e)
	}
	if e := Check(api.Term{Kind: api.Return}, Around{}); e != api.ErrMissing {
		t.Error(e)
	}
	if e := Check(api.Term{Kind: api.Goto, To: one}, Around{Blocks: -1}); e != api.ErrRange {
		t.Error(e)
	}
}

// Promises 19.1 and 19.3: as many as there may be.
func TestMost(t *testing.T) {
	sixteen := make([]int, 16)
	a := Around{Blocks: 1, Regions: 1, Locals: []api.Type{of()}, Sigs: []api.Sig{{Params: 16, Args: make([]api.Type, 16)}}}
	for _, x := range []api.Term{
		{Kind: api.Switch, To: sixteen, Args: sixteen},
		{Kind: api.Call, To: []int{0}, Params: sixteen, Args: sixteen},
	} {
		if e := Check(x, a); e != api.OK {
			t.Error(x, e)
		}
		bytes, _ := Put(x)
		if y, k, e := Take(bytes); !Same(x, y) || k != len(bytes) || e != api.OK {
			t.Error(x, y, k, e)
		}
	}
}

// Promise 19.2.
func TestPut(t *testing.T) {
	for _, x := range []struct {
		t     api.Term
		bytes string
		e     api.Errno
	}{
		{api.Term{Kind: api.Goto, To: []int{5}}, "\x01\x05", api.OK},
		{api.Term{Kind: api.Switch, To: []int{1, 2}, Args: []int{3}}, "\x02\x02\x01\x02\x01\x03", api.OK},
		{api.Term{Kind: api.Switch, To: []int{300}}, "\x02\x01\xf9\x01\x2c\x00", api.OK},
		{api.Term{Kind: api.Return}, "\x03", api.OK},
		{api.Term{Kind: api.Call, Sig: 1, Dst: 2, To: []int{3}, Params: []int{4, 5}, Args: []int{6}}, "\x04\x01\x02\x03\x02\x04\x05\x01\x06", api.OK},
		{api.Term{}, "", api.ErrForm},
		{api.Term{Kind: 5}, "", api.ErrForm},
		{api.Term{Kind: api.Goto, To: make([]int, 17)}, "", api.ErrForm},
		{api.Term{Kind: api.Return, Dst: 1}, "", api.ErrForm},
		{api.Term{Kind: api.Switch, To: make([]int, 17)}, "", api.ErrMany},
		{api.Term{Kind: api.Call, To: []int{1}, Params: make([]int, 17)}, "", api.ErrMany},
		{api.Term{Kind: api.Call, To: []int{1}, Args: make([]int, 17)}, "", api.ErrMany},
	} {
		if bytes, e := Put(x.t); bytes != x.bytes || e != x.e {
			t.Errorf("%v: %x, %v", x.t, bytes, e)
		}
	}
	for _, x := range []api.Term{{Kind: api.Goto, To: []int{-1}}, {Kind: api.Call, Sig: math.MaxInt, Dst: -1, To: []int{-1}, Params: []int{-1}}} {
		if _, e := Put(x); e != api.OK {
			t.Error(x, e)
		}
	}
}

// Promise 19.3.
func TestTake(t *testing.T) {
	for s, want := range map[string]api.Errno{
		"": api.ErrShort, "\xff": api.ErrForm, "\x00": api.ErrForm, "\x05": api.ErrForm, "\xf8\xf8": api.ErrForm,
		"\x01": api.ErrShort, "\x01\xfc": api.ErrForm,
		"\x02": api.ErrShort, "\x02\x11": api.ErrMany, "\x02\x00": api.ErrForm, "\x02\x00\x11": api.ErrForm, "\x02\x01": api.ErrShort, "\x02\x01\x00": api.ErrShort, "\x02\x01\x00\x11": api.ErrMany, "\x02\x01\x00\x01": api.ErrShort, "\x02\x01\xfc": api.ErrForm,
		"\x04\x00\x00": api.ErrShort, "\x04\x00\x00\x00": api.ErrShort, "\x04\x00\x00\x00\x11": api.ErrMany, "\x04\x00\x00\x00\x00\x11": api.ErrMany, "\x04\x00\x00\x00\x01\xfc": api.ErrForm, "\x04\x00\x00\x00\x00\x01": api.ErrShort,
	} {
		if x, k, e := Take(s); !Same(x, api.Term{}) || k != 0 || e != want {
			t.Errorf("%x: %v, %d, %v", s, x, k, e)
		}
	}
	if x, k, e := Take("\x03\x03"); !Same(x, api.Term{Kind: api.Return}) || k != 1 || e != api.OK {
		t.Error(x, k, e)
	}
}

// Promise 19.3.
func TestSame(t *testing.T) {
	whole := api.Term{Kind: api.Call, Sig: 1, Dst: 2, To: []int{3}, Args: []int{4}, Params: []int{5}}
	others := []api.Term{
		{Kind: api.Goto, Sig: 1, Dst: 2, To: []int{3}, Args: []int{4}, Params: []int{5}},
		{Kind: api.Call, Sig: 2, Dst: 2, To: []int{3}, Args: []int{4}, Params: []int{5}},
		{Kind: api.Call, Sig: 1, Dst: 3, To: []int{3}, Args: []int{4}, Params: []int{5}},
		{Kind: api.Call, Sig: 1, Dst: 2, To: []int{4}, Args: []int{4}, Params: []int{5}},
		{Kind: api.Call, Sig: 1, Dst: 2, To: []int{3}, Args: []int{5}, Params: []int{5}},
		{Kind: api.Call, Sig: 1, Dst: 2, To: []int{3}, Args: []int{4}, Params: []int{5, 5}},
	}
	if !Same(whole, whole) || !Same(api.Term{}, api.Term{To: []int{}, Args: []int{}, Params: []int{}}) {
		t.Error("same")
	}
	for _, other := range others {
		if Same(whole, other) || Same(other, whole) {
			t.Error(other)
		}
	}
}

// Promise 19.4.
func TestTakenAsPut(t *testing.T) {
	r := rand.New(rand.NewSource(16))
	list := func(least int) []int {
		l := make([]int, least+r.Intn(5))
		for i := range l {
			l[i] = r.Intn(400)
		}
		return l
	}
	for range 3000 {
		x := api.Term{Kind: 1 + r.Intn(4)}
		switch x.Kind {
		case api.Goto:
			x.To = list(1)[:1]
		case api.Switch:
			x.To, x.Args = list(1), list(0)
		case api.Call:
			x.Sig, x.Dst, x.To, x.Params, x.Args = r.Intn(400), r.Intn(400), list(1)[:1], list(0), list(0)
		}
		bytes, e := Put(x)
		if e != api.OK {
			t.Fatal(x, e)
		}
		for _, tail := range []string{"", "\x00", "\xff"} {
			if y, k, e := Take(bytes + tail); !Same(x, y) || k != len(bytes) || e != api.OK {
				t.Fatal(x, y, k, e)
			}
		}
		some := make([]byte, r.Intn(12))
		for i := range some {
			some[i] = []byte{0, 1, 2, 3, 4, 5, 247, 248, 249, 255}[r.Intn(10)]
		}
		if y, k, e := Take(string(some)); e == api.OK {
			if bytes, e := Put(y); bytes != string(some[:k]) || e != api.OK {
				t.Fatalf("%x: %v", some, y)
			}
		}
	}
}
