package stmt

import (
	"math"
	"math/rand"
	"slices"
	"testing"

	"easement/api"
	"easement/leb"
	"easement/relate"
)

// of is a type by the regions of its slots; what may not vary is told by ^ of its region.
func of(regions ...int) api.Type {
	var t api.Type
	for _, r := range regions {
		if r < 0 {
			t.Slots = append(t.Slots, api.Slot{Region: ^r, Inv: true})
		} else {
			t.Slots = append(t.Slots, api.Slot{Region: r})
		}
	}
	return t
}

var locals = []api.Type{of(), of(1), of(2), of(3, 4), of(5, ^6)}

// Promise 18.1.
func TestNeeds(t *testing.T) {
	for _, x := range []struct {
		s    api.Stmt
		want []relate.Need
	}{
		{api.Stmt{}, nil},
		{api.Stmt{Kind: api.Use, Src: 4}, nil},
		{api.Stmt{Kind: api.Dead, Dst: 4}, nil},
		{api.Stmt{Kind: api.Assign, Dst: 1, Src: 2}, []relate.Need{{Sup: 2, Sub: 1, Kind: api.Flow}}},
		{api.Stmt{Kind: api.Assign, Dst: 4, Src: 4}, []relate.Need{{Sup: 5, Sub: 5, Kind: api.Flow}, {Sup: 6, Sub: 6, Kind: api.Flow, Slot: 1}, {Sup: 6, Sub: 6, Kind: api.Flow, Slot: 1, Back: true}}},
		{api.Stmt{Kind: api.Borrow, Dst: 3, Src: 1, Region: 7}, []relate.Need{{Sup: 7, Sub: 3, Kind: api.Loan}, {Sup: 1, Sub: 4, Kind: api.Flow, Slot: 1}}},
		{api.Stmt{Kind: api.Borrow, Dst: 4, Src: 1, Region: 7, Mut: true}, []relate.Need{{Sup: 7, Sub: 5, Kind: api.Loan}, {Sup: 1, Sub: 6, Kind: api.Flow, Slot: 1}, {Sup: 6, Sub: 1, Kind: api.Flow, Slot: 1, Back: true}}},
		{api.Stmt{Kind: api.Reborrow, Dst: 1, Src: 2, Region: 7, Mut: true}, []relate.Need{{Sup: 2, Sub: 7, Kind: api.Base}, {Sup: 7, Sub: 1, Kind: api.Loan}}},
		{api.Stmt{Kind: api.Reborrow, Dst: 3, Src: 3}, []relate.Need{{Sup: 3, Sub: 0, Kind: api.Base}, {Sup: 0, Sub: 3, Kind: api.Loan}, {Sup: 4, Sub: 4, Kind: api.Flow, Slot: 1}}},
	} {
		l, e := Needs(x.s, locals, 8)
		if !slices.Equal(l, x.want) || e != api.OK || Check(x.s, locals, 8) != api.OK {
			t.Error(x.s, l, e)
		}
	}
}

// Promise 18.1.
func TestCheck(t *testing.T) {
	for _, x := range []struct {
		s api.Stmt
		e api.Errno
	}{
		{api.Stmt{Kind: -1}, api.ErrForm}, {api.Stmt{Kind: 6}, api.ErrForm}, {api.Stmt{Kind: math.MaxInt}, api.ErrForm},
		{api.Stmt{Dst: 1}, api.ErrForm}, {api.Stmt{Src: 1}, api.ErrForm}, {api.Stmt{Region: 1}, api.ErrForm}, {api.Stmt{Mut: true}, api.ErrForm},
		{api.Stmt{Kind: api.Assign, Dst: 99, Region: 1}, api.ErrForm}, {api.Stmt{Kind: api.Assign, Dst: 99, Mut: true}, api.ErrForm},
		{api.Stmt{Kind: api.Use, Src: 1, Dst: 1}, api.ErrForm}, {api.Stmt{Kind: api.Dead, Src: 1}, api.ErrForm}, {api.Stmt{Kind: api.Dead, Mut: true}, api.ErrForm}, {api.Stmt{Kind: api.Use, Region: -1}, api.ErrForm},
		{api.Stmt{Kind: api.Assign, Dst: 5}, api.ErrRange}, {api.Stmt{Kind: api.Assign, Dst: -1}, api.ErrRange}, {api.Stmt{Kind: api.Assign, Src: 5}, api.ErrRange}, {api.Stmt{Kind: api.Assign, Src: -1}, api.ErrRange},
		{api.Stmt{Kind: api.Use, Src: 5}, api.ErrRange}, {api.Stmt{Kind: api.Dead, Dst: 5}, api.ErrRange},
		{api.Stmt{Kind: api.Borrow, Dst: 1, Src: 5}, api.ErrRange}, {api.Stmt{Kind: api.Borrow, Dst: 1, Src: 1, Region: 8}, api.ErrRange}, {api.Stmt{Kind: api.Reborrow, Dst: 1, Src: 3, Region: -1}, api.ErrRange},
		{api.Stmt{Kind: api.Assign, Dst: 1, Src: 3}, api.ErrShape}, {api.Stmt{Kind: api.Assign, Dst: 3, Src: 4}, api.ErrShape},
		{api.Stmt{Kind: api.Borrow, Dst: 1, Src: 1}, api.ErrShape}, {api.Stmt{Kind: api.Borrow, Dst: 3, Src: 1, Mut: true}, api.ErrShape}, {api.Stmt{Kind: api.Borrow, Dst: 4, Src: 1}, api.ErrShape},
		{api.Stmt{Kind: api.Reborrow, Dst: 0, Src: 0}, api.ErrShape}, {api.Stmt{Kind: api.Reborrow, Dst: 3, Src: 3, Mut: true}, api.ErrShape}, {api.Stmt{Kind: api.Reborrow, Dst: 4, Src: 4, Mut: true}, api.OK},
		{api.Stmt{Kind: api.Borrow, Dst: 1, Region: 7, Mut: true}, api.OK},
	} {
		if e := Check(x.s, locals, 8); e != x.e {
			t.Error(x.s, e)
		}
		if l, e := Needs(x.s, locals, 8); e != x.e || e != api.OK && l != nil {
			t.Error(x.s, l, e)
		}
	}
	if Check(api.Stmt{}, nil, 0) != api.OK || Check(api.Stmt{Kind: api.Use}, nil, 0) != api.ErrRange || Check(api.Stmt{Kind: api.Borrow, Dst: 1}, locals, -1) != api.ErrRange {
		t.Error("of nothing")
	}
}

// Promise 18.2.
func TestPut(t *testing.T) {
	for _, x := range []struct {
		s     api.Stmt
		bytes string
		e     api.Errno
	}{
		{api.Stmt{}, "\x00", api.OK},
		{api.Stmt{Kind: api.Assign, Dst: 1, Src: 300}, "\x01\x01\xf9\x01\x2c", api.OK},
		{api.Stmt{Kind: api.Borrow, Dst: 1, Src: 2, Region: 3, Mut: true}, "\x02\x01\x02\x07", api.OK},
		{api.Stmt{Kind: api.Reborrow, Dst: 1, Src: 2, Region: 124}, "\x03\x01\x02\xf8\xf8", api.OK},
		{api.Stmt{Kind: api.Use, Src: 9}, "\x04\x09", api.OK},
		{api.Stmt{Kind: api.Dead, Dst: 9}, "\x05\x09", api.OK},
		{api.Stmt{Kind: 6}, "", api.ErrForm},
		{api.Stmt{Kind: -1}, "", api.ErrForm},
		{api.Stmt{Kind: api.Use, Dst: 1}, "", api.ErrForm},
		{api.Stmt{Kind: api.Assign, Mut: true}, "", api.ErrForm},
	} {
		if bytes, e := Put(x.s); bytes != x.bytes || e != x.e {
			t.Errorf("%v: %x, %v", x.s, bytes, e)
		}
	}
	for _, s := range []api.Stmt{{Kind: api.Use, Src: -1}, {Kind: api.Dead, Dst: leb.Most + 1}, {Kind: api.Borrow, Region: math.MaxInt}} {
		if _, e := Put(s); e != api.OK {
			t.Error(s, e)
		}
	}
}

// Promise 18.3.
func TestTake(t *testing.T) {
	for s, want := range map[string]api.Errno{
		"": api.ErrShort, "\xff": api.ErrForm, "\xf8": api.ErrShort, "\x06": api.ErrForm, "\xf8\xf8": api.ErrForm,
		"\x01": api.ErrShort, "\x01\xfc": api.ErrForm, "\x01\x02": api.ErrShort, "\x02\x01\x02": api.ErrShort, "\x02\x01\x02\xf8\x01": api.ErrForm, "\x04": api.ErrShort, "\x05\xfc": api.ErrForm,
	} {
		if x, k, e := Take(s); x != (api.Stmt{}) || k != 0 || e != want {
			t.Errorf("%x: %v, %d, %v", s, x, k, e)
		}
	}
	if x, k, e := Take("\x02\x01\x02\x07\xff"); x != (api.Stmt{Kind: api.Borrow, Dst: 1, Src: 2, Region: 3, Mut: true}) || k != 4 || e != api.OK {
		t.Error(x, k, e)
	}
}

// Promise 18.4.
func TestTakenAsPut(t *testing.T) {
	r := rand.New(rand.NewSource(15))
	for range 3000 {
		s := api.Stmt{Kind: r.Intn(6)}
		f, _ := fieldsOf(s.Kind)
		s = own(api.Stmt{Kind: s.Kind, Dst: r.Intn(500), Src: r.Intn(500), Region: r.Intn(500), Mut: r.Intn(2) > 0}, f)
		bytes, e := Put(s)
		if e != api.OK {
			t.Fatal(s, e)
		}
		for _, tail := range []string{"", "\x00", "\xff"} {
			if x, k, e := Take(bytes + tail); x != s || k != len(bytes) || e != api.OK {
				t.Fatal(s, x, k, e)
			}
		}
		some := make([]byte, r.Intn(8))
		for i := range some {
			some[i] = []byte{0, 1, 2, 3, 4, 5, 247, 248, 249, 255}[r.Intn(10)]
		}
		if x, k, e := Take(string(some)); e == api.OK {
			if bytes, e := Put(x); bytes != string(some[:k]) || e != api.OK {
				t.Fatalf("%x: %v", some, x)
			}
		}
	}
}
