package sig

import (
	"math"
	"math/rand"
	"slices"
	"strings"
	"testing"

	"easement/api"
	"easement/leb"
	"easement/relate"
	"easement/row"
)

// of is a type by the regions of its slots; what may not vary is told by ^ of its region.
func of(regions ...int) api.Type {
	var t api.Type
	for _, r := range regions {
		if r < 0 {
			t.Slots = append(t.Slots, api.Slot{Region: ^r, Inv: true})
		} else {
			t.Slots = append(t.Slots, api.Slot{Region: r})
		}
	}
	return t
}

func same(a, b api.Sig) bool {
	return a.Params == b.Params && slices.Equal(a.Bounds, b.Bounds) && slices.EqualFunc(a.Args, b.Args, row.Same) && row.Same(a.Ret, b.Ret)
}

// Promise 17.1.
func TestCheck(t *testing.T) {
	many := api.Type{Slots: make([]api.Slot, 17)}
	for _, x := range []struct {
		s api.Sig
		e api.Errno
	}{
		{api.Sig{}, api.OK},
		{api.Sig{Params: 2, Bounds: []api.Bound{{Sup: 0, Sub: 1}}, Args: []api.Type{of(0, ^1), of()}, Ret: of(1)}, api.OK},
		{api.Sig{Params: -1, Bounds: make([]api.Bound, 17)}, api.ErrRange},
		{api.Sig{Params: 17}, api.ErrMany},
		{api.Sig{Params: math.MaxInt}, api.ErrMany},
		{api.Sig{Params: 16, Bounds: make([]api.Bound, 16), Args: make([]api.Type, 16)}, api.OK},
		{api.Sig{Params: 16, Bounds: make([]api.Bound, 17)}, api.ErrMany},
		{api.Sig{Params: 16, Bounds: []api.Bound{{Sup: 16}}, Args: make([]api.Type, 17)}, api.ErrMany},
		{api.Sig{Params: 1, Bounds: []api.Bound{{Sup: 1}}, Args: []api.Type{many}}, api.ErrRange},
		{api.Sig{Params: 1, Bounds: []api.Bound{{Sub: 1}}}, api.ErrRange},
		{api.Sig{Params: 1, Bounds: []api.Bound{{Sup: -1}}}, api.ErrRange},
		{api.Sig{Params: 1, Bounds: []api.Bound{{Sub: -1}}}, api.ErrRange},
		{api.Sig{Params: 1, Args: []api.Type{of(0), of(1)}, Ret: many}, api.ErrRange},
		{api.Sig{Params: 1, Args: []api.Type{of(0), many}, Ret: of(1)}, api.ErrMany},
		{api.Sig{Params: 1, Args: []api.Type{many, of(1)}}, api.ErrMany},
		{api.Sig{Params: 1, Ret: of(1)}, api.ErrRange},
		{api.Sig{Params: 1, Ret: many}, api.ErrMany},
		{api.Sig{Ret: of(0)}, api.ErrRange},
	} {
		if e := Check(x.s); e != x.e {
			t.Error(x, e)
		}
	}
}

// Promise 17.1.
func TestCall(t *testing.T) {
	s := api.Sig{Params: 2, Bounds: []api.Bound{{Sup: 0, Sub: 1}, {Sup: 1, Sub: 1}}, Args: []api.Type{of(0), of(1, ^0)}, Ret: of(^1)}
	l, e := Call(s, []int{7, 8}, []api.Type{of(1), of(2, ^3)}, of(^4))
	want := []relate.Need{
		{Sup: 7, Sub: 8, Kind: api.Need, Slot: 0}, {Sup: 8, Sub: 8, Kind: api.Need, Slot: 1},
		{Sup: 1, Sub: 7, Kind: api.Pass, Slot: 0},
		{Sup: 2, Sub: 8, Kind: api.Pass, Slot: 16}, {Sup: 3, Sub: 7, Kind: api.Pass, Slot: 17}, {Sup: 7, Sub: 3, Kind: api.Pass, Slot: 17, Back: true},
		{Sup: 8, Sub: 4, Kind: api.Give, Slot: 0}, {Sup: 4, Sub: 8, Kind: api.Give, Slot: 0, Back: true},
	}
	if !slices.Equal(l, want) || e != api.OK {
		t.Error(l, e)
	}
	if l, e := Call(api.Sig{}, nil, nil, of()); len(l) != 0 || e != api.OK {
		t.Error(l, e)
	}
	for _, x := range []struct {
		s     api.Sig
		names []int
		args  []api.Type
		dst   api.Type
		e     api.Errno
	}{
		{api.Sig{Params: 17}, nil, nil, of(), api.ErrMany},
		{api.Sig{Params: -1}, nil, nil, of(), api.ErrRange},
		{s, []int{7}, []api.Type{of(1), of(2, ^3)}, of(^4), api.ErrArg},
		{s, []int{7, 8, 9}, []api.Type{of(), of()}, of(^4), api.ErrArg},
		{s, []int{7, 8}, []api.Type{of(1)}, of(^4), api.ErrArg},
		{s, []int{7, 8}, []api.Type{of(1), of(2, ^3), of()}, of(^4), api.ErrArg},
		{s, []int{7, 8}, []api.Type{of(^1), of(2, ^3)}, of(^4), api.ErrShape},
		{s, []int{7, 8}, []api.Type{of(1), of(2, 3)}, of(^4), api.ErrShape},
		{s, []int{7, 8}, []api.Type{of(1), of(2, ^3)}, of(4), api.ErrShape},
		{s, []int{7, 8}, []api.Type{of(1), of(2, ^3)}, of(), api.ErrShape},
	} {
		if l, e := Call(x.s, x.names, x.args, x.dst); l != nil || e != x.e {
			t.Error(x, l, e)
		}
	}
}

// Promise 17.2.
func TestPut(t *testing.T) {
	for s, want := range map[string]string{
		PutType(of(3, ^4)):   "\x02\x06\x09",
		PutType(of()):        "\x00",
		PutType(of(124)):     "\x01\xf8\xf8",
		PutType(of(^123, 0)): "\x02\xf7\x00",
		PutBounds(nil):       "\x00",
		PutBounds([]api.Bound{{Sup: 1, Sub: 2}, {Sup: 300}}): "\x02\x01\x02\xf9\x01\x2c\x00",
		Put(api.Sig{}): "\x00\x00\x00\x00",
		Put(api.Sig{Params: 2, Bounds: []api.Bound{{Sup: 0, Sub: 1}}, Args: []api.Type{of(0), of(1, ^0)}, Ret: of(^1)}): "\x02\x01\x00\x01\x02\x01\x00\x02\x02\x01\x01\x03",
	} {
		if s != want {
			t.Errorf("%x, not %x", s, want)
		}
	}
	if got := PutType(of(leb.Most / 2)); got != "\x01\xfb\xff\xff\xff\xfe" {
		t.Errorf("%x", got)
	}
}

// Promise 17.3.
func TestTake(t *testing.T) {
	if x, k, e := TakeType("\x02\x06\x09\x55"); !row.Same(x, of(3, ^4)) || k != 3 || e != api.OK {
		t.Error(x, k, e)
	}
	for s, want := range map[string]api.Errno{"": api.ErrShort, "\xff": api.ErrForm, "\x11": api.ErrMany, "\x02\x06": api.ErrShort, "\x01\xf8\x01": api.ErrForm, "\xfb\xff\xff\xff\xff": api.ErrMany} {
		if x, k, e := TakeType(s); len(x.Slots) != 0 || k != 0 || e != want {
			t.Errorf("%x: %v, %d, %v", s, x, k, e)
		}
	}
	if l, k, e := TakeBounds("\x02\x01\x02\x03\x04\x05", 2); !slices.Equal(l, []api.Bound{{Sup: 1, Sub: 2}, {Sup: 3, Sub: 4}}) || k != 5 || e != api.OK {
		t.Error(l, k, e)
	}
	if l, k, e := TakeBounds("\x00", 0); len(l) != 0 || k != 1 || e != api.OK {
		t.Error(l, k, e)
	}
	for s, want := range map[string]api.Errno{"": api.ErrShort, "\x03": api.ErrMany, "\x02\x01\x02\x03": api.ErrShort, "\x01\x01": api.ErrShort, "\x01\xff": api.ErrForm, "\x01\x01\xff": api.ErrForm} {
		if l, k, e := TakeBounds(s, 2); l != nil || k != 0 || e != want {
			t.Errorf("%x: %v, %d, %v", s, l, k, e)
		}
	}
	if l, k, e := TakeBounds("\x00", -1); l != nil || k != 0 || e != api.ErrMany {
		t.Error(l, k, e)
	}
	if l, k, e := TakeBounds("\xfb\xff\xff\xff\xff\x00", math.MaxInt); l != nil || k != 0 || e != api.ErrShort {
		t.Error(l, k, e)
	}
	for s, want := range map[string]api.Errno{
		"": api.ErrShort, "\xff": api.ErrForm, "\x01": api.ErrShort, "\x01\x11": api.ErrMany, "\x01\x01\x00": api.ErrShort,
		"\x01\x00": api.ErrShort, "\x01\x00\x11": api.ErrMany, "\x01\x00\x01": api.ErrShort, "\x01\x00\x01\x11": api.ErrMany,
		"\x01\x00\x00": api.ErrShort, "\x01\x00\x00\x11": api.ErrMany, "\x01\x00\x00\x01": api.ErrShort, "\x01\x00\x00\x01\xfc": api.ErrForm,
	} {
		if x, k, e := Take(s); !same(x, api.Sig{}) || k != 0 || e != want {
			t.Errorf("%x: %v, %d, %v", s, x, k, e)
		}
	}
	if x, k, e := Take("\xf9\x01\x00\x01\x09\x09\x00\x01\x05" + "\x77"); !same(x, api.Sig{Params: 256, Bounds: []api.Bound{{Sup: 9, Sub: 9}}, Ret: of(^2)}) || k != 9 || e != api.OK {
		t.Error(x, k, e)
	}
}

func randomType(r *rand.Rand) api.Type {
	var t api.Type
	for range r.Intn(4) {
		t.Slots = append(t.Slots, api.Slot{Region: r.Intn(400), Inv: r.Intn(2) > 0})
	}
	return t
}

// Promise 17.4.
func TestTakenAsPut(t *testing.T) {
	r := rand.New(rand.NewSource(14))
	for range 500 {
		var s api.Sig
		s.Params, s.Ret = r.Intn(1000), randomType(r)
		for range r.Intn(4) {
			s.Bounds = append(s.Bounds, api.Bound{Sup: r.Intn(300), Sub: r.Intn(300)})
		}
		for range r.Intn(4) {
			s.Args = append(s.Args, randomType(r))
		}
		bytes := Put(s)
		for _, tail := range []string{"", "\x00", "\xff\xff"} {
			if x, k, e := Take(bytes + tail); !same(x, s) || k != len(bytes) || e != api.OK {
				t.Fatal(s, x, k, e)
			}
		}
		for k := range len(bytes) {
			if _, _, e := Take(bytes[:k]); e != api.ErrShort {
				t.Fatal(s, k, e)
			}
		}
		x, k, e := TakeType(PutType(s.Ret) + "\x01")
		if !row.Same(x, s.Ret) || k != len(PutType(s.Ret)) || e != api.OK {
			t.Fatal(x, k, e)
		}
	}
	for range 20000 {
		var b strings.Builder
		for range r.Intn(14) {
			b.WriteByte([]byte{0, 1, 2, 3, 16, 17, 247, 248, 249, 255}[r.Intn(10)])
		}
		s := b.String()
		if x, k, e := Take(s); e == api.OK && Put(x) != s[:k] {
			t.Fatalf("%x: %v", s, x)
		}
		if x, k, e := TakeType(s); e == api.OK && PutType(x) != s[:k] {
			t.Fatalf("%x: %v", s, x)
		}
		if x, k, e := TakeBounds(s, 16); e == api.OK && PutBounds(x) != s[:k] {
			t.Fatalf("%x: %v", s, x)
		}
	}
}
