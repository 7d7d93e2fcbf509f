package row

import (
	"math"
	"math/rand"
	"slices"
	"testing"

	"easement/api"
)

// of is a type by the regions of its slots; what may not vary is told by ^ of its region.
func of(regions ...int) api.Type {
	var t api.Type
	for _, r := range regions {
		if r < 0 {
			t.Slots = append(t.Slots, api.Slot{Region: ^r, Inv: true})
		} else {
			t.Slots = append(t.Slots, api.Slot{Region: r})
		}
	}
	return t
}

func many(n, region int) api.Type {
	return api.Type{Slots: slices.Repeat([]api.Slot{{Region: region}}, n)}
}

// Promise 15.1.
func TestCheck(t *testing.T) {
	for _, x := range []struct {
		t       api.Type
		regions int
		e       api.Errno
	}{
		{api.Type{}, 0, api.OK}, {api.Type{}, -5, api.OK}, {of(0), 1, api.OK}, {of(0), 0, api.ErrRange}, {of(0), -1, api.ErrRange},
		{of(1, ^2), 3, api.OK}, {of(1, ^2), 2, api.ErrRange}, {api.Type{Slots: []api.Slot{{Region: -1}}}, 9, api.ErrRange},
		{many(16, 0), 1, api.OK}, {many(17, 0), 1, api.ErrMany}, {many(17, 5), 1, api.ErrMany}, {many(16, 1), 1, api.ErrRange},
		{of(math.MaxInt), math.MaxInt, api.ErrRange}, {of(math.MaxInt - 1), math.MaxInt, api.OK},
	} {
		if e := Check(x.t, x.regions); e != x.e {
			t.Error(x, e)
		}
	}
}

// Promise 15.1.
func TestShapeSame(t *testing.T) {
	for _, x := range []struct {
		a, b        api.Type
		shape, same bool
	}{
		{api.Type{}, api.Type{Slots: []api.Slot{}}, true, true},
		{of(1, ^2), of(3, ^4), true, false}, {of(1, ^2), of(1, ^2), true, true}, {of(1, ^2), of(1, 2), false, false},
		{of(1), of(1, 2), false, false}, {of(1, 2), of(1), false, false}, {of(), of(1), false, false},
	} {
		if Shape(x.a, x.b) != x.shape || Same(x.a, x.b) != x.same {
			t.Error(x)
		}
	}
}

// Promise 15.1.
func TestCloneRegions(t *testing.T) {
	a := of(5, ^2, 5, ^0)
	b := Clone(a)
	if !Same(a, b) {
		t.Error(b)
	}
	b.Slots[0].Region = 9
	if a.Slots[0].Region != 5 || len(Clone(of()).Slots) != 0 {
		t.Error("shared")
	}
	if !slices.Equal(Regions(a), []int{0, 2, 5}) || len(Regions(of())) != 0 || a.Slots[0].Region != 5 {
		t.Error(Regions(a))
	}
	for region, want := range map[int]bool{5: true, 2: true, 0: true, 1: false, -1: false, ^2: false} {
		if Has(a, region) != want {
			t.Error(region)
		}
	}
}

// Promise 15.2.
func TestSubst(t *testing.T) {
	a, names := of(1, ^0, 1), []int{7, -3}
	b, e := Subst(a, names)
	if e != api.OK || !slices.Equal(b.Slots, []api.Slot{{Region: -3}, {Region: 7, Inv: true}, {Region: -3}}) || !Same(a, of(1, ^0, 1)) {
		t.Error(b, e)
	}
	for _, x := range []struct {
		t     api.Type
		names []int
	}{{of(0, 2), []int{1, 1}}, {of(0), nil}, {api.Type{Slots: []api.Slot{{Region: -1}}}, []int{1}}} {
		if b, e := Subst(x.t, x.names); len(b.Slots) != 0 || e != api.ErrRange {
			t.Error(x, b, e)
		}
	}
	if b, e := Subst(api.Type{}, nil); len(b.Slots) != 0 || e != api.OK {
		t.Error(b, e)
	}
	if b, e := Subst(many(20, 0), []int{4}); !Same(b, many(20, 4)) || e != api.OK {
		t.Error(b, e)
	}
}

// Promise 15.3.
func TestRefDeref(t *testing.T) {
	a := of(3, ^4)
	if b := Ref(a, 5, true); !Same(b, of(5, ^3, ^4)) {
		t.Error(b)
	}
	if b := Ref(a, 5, false); !Same(b, of(5, 3, ^4)) || !Same(a, of(3, ^4)) {
		t.Error(b)
	}
	if b := Ref(of(), 0, true); !Same(b, of(0)) {
		t.Error(b)
	}
	b, region, ok := Deref(a)
	if !Same(b, of(^4)) || region != 3 || !ok {
		t.Error(b, region, ok)
	}
	b.Slots[0].Region = 9
	if !Same(a, of(3, ^4)) {
		t.Error("shared")
	}
	for _, x := range []api.Type{of(), of(^3, 4)} {
		if b, region, ok := Deref(x); len(b.Slots) != 0 || region != 0 || ok {
			t.Error(x, b, region, ok)
		}
	}
}

// Promise 15.4.
func TestLaws(t *testing.T) {
	r := rand.New(rand.NewSource(12))
	for range 300 {
		var a api.Type
		for range r.Intn(6) {
			a.Slots = append(a.Slots, api.Slot{Region: r.Intn(5), Inv: r.Intn(2) > 0})
		}
		mut := r.Intn(2) > 0
		b, region, ok := Deref(Ref(a, 7, mut))
		if !ok || region != 7 || len(b.Slots) != len(a.Slots) || !mut && !Same(a, b) {
			t.Fatal(a, b)
		}
		for i, s := range b.Slots {
			if s.Region != a.Slots[i].Region || s.Inv != (mut || a.Slots[i].Inv) {
				t.Fatal(a, b)
			}
		}
		if same, e := Subst(a, []int{0, 1, 2, 3, 4}); e != api.OK || !Same(same, a) {
			t.Fatal(same)
		}
		if other, e := Subst(a, []int{9, 9, 8, 7, 6}); e != api.OK || !Shape(other, a) {
			t.Fatal(other)
		}
	}
}
