package proof

import (
	"testing"

	"easement/api"
)

func one(region int) api.Type { return api.Type{Slots: []api.Slot{{Region: region}}} }

// returns is a body by which a local of a region is returned as the region 1.
func returns(universals, regions, region int, bounds ...api.Bound) api.Body {
	return api.Body{Universals: universals, Regions: regions, Bounds: bounds, Locals: []api.Type{one(region)}, Ret: one(1), Blocks: []api.Block{{Term: api.Term{Kind: api.Return}}}}
}

// least is the body of one region that returns nothing.
func least() api.Body {
	return api.Body{Universals: 1, Regions: 1, Locals: []api.Type{{}}, Blocks: []api.Block{{Term: api.Term{Kind: api.Return}}}}
}

// Promise 37.1.
func TestMake(t *testing.T) {
	for i, x := range []struct {
		b api.Body
		s string
		e api.Errno
	}{
		{least(), "\x01\x02\x00\x00", api.OK},
		// Two points of regions 0, 1, then 2, which has the point, and 1's end, and 3, which has nothing.
		{returns(2, 4, 2), "\x04\x02\x00\x00\x02\x00\x01\x02\x00\x01\x00", api.OK},
		{returns(3, 3, 2), "\x03\x02\x00\x00\x02\x00\x01\x03\x00\x01\x00", api.OK},
		{api.Body{}, "", api.ErrArg},
		{returns(1, 1, 0), "", api.ErrArg},
	} {
		if s, e := Make(x.b); s != x.s || e != x.e {
			t.Errorf("%d: %x, %v", i, s, e)
		}
	}
}

// Promise 37.2.
func TestVerify(t *testing.T) {
	free := returns(2, 4, 2)
	bound := returns(3, 3, 2, api.Bound{Sup: 2, Sub: 1})
	wrong := returns(3, 3, 2)
	for i, x := range []struct {
		b api.Body
		s string
		e api.Errno
	}{
		{api.Body{}, "", api.ErrArg},
		{returns(1, 1, 0), "\x01\x02\x00\x00", api.ErrArg},
		{least(), "\x01\x02\x00\x00", api.OK},
		{least(), "", api.ErrShort},
		{least(), "\xff", api.ErrForm},
		{least(), "\x00", api.ErrForm},
		{least(), "\x02\x02\x00\x00\x00", api.ErrForm},
		{least(), "\x01", api.ErrShort},
		{least(), "\x01\xff", api.ErrForm},
		{least(), "\x01\x02\x00", api.ErrShort},
		{least(), "\x01\x02\x02", api.ErrRange},
		{least(), "\x01\x02\x00\x01", api.ErrRange},
		{least(), "\x01\x05\x00\x00\x00", api.ErrRange},
		{least(), "\x01\x01\xfb\xff\xff\xff\xff", api.ErrRange},
		{least(), "\x01\xfb\xff\xff\xff\xff\x00\x00", api.ErrShort},
		{least(), "\x01\x02\x00\x00\x00", api.ErrMore},
		{least(), "\x01\x00\x00", api.ErrMore},
		{least(), "\x01\x01\x00", api.ErrMissing},
		{least(), "\x01\x00", api.ErrMissing},
		{free, "\x04\x02\x00\x00\x02\x00\x01\x02\x00\x01\x00", api.OK},
		{free, "\x04\x02\x00\x00\x02\x00\x01\x02\x00\x01\x03\x00\x00\x00", api.OK},   // 3 may say more
		{free, "\x04\x02\x00\x00\x02\x00\x01\x01\x00\x00", api.ErrMissing},           // 2 has not 1's end
		{free, "\x04\x02\x00\x00\x03\x00\x00\x00\x03\x00\x00\x00\x00", api.ErrWrong}, // 1 has 0's end
		{free, "\x04\x03\x00\x00\x00\x02\x00\x01\x02\x00\x01\x00", api.OK},           // 0 outlives all
		{free, "\x04\x03\x00\x00\x00\x02\x00\x01\x01\x01\x00", api.ErrMissing},       // 2 has not its point
		{bound, "\x03\x02\x00\x00\x02\x00\x01\x03\x00\x01\x00", api.OK},              // 2 outlives 1
		{wrong, "\x03\x02\x00\x00\x02\x00\x01\x03\x00\x01\x00", api.ErrWrong},        // nobody says so
		{wrong, "\x03\x02\x00\x00\x02\x00\x01\x02\x00\x02", api.ErrMissing},          // by what is needed
		{wrong, "\x03\x02\x00\x00\x02\x00\x01\x03\x00\x01\x00\x00", api.ErrMore},     // more is looked for ahead
		{wrong, "\x03\x02\x00\x00\x01\x01\x03\x00\x01\x00", api.ErrMissing},          // 1 has not its point
	} {
		if e := Verify(x.b, x.s); e != x.e {
			t.Errorf("%d: %x: %v", i, x.s, e)
		}
	}
}
