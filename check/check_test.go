package check

import (
	"math"
	"reflect"
	"slices"
	"strings"
	"testing"

	"easement/api"
	"easement/body"
	"easement/leb"
	"easement/tick"
	"easement/valid"
)

func one(region int) api.Type { return api.Type{Slots: []api.Slot{{Region: region}}} }

// given is a body by which a local of the region 1 is returned as the region 2.
func given() api.Body {
	return api.Body{Universals: 3, Regions: 3, Locals: []api.Type{one(1)}, Ret: one(2), Blocks: []api.Block{{Term: api.Term{Kind: api.Return}}}}
}

func bytes(t *testing.T, b api.Body) string {
	t.Helper()
	s, e := body.Put(b)
	if e != api.OK {
		t.Fatal(e)
	}
	return s
}

const least = "mir\x01\x01\x01\x00\x01\x00\x00\x00\x01\x00\x03"

// Promise 36.1.
func TestCheck(t *testing.T) {
	if r := Check(""); r.Verdict != api.Malformed || r.E != api.ErrHead || r.Steps > Bound("") {
		t.Error(r)
	}
	for s, want := range map[string]Result{
		"mir":          {Verdict: api.Malformed, E: api.ErrHead},
		least[:9]:      {Verdict: api.Malformed, E: api.ErrShort},
		least + "\x00": {Verdict: api.Malformed, E: api.ErrMore},
		"mir\x01\x02\x01\x00\x01\x00\x00\x00\x01\x00\x03":         {Verdict: api.Malformed, Fault: valid.Fault{E: api.ErrRange}},
		"mir\x01\x01\x01\x00\x01\x00\x00\x00\x01\x01\x05\x01\x03": {Verdict: api.Malformed, Fault: valid.Fault{E: api.ErrRange, Part: valid.Stmts}},
		least: {Verdict: api.Accept},
	} {
		r := Check(s)
		if r.Steps < 0 || r.Steps > Bound(s) || want.Verdict == api.Accept && r.Steps == 0 {
			t.Errorf("%x: steps %d", s, r.Steps)
		}
		r.Steps = 0
		if !reflect.DeepEqual(r, want) {
			t.Errorf("%x: %v", s, r)
		}
	}
}

// Promises 36.1 and 36.2.
func TestReject(t *testing.T) {
	b := given()
	s := bytes(t, b)
	r := Check(s)
	missing := []api.Bound{{Sup: 1, Sub: 2}}
	if r.Verdict != api.Reject || r.E != api.OK || r.Fault != (valid.Fault{}) || !slices.Equal(r.Suggest, missing) || r.Overflow || r.Steps == 0 || r.Steps > Bound(s) {
		t.Error(r)
	}
	if len(r.Errors) != 1 || r.Errors[0].Sup != 1 || r.Errors[0].Sub != 2 || !slices.Equal(r.Errors[0].Path, []int{0}) {
		t.Error(r.Errors)
	}
	more := given()
	more.Bounds = missing
	if r.Amended != bytes(t, more) || Check(r.Amended).Verdict != api.Accept {
		t.Errorf("%x", r.Amended)
	}
	var c tick.Counter
	of := Of(b, &c)
	if c.Total() == 0 || c.Of(tick.Decode)+c.Of(tick.Valid) != 0 || of.Steps != 0 {
		t.Error("steps")
	}
	r.Steps = 0
	if !reflect.DeepEqual(of, r) {
		t.Error(of, r)
	}
	b.Bounds = make([]api.Bound, api.MaxMany-1)
	if r := Of(b, nil); r.Verdict != api.Reject || r.Overflow || r.Amended == "" {
		t.Error("full, but for one")
	}
	b.Bounds = make([]api.Bound, api.MaxMany)
	if r := Of(b, nil); r.Verdict != api.Reject || !r.Overflow || r.Amended != "" || !slices.Equal(r.Suggest, missing) || len(r.Errors) != 1 {
		t.Error("full")
	}
}

// Promise 36.2, of bodies that are not well-formed, or accepted.
func TestOf(t *testing.T) {
	bad := given()
	bad.Ret = api.Type{}
	var c tick.Counter
	for _, b := range []api.Body{{}, bad} {
		if r := Of(b, &c); !reflect.DeepEqual(r, Result{}) || c.Total() != 0 {
			t.Error(r)
		}
	}
	good := given()
	good.Bounds = []api.Bound{{Sup: 1, Sub: 2}}
	if r := Of(good, nil); !reflect.DeepEqual(r, Result{Verdict: api.Accept}) {
		t.Error(r)
	}
}

// Promise 36.3.
func TestName(t *testing.T) {
	for verdict, want := range map[int]string{0: "?", 1: "malformed", 2: "accepted", 3: "rejected", 4: "?", -1: "?", math.MaxInt: "?"} {
		if Name(verdict) != want {
			t.Error(verdict, Name(verdict))
		}
	}
	for _, s := range []string{"", "x", strings.Repeat("x", 1000)} {
		if Bound(s) != tick.Cubic(len(s)) {
			t.Error(len(s))
		}
	}
}

// Promise 36.1: few bytes may tell of many regions, all of which need one another.
func TestStepsOfFewBytes(t *testing.T) {
	const many = api.MaxMany
	ring := func(from, turn int) api.Type {
		var t api.Type
		for i := range api.MaxSlots {
			t.Slots = append(t.Slots, api.Slot{Region: from + (i+turn)%api.MaxSlots, Inv: true})
		}
		return t
	}
	back := api.Block{Term: api.Term{Kind: api.Return}}
	assign := api.Block{Stmts: []api.Stmt{{Kind: api.Assign, Dst: 1, Src: 2}}, Term: api.Term{Kind: api.Return}}
	for i, b := range []api.Body{
		{Universals: 1, Regions: many, Locals: []api.Type{{}}, Blocks: []api.Block{back}},
		{Universals: many, Regions: many, Locals: []api.Type{{}}, Blocks: []api.Block{back}},
		{Universals: many - 1, Regions: many - 1, Locals: []api.Type{{}}, Blocks: []api.Block{back}},
		{Universals: many, Regions: many, Locals: []api.Type{{}, ring(1, 0), ring(1, 1)}, Blocks: []api.Block{assign}},
		{Universals: 20, Regions: many, Locals: []api.Type{{}, ring(1, 0), ring(1, 1)}, Blocks: []api.Block{assign}},
	} {
		s := bytes(t, b)
		r := Check(s)
		if r.Verdict == api.Malformed || r.Steps > Bound(s) {
			t.Error(i, r.Verdict, r.Steps, Bound(s))
		}
		if i > 2 && len(r.Errors) != 16*15 {
			t.Error(i, len(r.Errors))
		}
	}
	if len(leb.Put(many)) != 4 || len(leb.Put(many-1)) != 3 {
		t.Error("bytes")
	}
}
