package prov

import (
	"math"
	"math/rand"
	"testing"

	"easement/api"
)

// Promise 26.1.
func TestNames(t *testing.T) {
	names := []string{"?", "flow", "loan", "base", "need", "pass", "give", "out", "?"}
	for kind, want := range names {
		if Name(kind) != want {
			t.Error(kind, Name(kind))
		}
		if want != "?" {
			if k, ok := Kind(want); k != kind || !ok {
				t.Error(want, k, ok)
			}
		}
	}
	if Name(-1) != "?" || Name(math.MaxInt) != "?" || Name(math.MinInt) != "?" {
		t.Error("no kind")
	}
	for _, s := range []string{"", "?", "Flow", "flow ", "ok"} {
		if k, ok := Kind(s); k != 0 || ok {
			t.Error(s, k, ok)
		}
	}
}

// Promise 26.1.
func TestRight(t *testing.T) {
	for f, want := range map[api.Prov]bool{
		{Kind: api.Flow}: true, {Kind: api.Out, Block: math.MaxInt, Index: 1, Slot: 2, Back: true}: true,
		{}: false, {Kind: 8}: false, {Kind: -1}: false, {Kind: 1, Block: -1}: false, {Kind: 1, Index: -1}: false, {Kind: 1, Slot: -1}: false,
	} {
		if Right(f) != want || (Text(f) == "?") == want {
			t.Error(f)
		}
	}
}

// Promise 26.2.
func TestText(t *testing.T) {
	f := api.Prov{Block: 1, Index: 2, Kind: api.Flow, Slot: 3, Back: true}
	if Text(f) != "1.2 flow 3 back" {
		t.Error(Text(f))
	}
	f.Back, f.Kind, f.Slot = false, api.Out, 10
	if Text(f) != "1.2 out 10" || Edge(api.Edge{Sup: 4, Sub: 5, From: f}) != "4:5 at 1.2 out 10" {
		t.Error(Text(f))
	}
	if Edge(api.Edge{Sup: 4, Sub: 5}) != "4:5 at ?" || Edge(api.Edge{Sup: -4, Sub: 5, From: f}) != " at 1.2 out 10" {
		t.Error("edge")
	}
}

// Promise 26.3.
func TestParse(t *testing.T) {
	if f, e := Parse("1.2 flow 3 back"); f != (api.Prov{Block: 1, Index: 2, Kind: api.Flow, Slot: 3, Back: true}) || e != api.OK {
		t.Error(f, e)
	}
	if f, e := Parse("0.1048576 out 0"); f != (api.Prov{Index: api.MaxBits, Kind: api.Out}) || e != api.OK {
		t.Error(f, e)
	}
	for s, want := range map[string]api.Errno{
		"": api.ErrForm, "1.2 flow": api.ErrForm, "1.2 flow 3 x": api.ErrForm, "1.2 flow 3 back back": api.ErrForm, "1.2 flow 3 ": api.ErrForm, " 1.2 flow 3": api.ErrForm, "1.2  flow 3": api.ErrForm, "1.2 flow  back": api.ErrForm,
		"12 flow 3": api.ErrForm, "1.2 fly 3": api.ErrForm, "9999999.2 fly 3": api.ErrForm, "1.2 ? 3": api.ErrForm, "9999999 flow 3": api.ErrForm,
		"x.9999999 flow 3": api.ErrForm, "9999999.x flow 3": api.ErrOver, "1.9999999 flow x": api.ErrOver, "1.x flow 9999999": api.ErrForm, "1.2 flow 1048577": api.ErrOver, "1048577.0 flow 0": api.ErrOver,
		"1.2.3 flow 4": api.ErrForm, "01.2 flow 3": api.ErrForm, ".2 flow 3": api.ErrForm, "1. flow 3": api.ErrForm, "1.2 flow -3": api.ErrForm, "1.2 flow 3\n": api.ErrForm, "1.2\tflow 3": api.ErrForm, "1.2 flow back": api.ErrForm,
	} {
		if f, e := Parse(s); f != (api.Prov{}) || e != want {
			t.Error(s, f, e)
		}
	}
}

// Promise 26.4.
func TestCompare(t *testing.T) {
	rising := []api.Prov{
		{Block: -1, Index: 9}, {}, {Back: true}, {Slot: 1}, {Kind: 1}, {Kind: 1, Back: true}, {Kind: 1, Slot: 2},
		{Index: 1, Kind: -5}, {Index: 1}, {Block: 1}, {Block: 1, Index: 1}, {Block: math.MaxInt, Index: math.MinInt},
	}
	for i, a := range rising {
		for j, b := range rising {
			got := Compare(a, b)
			if (got < 0) != (i < j) || (got > 0) != (i > j) {
				t.Error(a, b, got)
			}
		}
	}
}

// Promise 26.5.
func TestReadAsWritten(t *testing.T) {
	r := rand.New(rand.NewSource(19))
	for range 1000 {
		f := api.Prov{Block: r.Intn(api.MaxBits + 1), Index: r.Intn(12), Kind: 1 + r.Intn(7), Slot: r.Intn(300), Back: r.Intn(2) > 0}
		if got, e := Parse(Text(f)); got != f || e != api.OK {
			t.Fatal(f, got, e)
		}
	}
}
