package blame

import (
	"slices"
	"testing"

	"easement/api"
	"easement/tick"
)

func from(index int) api.Prov { return api.Prov{Index: index, Kind: api.Flow} }

// edges is constraints between 5 regions, of which 0 1 3 and 0 2 3 are two ways as short as one another.
func edges() []api.Edge {
	return []api.Edge{{Sup: 0, Sub: 1, From: from(0)}, {Sup: 0, Sub: 2, From: from(1)}, {Sup: 2, Sub: 3, From: from(2)}, {Sup: 1, Sub: 3, From: from(3)}, {Sup: 3, Sub: 0, From: from(4)}}
}

func same(a, b api.Finding) bool {
	return a.Sup == b.Sup && a.Sub == b.Sub && slices.Equal(a.Path, b.Path)
}

// Promise 33.1.
func TestOf(t *testing.T) {
	b := api.Body{Regions: 5}
	var c tick.Counter
	got := Of(b, edges(), []api.Bound{{Sup: 3, Sub: 2}, {Sup: 0, Sub: 4}, {Sup: 0, Sub: 3}, {Sup: 9, Sub: 9}, {Sup: -1, Sub: 0}, {Sup: 1, Sub: 1}, {Sup: 4, Sub: 0}}, &c)
	want := []api.Finding{{Sup: 3, Sub: 2, Path: []int{4, 1}}, {Sup: 0, Sub: 3, Path: []int{1, 2}}, {Sup: 1, Sub: 1}}
	if !slices.EqualFunc(got, want, same) {
		t.Error(got)
	}
	if c.Total() == 0 || c.Total() != c.Of(tick.Blame) || c.Total() > 7*3*(5+5) {
		t.Error("steps", c.Total())
	}
	got[0].Path[0] = 9
	if again := Of(b, edges(), []api.Bound{{Sup: 3, Sub: 2}}, nil); again[0].Path[0] != 4 {
		t.Error("shared")
	}
	for _, regions := range []int{-1, 3, api.MaxBits + 1} {
		if got := Of(api.Body{Regions: regions}, edges(), []api.Bound{{Sup: 0, Sub: 1}, {}}, nil); len(got) != 0 {
			t.Error(regions, got)
		}
		if Right(api.Body{Regions: regions}, edges(), api.Finding{}) {
			t.Error(regions)
		}
	}
	if len(Of(b, edges(), nil, nil)) != 0 {
		t.Error("of nothing")
	}
}

// Promise 33.1.
func TestRight(t *testing.T) {
	b := api.Body{Regions: 5}
	for i, x := range []struct {
		f    api.Finding
		want bool
	}{
		{api.Finding{Sup: 0, Sub: 3, Path: []int{1, 2}}, true}, {api.Finding{Sup: 0, Sub: 3, Path: []int{0, 3}}, true}, {api.Finding{Sup: 2, Sub: 2}, true},
		{api.Finding{Sup: 0, Sub: 3, Path: []int{0, 3, 4, 0, 3}}, false}, {api.Finding{Sup: 0, Sub: 3, Path: []int{0, 2}}, false}, {api.Finding{Sup: 0, Sub: 3, Path: []int{0}}, false},
		{api.Finding{Sup: 0, Sub: 0, Path: []int{0, 3, 4}}, false}, {api.Finding{Sup: 0, Sub: 4}, false}, {api.Finding{Sup: 5, Sub: 5}, false}, {api.Finding{Sup: -1, Sub: -1}, false}, {api.Finding{Sup: 0, Sub: 1, Path: []int{5}}, false}, {api.Finding{Sup: 0, Sub: 1, Path: []int{-1}}, false},
	} {
		if Right(b, edges(), x.f) != x.want {
			t.Error(i, x)
		}
	}
}

// Promise 33.2.
func TestText(t *testing.T) {
	f := api.Finding{Sup: 0, Sub: 3, Path: []int{1, 2}}
	if got := Text(edges(), f); !slices.Equal(got, []string{"0:3 is missing, by 2", "  0:2 at 0.1 flow 0", "  2:3 at 0.2 flow 0"}) {
		t.Error(got)
	}
	if got := Places(edges(), f); !slices.Equal(got, []api.Prov{from(1), from(2)}) {
		t.Error(got)
	}
	first := api.Finding{Sup: 0, Sub: 3, Path: []int{0, 3}}
	if got := Text(edges(), first); !slices.Equal(got, []string{"0:3 is missing, by 2", "  0:1 at 0.0 flow 0", "  1:3 at 0.3 flow 0"}) {
		t.Error(got)
	}
	if got := Places(edges(), first); !slices.Equal(got, []api.Prov{from(0), from(3)}) {
		t.Error(got)
	}
	for _, n := range []int{-1, 5} {
		f.Path[0] = n
		if got := Text(edges(), f); !slices.Equal(got, []string{"0:3 is missing, by 2", "  2:3 at 0.2 flow 0"}) {
			t.Error(got)
		}
		if got := Places(edges(), f); len(got) != 0 {
			t.Error(got)
		}
	}
	if got := Text(nil, api.Finding{Sup: 1, Sub: 2}); !slices.Equal(got, []string{"1:2 is missing, by 0"}) {
		t.Error(got)
	}
	if got := Text(nil, api.Finding{Sup: -1, Sub: 2}); !slices.Equal(got, []string{" is missing, by 0"}) {
		t.Error(got)
	}
	if got := Bounds([]api.Finding{f, {Sup: 4, Sub: 1}, f}); !slices.Equal(got, []api.Bound{{Sup: 0, Sub: 3}, {Sup: 4, Sub: 1}, {Sup: 0, Sub: 3}}) {
		t.Error(got)
	}
	if len(Bounds(nil)) != 0 || len(Places(nil, api.Finding{})) != 0 {
		t.Error("of nothing")
	}
}
