package laws

import (
	"math/rand"
	"reflect"
	"slices"
	"testing"

	"easement/amend"
	"easement/api"
	"easement/blame"
	"easement/body"
	"easement/bound"
	"easement/check"
	"easement/cons"
	"easement/decl"
	"easement/judge"
	"easement/leb"
	"easement/path"
	"easement/proof"
	"easement/seed"
	"easement/solve"
	"easement/tick"
	"easement/valid"
)

// known tells of each two universal regions whether the first one is known to outlive the second one, by the words of chapter 31.
func known(universals int, l ...api.Bound) [][]bool {
	next := make([][]int, universals)
	for u := range universals {
		next[0] = append(next[0], u)
	}
	for _, x := range l {
		next[x.Sup] = append(next[x.Sup], x.Sub)
	}
	return reached(next)
}

// missing is the bounds that a body needs, and that are not known, by constraints that lead from region to region.
func missing(b api.Body, more ...api.Bound) []api.Bound {
	to, has := leads(b, cons.Of(b, nil)), known(b.Universals, slices.Concat(b.Bounds, more)...)
	var l []api.Bound
	for sup := range b.Universals {
		for sub := range b.Universals {
			if to[sup][sub] && !has[sup][sub] {
				l = append(l, api.Bound{Sup: sup, Sub: sub})
			}
		}
	}
	return l
}

// some is some of the bounds of a list.
func some(r *rand.Rand, l []api.Bound) []api.Bound {
	return slices.DeleteFunc(slices.Clone(l), func(api.Bound) bool { return r.Intn(2) > 0 })
}

// Promises 32.1 to 32.3.
func TestJudge(t *testing.T) {
	rejected := 0
	each(t, 10, 600, func(t *testing.T, r *rand.Rand, b api.Body) {
		want := missing(b)
		if len(want) > 0 {
			rejected++
		}
		got := judge.Missing(b)
		if !slices.Equal(got, want) || judge.Accepts(b) != (len(want) == 0) {
			t.Error(got, want)
		}
		var c tick.Counter
		v := solve.Of(b, cons.Of(b, nil), nil)
		if of := judge.Of(b, v, decl.Of(b.Universals, b.Bounds), &c); !slices.Equal(of, want) {
			t.Error(of, want)
		}
		needed := 0
		for u := range b.Universals {
			needed += len(v.Ends(u)) - 1
		}
		if n := c.Of(tick.Judge); n > 2*b.Universals+needed || n != c.Total() {
			t.Error("steps", n)
		}
		d := copied(b)
		d.Bounds = append(d.Bounds, want...)
		if len(judge.Missing(d)) != 0 || !judge.Accepts(d) || !judge.With(b, want) {
			t.Error("with all")
		}
		few := some(r, want)
		d = copied(b)
		d.Bounds = append(d.Bounds, few...)
		for _, x := range judge.Missing(d) {
			if !slices.Contains(want, x) || slices.Contains(few, x) {
				t.Error("with some", x)
			}
		}
		if judge.With(b, few) != (len(missing(b, few...)) == 0) {
			t.Error("with", few)
		}
	})
	if rejected < 100 || rejected > 500 {
		t.Error("rejected are", rejected)
	}
}

// walks is all walks from a region to another one, of so many constraints.
func walks(l []api.Edge, from, to, many int) [][]int {
	if many == 0 {
		if from == to {
			return [][]int{nil}
		}
		return nil
	}
	var all [][]int
	for i, x := range l {
		if x.Sup == from {
			for _, rest := range walks(l, x.Sub, to, many-1) {
				all = append(all, append([]int{i}, rest...))
			}
		}
	}
	return all
}

// Promises 33.1 and 33.3.
func TestBlame(t *testing.T) {
	each(t, 11, 300, func(t *testing.T, _ *rand.Rand, b api.Body) {
		l := cons.Of(b, nil)
		want := missing(b)
		found := blame.Of(b, l, want, nil)
		if !slices.Equal(blame.Bounds(found), want) {
			t.Error("bounds")
		}
		for _, f := range found {
			if !blame.Right(b, l, f) {
				t.Error("right", f)
			}
			for i, place := range blame.Places(l, f) {
				n := 0
				for block := range place.Block {
					n += len(b.Blocks[block].Stmts) + 1
				}
				if !slices.Contains(cons.At(b, n+place.Index), l[f.Path[i]]) {
					t.Error("place", place)
				}
			}
			if len(f.Path) > 4 {
				continue
			}
			for many := range len(f.Path) {
				if len(walks(l, f.Sup, f.Sub, many)) > 0 {
					t.Error("shorter", f)
				}
			}
			for _, other := range walks(l, f.Sup, f.Sub, len(f.Path)) {
				if path.Less(other, f.Path) {
					t.Error("less", f, other)
				}
			}
		}
	})
}

// Promises 34.3 and 34.4.
func TestSuggest(t *testing.T) {
	each(t, 12, 500, func(t *testing.T, r *rand.Rand, b api.Body) {
		for range r.Intn(6) {
			b.Bounds = append(b.Bounds, api.Bound{Sup: r.Intn(b.Universals), Sub: r.Intn(b.Universals)})
		}
		want := missing(b)
		l := bound.Suggest(b)
		if !slices.Equal(l, bound.Least(b.Universals, b.Bounds, want)) || len(missing(b, l...)) > 0 {
			t.Error("suggest", l)
		}
		for i := range l {
			if without := slices.Delete(slices.Clone(l), i, i+1); len(missing(b, without...)) == 0 || judge.With(b, without) {
				t.Error("needless", l[i])
			}
		}
		var places []int
		for i := range b.Bounds {
			d := copied(b)
			d.Bounds = slices.Delete(d.Bounds, i, i+1)
			if len(missing(d)) == len(want) {
				places = append(places, i)
			}
		}
		if got := bound.Needless(b); !slices.Equal(got, places) {
			t.Error(got, places)
		}
	})
}

// Promises 35.1 to 35.3.
func TestAmend(t *testing.T) {
	each(t, 13, 400, func(t *testing.T, r *rand.Rand, b api.Body) {
		for range r.Intn(6) {
			b.Bounds = append(b.Bounds, api.Bound{Sup: r.Intn(b.Universals), Sub: r.Intn(b.Universals)})
		}
		want := missing(b)
		more, e := amend.Add(b, want)
		if e != api.OK || !valid.OK(more) || len(missing(more)) > 0 {
			t.Error("add", e)
		}
		tidy, _ := amend.Tidy(b)
		trim, _ := amend.Trim(b)
		if !slices.Equal(missing(tidy), want) || !slices.Equal(missing(trim), want) || len(bound.Needless(trim)) > 0 {
			t.Error("tidy, trim")
		}
		naive := slices.Clone(b.Bounds)
		for i := len(naive) - 1; i >= 0; i-- {
			d := copied(b)
			d.Bounds = slices.Delete(slices.Clone(naive), i, i+1)
			if len(missing(d)) == len(want) {
				naive = d.Bounds
			}
		}
		if !slices.Equal(trim.Bounds, naive) {
			t.Error(trim.Bounds, naive)
		}
	})
}

// Promises 36.1, 36.2 and 36.4, and T1 to T5 through the layers.
func TestCheck(t *testing.T) {
	each(t, 14, 400, func(t *testing.T, r *rand.Rand, b api.Body) {
		s, e := body.Put(b)
		if e != api.OK {
			t.Error(e)
		}
		got, want := check.Check(s), missing(b)
		if got.Steps < 1 || got.Steps > check.Bound(s) {
			t.Error("steps", got.Steps, check.Bound(s))
		}
		if (got.Verdict == api.Accept) != (len(want) == 0) || (got.Verdict == api.Reject) != (len(want) > 0) || !slices.Equal(got.Suggest, want) || !slices.Equal(blame.Bounds(got.Errors), want) {
			t.Error(got, want)
		}
		if got.Verdict == api.Reject {
			more := check.Check(got.Amended)
			if more.Verdict != api.Accept {
				t.Error("amended", more)
			}
		}
		steps := got.Steps
		got.Steps = 0
		if of := check.Of(b, nil); !reflect.DeepEqual(of, got) {
			t.Error(of, got)
		}
		if again := check.Check(s); again.Steps != steps {
			t.Error("steps", again.Steps, steps)
		}
	})
}

// Promises 36.1 and 36.4, of bytes by chance: there is one verdict, which hangs on what body.Take and valid.Check tell.
func TestAnyBytes(t *testing.T) {
	verdicts := map[int]int{}
	each(t, 15, 300, func(t *testing.T, r *rand.Rand, b api.Body) {
		put, _ := body.Put(b)
		for range 30 {
			bytes := []byte(put)
			for range 1 + r.Intn(2) {
				bytes[r.Intn(len(bytes))] = byte(r.Intn(12))
			}
			s := string(bytes)
			got := check.Check(s)
			verdicts[got.Verdict]++
			if got.Steps > check.Bound(s) {
				t.Error("steps")
			}
			x, e := body.Take(s, nil)
			f := valid.Check(x, nil)
			if e != api.OK {
				f = valid.Fault{}
			}
			if got.E != e || got.Fault != f || (got.Verdict == api.Malformed) != (e != api.OK || f.E != api.OK) || got.Verdict < api.Malformed || got.Verdict > api.Reject {
				t.Errorf("%x: %v", s, got)
			}
		}
	})
	for verdict := api.Malformed; verdict <= api.Reject; verdict++ {
		if verdicts[verdict] < 100 {
			t.Error("too few", verdicts)
		}
	}
}

// proofOf is the proof of sets.
func proofOf(sets [][]int) string {
	s := leb.Put(len(sets))
	for _, set := range sets {
		s += leb.Put(len(set))
		next := 0
		for _, n := range set {
			s += leb.Put(n - next)
			next = n + 1
		}
	}
	return s
}

// Promises 37.1 to 37.3, and T6 through the layers.
func TestProof(t *testing.T) {
	verified := 0
	each(t, 16, 400, func(t *testing.T, r *rand.Rand, b api.Body) {
		want := missing(b)
		sets := values(b, cons.Of(b, nil))
		s, e := proof.Make(b)
		if s != proofOf(sets) || e != api.OK {
			t.Errorf("%x", s)
		}
		verdict := api.OK
		if len(want) > 0 {
			verdict = api.ErrWrong
		}
		if e := proof.Verify(b, s); e != verdict {
			t.Error(e, want)
		}
		// Sets that say more, or less, and bytes by chance: what is verified is accepted.
		for range 20 {
			other := make([][]int, len(sets))
			for a, set := range sets {
				other[a] = slices.Clone(set)
			}
			for range 1 + r.Intn(3) {
				a, n := r.Intn(b.Regions), r.Intn(seed.Size(b))
				if k, has := slices.BinarySearch(other[a], n); !has {
					other[a] = slices.Insert(other[a], k, n)
				} else if r.Intn(3) == 0 {
					other[a] = slices.Delete(other[a], k, k+1)
				}
			}
			bytes := []byte(proofOf(other))
			if r.Intn(3) == 0 {
				bytes[r.Intn(len(bytes))] = byte(r.Intn(5))
			}
			if e := proof.Verify(b, string(bytes)); e == api.OK {
				verified++
				if len(want) > 0 {
					t.Errorf("verified %x", bytes)
				}
			}
		}
	})
	if verified < 200 {
		t.Error("verified are", verified)
	}
}
