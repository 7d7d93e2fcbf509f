// Package laws holds tests that go through many bodies, and through several layers at once: what the layers tell is held against the document's words, done in the simplest way.
package laws

import (
	"math/rand"
	"testing"

	"easement/api"
	"easement/row"
	"easement/stmt"
	"easement/term"
	"easement/valid"
)

// maker makes bodies by chance.
type maker struct {
	*rand.Rand
	body   api.Body
	shapes [][]bool // of each shape which slots may not vary
}

// typ is a type of one of the shapes, over so many regions.
func (m *maker) typ(regions int) api.Type {
	return m.shaped(m.shapes[m.Intn(len(m.shapes))], regions)
}

func (m *maker) shaped(shape []bool, regions int) api.Type {
	var t api.Type
	for _, inv := range shape {
		t.Slots = append(t.Slots, api.Slot{Region: m.Intn(regions), Inv: inv})
	}
	return t
}

func (m *maker) local() int  { return m.Intn(len(m.body.Locals)) }
func (m *maker) region() int { return m.Intn(m.body.Regions) }

// like is a local, of the shape of a type, if there is one.
func (m *maker) like(t api.Type) int {
	first := m.local()
	for k := range m.body.Locals {
		if n := (first + k) % len(m.body.Locals); row.Shape(m.body.Locals[n], t) {
			return n
		}
	}
	return first
}

// statement is a statement that may be.
func (m *maker) statement() api.Stmt {
	for range 20 {
		s := api.Stmt{Kind: []int{0, 1, 1, 1, 1, 2, 2, 2, 2, 2, 2, 3, 3, 3, 4, 5}[m.Intn(16)]}
		if s.Kind != api.Nop && s.Kind != api.Use {
			s.Dst = m.local()
		}
		if s.Kind != api.Nop && s.Kind != api.Dead {
			s.Src = m.local()
		}
		if s.Kind == api.Borrow || s.Kind == api.Reborrow {
			s.Region, s.Mut = m.region(), m.Intn(2) > 0
		}
		if (s.Kind != api.Nop || m.Intn(4) == 0) && stmt.Check(s, m.body.Locals, m.body.Regions) == api.OK {
			return s
		}
	}
	return api.Stmt{}
}

// call is a call of a signature, which may be none that may be.
func (m *maker) call(blocks int) api.Term {
	t := api.Term{Kind: api.Call, Sig: m.Intn(len(m.body.Sigs)), To: []int{m.Intn(blocks)}}
	s := m.body.Sigs[t.Sig]
	t.Dst = m.like(s.Ret)
	for range s.Params {
		t.Params = append(t.Params, m.region())
	}
	for _, x := range s.Args {
		t.Args = append(t.Args, m.like(x))
	}
	return t
}

// terminator is a terminator that may be.
func (m *maker) terminator(blocks int) api.Term {
	b := m.body
	around := term.Around{Blocks: blocks, Regions: b.Regions, Locals: b.Locals, Ret: b.Ret, Sigs: b.Sigs}
	for range 20 {
		t := api.Term{Kind: api.Return}
		switch m.Intn(5) {
		case 0, 1:
			t = api.Term{Kind: api.Goto, To: []int{m.Intn(blocks)}}
		case 2:
			t = api.Term{Kind: api.Switch}
			for range 1 + m.Intn(3) {
				t.To = append(t.To, m.Intn(blocks))
			}
			for range m.Intn(3) {
				t.Args = append(t.Args, m.local())
			}
		case 3:
			if len(b.Sigs) > 0 {
				t = m.call(blocks)
			}
		}
		if term.Check(t, around) == api.OK {
			return t
		}
	}
	return api.Term{Kind: api.Return}
}

// random is a well-formed body.
func random(r *rand.Rand) api.Body {
	m := &maker{Rand: r, shapes: [][]bool{nil, {false}, {false, false}, {false, true}, {true}}}
	b := &m.body
	b.Universals = 1 + r.Intn(5)
	b.Regions = b.Universals + r.Intn(7)
	for range r.Intn(4) {
		b.Bounds = append(b.Bounds, api.Bound{Sup: r.Intn(b.Universals), Sub: r.Intn(b.Universals)})
	}
	for range 1 + r.Intn(7) {
		b.Locals = append(b.Locals, m.typ(b.Regions))
	}
	shape := make([]bool, len(b.Locals[0].Slots))
	for i, s := range b.Locals[0].Slots {
		shape[i] = s.Inv
	}
	b.Ret = m.shaped(shape, b.Universals)
	for range r.Intn(3) {
		s := api.Sig{Params: 1 + r.Intn(3)}
		for range r.Intn(3) {
			s.Bounds = append(s.Bounds, api.Bound{Sup: r.Intn(s.Params), Sub: r.Intn(s.Params)})
		}
		for range r.Intn(3) {
			s.Args = append(s.Args, m.typ(s.Params))
		}
		s.Ret = m.typ(s.Params)
		b.Sigs = append(b.Sigs, s)
	}
	blocks := 1 + r.Intn(4)
	for range blocks {
		var x api.Block
		for range r.Intn(6) {
			x.Stmts = append(x.Stmts, m.statement())
		}
		x.Term = m.terminator(blocks)
		b.Blocks = append(b.Blocks, x)
	}
	return *b
}

// each does what do does with many bodies.
func each(t *testing.T, seed int64, many int, do func(t *testing.T, r *rand.Rand, b api.Body)) {
	t.Helper()
	r := rand.New(rand.NewSource(seed))
	for range many {
		b := random(r)
		if f := valid.Check(b, nil); f != (valid.Fault{}) {
			t.Fatal(b, f)
		}
		do(t, r, b)
		if t.Failed() {
			t.Fatalf("%+v", b)
		}
	}
}

// copied is a body of its own.
func copied(b api.Body) api.Body {
	types := func(l []api.Type) []api.Type {
		var c []api.Type
		for _, x := range l {
			c = append(c, api.Type{Slots: append([]api.Slot(nil), x.Slots...)})
		}
		return c
	}
	c := b
	c.Bounds = append([]api.Bound(nil), b.Bounds...)
	c.Locals = types(b.Locals)
	c.Ret = types([]api.Type{b.Ret})[0]
	c.Sigs, c.Blocks = nil, nil
	for _, s := range b.Sigs {
		c.Sigs = append(c.Sigs, api.Sig{Params: s.Params, Bounds: append([]api.Bound(nil), s.Bounds...), Args: types(s.Args), Ret: types([]api.Type{s.Ret})[0]})
	}
	for _, x := range b.Blocks {
		y := api.Block{Stmts: append([]api.Stmt(nil), x.Stmts...), Term: x.Term}
		y.Term.To = append([]int(nil), x.Term.To...)
		y.Term.Args = append([]int(nil), x.Term.Args...)
		y.Term.Params = append([]int(nil), x.Term.Params...)
		c.Blocks = append(c.Blocks, y)
	}
	return c
}

// Promise 21.2.
func TestWellFormed(t *testing.T) {
	kinds := map[int]int{}
	each(t, 1, 500, func(t *testing.T, r *rand.Rand, b api.Body) {
		for i, x := range b.Blocks {
			for k, s := range x.Stmts {
				kinds[s.Kind]++
				c := copied(b)
				c.Blocks[i].Stmts = append(c.Blocks[i].Stmts[:k], c.Blocks[i].Stmts[k+1:]...)
				if !valid.OK(c) {
					t.Error("without", i, k)
				}
			}
			kinds[-x.Term.Kind]++
		}
		c := copied(b)
		for range 5 {
			c.Bounds = append(c.Bounds, api.Bound{Sup: r.Intn(b.Universals), Sub: r.Intn(b.Universals)})
		}
		if !valid.OK(c) {
			t.Error("with bounds")
		}
	})
	for kind := -api.Call; kind <= api.Dead; kind++ {
		if kinds[kind] < 20 {
			t.Error("there are too few of kind", kind, kinds)
		}
	}
}
