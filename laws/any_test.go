package laws

import (
	"math"
	"math/rand"
	"strings"
	"testing"

	"easement/amend"
	"easement/api"
	"easement/blame"
	"easement/body"
	"easement/bound"
	"easement/check"
	"easement/cons"
	"easement/decl"
	"easement/edit"
	"easement/flow"
	"easement/judge"
	"easement/live"
	"easement/model"
	"easement/point"
	"easement/proof"
	"easement/prov"
	"easement/report"
	"easement/script"
	"easement/seed"
	"easement/sig"
	"easement/solve"
	"easement/stmt"
	"easement/term"
	"easement/text"
	"easement/touch"
	"easement/valid"
)

// odd is a number, which is often one at an edge.
func odd(r *rand.Rand) int {
	l := []int{0, 1, 2, 3, -1, 16, 17, api.MaxMany, api.MaxBits, 1 << 31, 1 << 32, math.MaxInt, math.MinInt}
	if r.Intn(3) > 0 {
		return l[r.Intn(4)]
	}
	return l[r.Intn(len(l))]
}

func odds(r *rand.Rand) []int {
	var l []int
	for range r.Intn(3) {
		l = append(l, odd(r))
	}
	return l
}

func oddBounds(r *rand.Rand) []api.Bound {
	var l []api.Bound
	for range r.Intn(3) {
		l = append(l, api.Bound{Sup: odd(r), Sub: odd(r)})
	}
	return l
}

func oddType(r *rand.Rand) api.Type {
	var t api.Type
	for range r.Intn(4) {
		t.Slots = append(t.Slots, api.Slot{Region: odd(r), Inv: r.Intn(2) > 0})
	}
	return t
}

func oddStmt(r *rand.Rand) api.Stmt {
	return api.Stmt{Kind: odd(r), Dst: odd(r), Src: odd(r), Region: odd(r), Mut: r.Intn(2) > 0}
}

func oddTerm(r *rand.Rand) api.Term {
	return api.Term{Kind: odd(r), Sig: odd(r), Dst: odd(r), To: odds(r), Args: odds(r), Params: odds(r)}
}

func oddSig(r *rand.Rand) api.Sig {
	return api.Sig{Params: odd(r), Bounds: oddBounds(r), Args: []api.Type{oddType(r)}, Ret: oddType(r)}
}

func oddEdges(r *rand.Rand) []api.Edge {
	var l []api.Edge
	for range r.Intn(4) {
		l = append(l, api.Edge{Sup: odd(r), Sub: odd(r), From: api.Prov{Block: odd(r), Index: odd(r), Kind: odd(r), Slot: odd(r)}})
	}
	return l
}

// oddBody is a well-formed body with something put awry, or nothing like one.
func oddBody(r *rand.Rand) api.Body {
	b := random(r)
	for range 1 + r.Intn(2) {
		switch r.Intn(9) {
		case 0:
			b.Universals = odd(r)
		case 1:
			b.Regions = odd(r)
		case 2:
			b.Bounds = append(b.Bounds, oddBounds(r)...)
		case 3:
			b.Locals = append(b.Locals[:len(b.Locals)-1], oddType(r))
		case 4:
			b.Ret = oddType(r)
		case 5:
			b.Sigs = append(b.Sigs, oddSig(r))
		case 6:
			b.Blocks[0].Stmts = append(b.Blocks[0].Stmts, oddStmt(r))
		case 7:
			b.Blocks[0].Term = oddTerm(r)
		case 8:
			b = api.Body{Universals: odd(r), Regions: odd(r), Locals: []api.Type{oddType(r)}, Blocks: []api.Block{{}}}
		}
	}
	return b
}

// Promise 1: whatever is handed in, each call ends, and none panics.
func TestAnyBody(t *testing.T) {
	r := rand.New(rand.NewSource(30))
	wrong := 0
	for range 1500 {
		b, l := oddBody(r), oddEdges(r)
		kept := copied(b)
		n, m := odd(r), odd(r)
		ok := valid.OK(b)
		if !ok {
			wrong++
		}
		v := solve.Of(b, l, nil)
		p, f, x, y := point.New(b), flow.New(b), touch.New(b), live.Of(b, nil)
		if (p.Len() > 0) != ok || f.Points().Len() != p.Len() || x.Len() != p.Len() || y.Len() != p.Len() || (seed.Size(b) > 0) != ok || (len(seed.Of(b, nil)) > 0) != ok {
			t.Fatal("points", b)
		}
		p.At(n)
		p.Of(n, m)
		f.Next(n)
		f.Back(n)
		f.Order()
		x.Of(n)
		y.Points(n)
		y.Has(n, m)
		seed.Points(b, n)
		seed.End(b, n)
		cons.At(b, n)
		cons.Lines(l)
		v.Points(n)
		v.Ends(n)
		v.Same(n, m)
		model.Agrees(b, l, v)
		model.Loose(b, l)
		model.Outlives(b, l)
		decl.Of(n, oddBounds(r)).Has(n, m)
		judge.Of(b, v, decl.Of(m, nil), nil)
		if !ok && (len(cons.Of(b, nil)) > 0 || len(judge.Missing(b)) > 0 || judge.With(b, nil) || len(bound.Suggest(b)) > 0 || check.Of(b, nil).Verdict != 0) {
			t.Fatal("not well-formed", b)
		}
		finding := api.Finding{Sup: n, Sub: m, Path: odds(r)}
		blame.Of(b, l, oddBounds(r), nil)
		blame.Right(b, l, finding)
		blame.Text(l, finding)
		bound.Least(min(n, 100), oddBounds(r), oddBounds(r))
		amend.Add(b, oddBounds(r))
		proof.Verify(b, string([]byte{byte(n), byte(m), byte(r.Intn(256))}))
		edit.All(b, edit.Edit{Kind: 1 + r.Intn(8), I: odd(r), K: odd(r), N: odd(r)})
		text.Print(b)
		body.Put(b)
		sig.Call(oddSig(r), odds(r), []api.Type{oddType(r)}, oddType(r))
		stmt.Needs(oddStmt(r), b.Locals, n)
		stmt.Put(oddStmt(r))
		term.Needs(oddTerm(r), term.Around{Blocks: n, Regions: m, Locals: b.Locals, Ret: b.Ret, Sigs: b.Sigs})
		term.Put(oddTerm(r))
		prov.Text(api.Prov{Block: n, Index: m, Kind: odd(r)})
		report.Run(script.Script{Body: b, Cmds: []script.Cmd{{Kind: n, N: [4]int{m, odd(r), odd(r), odd(r)}}, {Kind: r.Intn(10), N: [4]int{m, odd(r), odd(r), odd(r)}}}})
		if !body.Same(b, kept) {
			t.Fatal("changed", b)
		}
	}
	if wrong < 500 {
		t.Error("too few are wrong", wrong)
	}
}

// Promise 1, of scripts' texts: what is told hangs on the text alone.
func TestAnyText(t *testing.T) {
	told := 0
	const signs = "0123 \n-:/!,t"
	each(t, 31, 300, func(t *testing.T, r *rand.Rand, b api.Body) {
		shown := script.Show(script.Script{Body: b, Cmds: commands(r)})
		for range 10 {
			bytes := []byte(shown)
			bytes[r.Intn(len(bytes))] = signs[r.Intn(len(signs))]
			got := report.Text(string(bytes))
			if got != report.Text(string(bytes)) {
				t.Error(string(bytes))
			}
			if !strings.HasPrefix(got, "script: ") {
				told++
			}
		}
	})
	if told < 100 {
		t.Error("too few are scripts", told)
	}
}
