package text

import (
	"math"
	"slices"

	"easement/api"
	"easement/numeral"
)

// What a parser is behind.
const (
	atBegin = iota
	behindRegions
	behindBounds // or a local
	behindGives
	behindSig
	behindNeeds // or an argument
	inBlock
	behindBlock
)

// parser takes a body's lines, one by one.
type parser struct {
	body api.Body
	at   int
}

// mayStand is whether a line that begins with a word may stand where the parser is.
func (p *parser) mayStand(word string) bool {
	var words []string
	switch p.at {
	case atBegin:
		words = []string{"regions"}
	case behindRegions:
		words = []string{"bounds"}
	case behindBounds:
		words = []string{"local", "gives"}
	case behindGives:
		words = []string{"sig", "block"}
	case behindSig:
		words = []string{"needs"}
	case behindNeeds:
		words = []string{"arg", "sig", "block"}
	case inBlock:
		words = []string{"nop", "assign", "borrow", "reborrow", "use", "dead", "goto", "switch", "return", "call"}
	case behindBlock:
		words = []string{"block"}
	}
	return slices.Contains(words, word)
}

// mayEnd is whether all lines are there that have to be.
func (p *parser) mayEnd() bool {
	return p.at == behindGives || p.at == behindNeeds || p.at == behindBlock
}

// many is how many words a line has at least, and at most, by its first one.
func many(word string) (int, int) {
	switch word {
	case "bounds", "needs":
		return 1, math.MaxInt
	case "block", "nop", "return":
		return 1, 1
	case "local", "gives", "arg", "use", "dead", "goto":
		return 2, 2
	case "regions", "sig", "assign", "switch":
		return 3, 3
	case "borrow", "reborrow":
		return 4, 5
	}
	return 6, 6 // call
}

// line takes a line.
func (p *parser) line(words []string) api.Errno {
	least, most := many(words[0])
	if !p.mayStand(words[0]) || len(words) < least || len(words) > most {
		return api.ErrForm
	}
	r := &reader{left: words[1:]}
	if p.at == inBlock {
		p.code(words, r)
	} else {
		p.head(words[0], r)
	}
	return r.e
}

// head takes a line outside blocks, or that begins one.
func (p *parser) head(word string, r *reader) {
	b := &p.body
	switch word {
	case "regions":
		b.Universals = r.number()
		b.Regions = r.number()
		p.at = behindRegions
	case "bounds":
		b.Bounds = r.bounds()
		p.at = behindBounds
	case "local":
		b.Locals = append(b.Locals, r.typ())
	case "gives":
		b.Ret = r.typ()
		p.at = behindGives
	case "sig":
		var s api.Sig
		s.Params = r.number()
		s.Ret = r.typ()
		b.Sigs = append(b.Sigs, s)
		p.at = behindSig
	case "needs":
		b.Sigs[len(b.Sigs)-1].Bounds = r.bounds()
		p.at = behindNeeds
	case "arg":
		s := &b.Sigs[len(b.Sigs)-1]
		s.Args = append(s.Args, r.typ())
	case "block":
		b.Blocks = append(b.Blocks, api.Block{})
		p.at = inBlock
	}
}

// code takes a line in a block.
func (p *parser) code(words []string, r *reader) {
	x := &p.body.Blocks[len(p.body.Blocks)-1]
	if t, ends := terminator(words[0], r); ends {
		x.Term = t
		p.at = behindBlock
		return
	}
	x.Stmts = append(x.Stmts, statement(words, r))
}

// terminator takes a terminator's words, if the first one is one's.
func terminator(word string, r *reader) (api.Term, bool) {
	var t api.Term
	switch word {
	case "goto":
		t.Kind = api.Goto
		t.To = r.list()
	case "switch":
		t.Kind = api.Switch
		t.To = r.list()
		t.Args = r.list()
	case "return":
		t.Kind = api.Return
	case "call":
		t.Kind = api.Call
		t.Sig = r.number()
		t.Dst = r.number()
		t.To = r.list()
		t.Params = r.list()
		t.Args = r.list()
	default:
		return t, false
	}
	return t, true
}

// statement takes a statement's words.
func statement(words []string, r *reader) api.Stmt {
	var s api.Stmt
	switch words[0] {
	case "assign":
		s.Kind = api.Assign
		s.Dst = r.number()
		s.Src = r.number()
	case "borrow", "reborrow":
		s.Kind = api.Borrow
		if words[0] == "reborrow" {
			s.Kind = api.Reborrow
		}
		s.Mut = len(words) == 5
		if s.Mut && words[4] != "mut" { // a word too many
			r.e = api.ErrForm
		}
		s.Dst = r.number()
		s.Src = r.number()
		s.Region = r.number()
	case "use":
		s.Kind = api.Use
		s.Src = r.number()
	case "dead":
		s.Kind = api.Dead
		s.Dst = r.number()
	}
	return s
}

// reader is the words that are left of a line, and the first error.
type reader struct {
	left []string
	e    api.Errno
}

// take takes a word by what reads one; the zero one behind an error.
func take[T any](r *reader, read func(string) (T, api.Errno)) T {
	var v T
	if r.e != api.OK {
		return v
	}
	v, r.e = read(r.left[0])
	r.left = r.left[1:]
	return v
}

// number takes a number.
func (r *reader) number() int {
	return take(r, func(s string) (int, api.Errno) { return numeral.Parse(s, api.MaxBits) })
}

// typ takes a type.
func (r *reader) typ() api.Type {
	return take(r, ParseType)
}

// list takes a list.
func (r *reader) list() []int {
	return take(r, func(s string) ([]int, api.Errno) {
		if s == "-" {
			return nil, api.OK
		}
		return numeral.ParseList(s, api.MaxBits)
	})
}

// bounds takes all words that are left as bounds.
func (r *reader) bounds() []api.Bound {
	var l []api.Bound
	for len(r.left) > 0 && r.e == api.OK {
		l = append(l, take(r, func(s string) (api.Bound, api.Errno) { return numeral.ParsePair(s, api.MaxBits) }))
	}
	return l
}
