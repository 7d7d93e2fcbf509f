package laws

import (
	"math/rand"
	"slices"
	"testing"

	"easement/api"
	"easement/cons"
	"easement/prov"
	"easement/tick"
)

// Promises 27.1 and 27.3.
func TestCons(t *testing.T) {
	each(t, 6, 400, func(t *testing.T, _ *rand.Rand, b api.Body) {
		var c tick.Counter
		l := cons.Of(b, &c)
		points := len(nexts(b))
		if n := c.Of(tick.Cons); n < points || n > points+len(l) || n != c.Total() {
			t.Error("steps", n)
		}
		var all []api.Edge
		for n := range points {
			all = append(all, cons.At(b, n)...)
		}
		if !slices.Equal(all, l) {
			t.Error("points")
		}
		for i, x := range l {
			if !prov.Right(x.From) || x.Sup < 0 || x.Sup >= b.Regions || x.Sub < 0 || x.Sub >= b.Regions {
				t.Error("right", x)
			}
			if i > 0 && (x.From.Block < l[i-1].From.Block || x.From.Block == l[i-1].From.Block && x.From.Index < l[i-1].From.Index) {
				t.Error("rising", x)
			}
		}
		for i, x := range b.Blocks {
			for k := range x.Stmts {
				d := copied(b)
				d.Blocks[i].Stmts[k] = api.Stmt{}
				left := slices.DeleteFunc(slices.Clone(l), func(x api.Edge) bool { return x.From.Block == i && x.From.Index == k })
				if !slices.Equal(cons.Of(d, nil), left) {
					t.Error("without", i, k)
				}
			}
		}
	})
}
