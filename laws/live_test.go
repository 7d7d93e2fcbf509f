package laws

import (
	"math/rand"
	"slices"
	"testing"

	"easement/api"
	"easement/live"
	"easement/tick"
)

// lives tells of each point and local whether it is live there, by the words of chapter 25, done till nothing changes.
func lives(b api.Body) [][]bool {
	next := nexts(b)
	reads, writes := touches(b)
	at := make([][]bool, len(next))
	for n := range next {
		at[n] = make([]bool, len(b.Locals))
	}
	for changed := true; changed; {
		changed = false
		for n := range next {
			for local := range b.Locals {
				now := slices.Contains(reads[n], local)
				for _, m := range next[n] {
					now = now || at[m][local] && !slices.Contains(writes[n], local)
				}
				if now && !at[n][local] {
					at[n][local], changed = true, true
				}
			}
		}
	}
	return at
}

// Promises 25.1 and 25.2.
func TestLive(t *testing.T) {
	each(t, 5, 600, func(t *testing.T, _ *rand.Rand, b api.Body) {
		at := lives(b)
		var c tick.Counter
		l := live.Of(b, &c)
		many := 0
		for n := range at {
			var in []int
			for local := range b.Locals {
				if l.Has(n, local) != at[n][local] || slices.Contains(l.Points(local), n) != at[n][local] {
					t.Error(n, local)
				}
				if at[n][local] {
					in = append(in, local)
				}
			}
			many += len(in)
			if !slices.Equal(l.In(n), in) {
				t.Error(n, l.In(n), in)
			}
		}
		if l.Len() != len(at) || l.Count() != many || c.Of(tick.Live) < len(at) || c.Of(tick.Live) != c.Total() {
			t.Error("counts")
		}
		for i, x := range b.Blocks {
			for k, s := range x.Stmts {
				if s.Kind == api.Use {
					d := copied(b)
					d.Blocks[i].Stmts[k] = api.Stmt{}
					less := live.Of(d, nil)
					for n := range at {
						for _, local := range less.In(n) {
							if !at[n][local] {
								t.Error("more is live", n, local)
							}
						}
					}
				}
			}
		}
	})
}
