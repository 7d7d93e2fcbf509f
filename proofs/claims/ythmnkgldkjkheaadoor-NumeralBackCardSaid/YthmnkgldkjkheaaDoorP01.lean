/- What layer 1's laws compute is true. -/
import Derived.Test.YthmnkgldkjkheaaDoorNp
namespace Go.Proofs.YthmnkgldkjkheaaDoor
open Go.RowKit Nu
set_option linter.unusedVariables false
set_option linter.unnecessarySimpa false
set_option linter.unusedSimpArgs false
set_option maxRecDepth 20000
theorem awake01 : fn_law01_awake = some true := by
  unfold fn_law01_awake
  have t1 : text 3 = [51] := by decide +kernel
  have t2 : text 5 = [53] := by decide +kernel
  rw [nParse_eq _ 9 (by decide) (by decide) (by decide), nParse_eq _ 9 (by decide) (by decide) (by decide), nList_read _ 9 (by decide) (by decide) (by decide), nPair_eq _ (by decide) (by decide)]
  have p1 : parse [48, 48, 55] 9 = (0, 3) := by decide +kernel
  have p2 : parse [49, 48] 9 = (0, 5) := by decide +kernel
  have p3 : readList [49, 44] 9 = ([], 3) := by decide +kernel
  have p4 : pair (3, 5) = [51, 58, 53] := by unfold pair; rw [t1, t2]; rfl
  rw [p1, p2, p3, p4]; rfl
theorem okAll {l : List Int} (h : Tp.Ok (.sl (.int .i64)) l) : ∀ x ∈ l, x ≤ 9223372036854775807 := fun x hx => (ok64 (h.2 x hx)).2
theorem NumeralWrites_true (xa : Int) (xb : (Int × Int)) (xc : (List Int)) (k0 : Tp.Ok (.int .i64) xa) (k1 : Tp.Ok (.cons (.int .i64) (.one (.int .i64))) xb) (k2 : Tp.Ok (.sl (.int .i64)) xc) : fn_law01_NumeralWrites xa xb xc = some true := by
  unfold fn_law01_NumeralWrites
  rw [awake01]
  by_cases hl : 100 < xc.length
  · have : decide (100 < (((xc.length : Nat) : Int))) = true := decide_eq_true (by omega)
    rw [this]; rfl
  · have : decide (100 < (((xc.length : Nat) : Int))) = false := decide_eq_false (by omega)
    have h0 := (ok64 k0).2
    have h1 := (ok64 k1.1).2
    have h2 := (ok64 k1.2).2
    rw [this, cond_false, nText_eq _ h0, rText_eq _ h0, nPair_eq _ h1 h2, rPair_eq _ h1 h2, nList_eq _ (by omega) (okAll k2), rList_eq _ (by omega) (okAll k2)]
    simp
theorem NumeralReads_true (xa : (List UInt8)) (xb : Int) (k0 : Tp.Ok .str xa) (k1 : Tp.Ok (.int .i64) xb) : fn_law01_NumeralReads xa xb = some true := by
  unfold fn_law01_NumeralReads
  rw [awake01]
  by_cases hl : 500 < xa.length
  · have : decide (500 < (((xa.length : Nat) : Int))) = true := decide_eq_true (by omega)
    rw [this]; rfl
  · have : decide (500 < (((xa.length : Nat) : Int))) = false := decide_eq_false (by omega)
    obtain ⟨h1, h2⟩ := ok64 k1
    have hn : xa.length ≤ 1000000 := by omega
    rw [this, cond_false, nParse_eq _ _ hn h1 h2, rParse_eq _ _ hn h2, nPair_read _ _ hn h1 h2, rPair_read _ _ hn h2, nList_read _ _ hn h1 h2, rList_read _ _ hn h2]
    simp only [Option.bind_some]
    rw [same01_eq _ _ (by have := readList_len (s := xa) (most := xb); omega)]
    simp
theorem below_loop (l : List Int) (hl : l.length ≤ 100) : loop (fn_law01_NumeralBack_l1 l) (false, 0) = some (l.any fun x => decide (x < 0)) := by
  have key := loop_nat (body := fn_law01_NumeralBack_l1 l) (fun k : Nat => ((l.take k).any fun x => decide (x < 0), (k : Int))) l.length (b := l.any fun x => decide (x < 0)) ?_ ?_
  · exact key
  · intro k hk
    unfold fn_law01_NumeralBack_l1
    rw [take_snoc hk, List.any_append]
    simp only [dlt hk, cond_true, getN hk, Option.bind_some, w64s hk (by omega), List.any_cons, List.any_nil, Bool.or_false]
    cases (l.take k).any fun x => decide (x < 0) <;> simp
  · unfold fn_law01_NumeralBack_l1
    simp only [dge (show ¬ l.length < l.length by omega), cond_false, List.take_length]
theorem NumeralBack_true (xa : Int) (xb : (Int × Int)) (xc : (List Int)) (xd : (List UInt8)) (k0 : Tp.Ok (.int .i64) xa) (k1 : Tp.Ok (.cons (.int .i64) (.one (.int .i64))) xb) (k2 : Tp.Ok (.sl (.int .i64)) xc) (k3 : Tp.Ok .str xd) : fn_law01_NumeralBack xa xb xc xd = some true := by
  unfold fn_law01_NumeralBack
  rw [awake01]
  by_cases hl : 100 < xc.length ∨ 500 < xd.length
  · have : (decide (100 < (((xc.length : Nat) : Int))) || decide (500 < (((xd.length : Nat) : Int)))) = true := by
      simp only [Bool.or_eq_true, decide_eq_true_eq]; omega
    rw [this]; rfl
  · have : (decide (100 < (((xc.length : Nat) : Int))) || decide (500 < (((xd.length : Nat) : Int)))) = false := by
      rw [Bool.eq_false_iff]; simp only [ne_eq, Bool.or_eq_true, decide_eq_true_eq]; omega
    have h0 := (ok64 k0).2
    have h1 := (ok64 k1.1).2
    have h2 := (ok64 k1.2).2
    have m : (-9223372036854775808 : Int) ≤ 9223372036854775807 := by decide
    have m2 : (9223372036854775807 : Int) ≤ 9223372036854775807 := by decide
    have t0 := text_len h0
    have pl : (pair (xb.1, xb.2)).length ≤ 100 := by
      unfold pair; split
      · simp
      · have a := text_len h1; have b := text_len h2; simp; omega
    have ll := glue_len (okAll k2)
    have hd : xd.length ≤ 1000000 := by omega
    rw [this, cond_false, nText_eq _ h0]
    simp only [Option.bind_some]
    rw [nParse_eq (text xa) _ (by omega) m m2, nPair_eq _ h1 h2]
    simp only [Option.bind_some]
    rw [nPair_read (pair (xb.1, xb.2)) _ (by omega) m m2, nList_eq _ (by omega) (okAll k2)]
    simp only [Option.bind_some]
    rw [nList_read (lst xc) _ (by omega) m m2, below_loop xc (by omega), nParse_eq _ _ hd m m2, nPair_read _ _ hd m m2, nList_read _ _ hd m m2]
    simp only [Option.bind_some]
    -- the first test
    have c1 : ((((decide (0 ≤ xa)) && ((!decide ((parse (text xa) 9223372036854775807).1 = xa)) || (!decide ((parse (text xa) 9223372036854775807).2 = 0)))) || ((decide (xa < 0)) && (!decide ((parse (text xa) 9223372036854775807).2 = 3))))) = false := by
      by_cases hx : 0 ≤ xa
      · have p := parse_text hx 9223372036854775807
        rw [if_neg (by omega)] at p
        have : ¬ xa < 0 := by omega
        simp [p, this]
      · have hx' : xa < 0 := by omega
        rw [text_neg hx']
        have : parse [] 9223372036854775807 = (0, 3) := rfl
        simp [this, hx]
    have c2 : (((decide (0 ≤ xb.1)) && (decide (0 ≤ xb.2))) && ((!((decide ((readPair (pair (xb.1, xb.2)) 9223372036854775807).1 = xb.1)) && ((decide ((readPair (pair (xb.1, xb.2)) 9223372036854775807).2.1 = xb.2))))) || (!decide ((readPair (pair (xb.1, xb.2)) 9223372036854775807).2.2 = 0)))) = false := by
      by_cases hx : 0 ≤ xb.1
      · by_cases hy : 0 ≤ xb.2
        · have p := readPair_pair (b := (xb.1, xb.2)) (most := 9223372036854775807) hx hy h1 h2
          simp [p]
        · simp [hy]
      · simp [hx]
    rw [c1, c2]
    simp only [Bool.or_self, cond_false]
    -- the list
    have c3 : (xc.any fun x => decide (x < 0)) = false → readList (lst xc) 9223372036854775807 = (xc, 0) := by
      intro hb
      rw [List.any_eq_false] at hb
      exact readList_lst (fun x hx => ⟨by have := hb x hx; simp at this; exact this, okAll k2 x hx⟩)
    have c4 : ((cond (!(xc.any fun x => decide (x < 0))) ((fn_ref01_Same (readList (lst xc) 9223372036854775807).1 xc).bind fun t673 => some ((!t673) || (!decide ((readList (lst xc) 9223372036854775807).2 = 0)))) (some (false))) : Option Bool) = some false := by
      cases hb : xc.any fun x => decide (x < 0) with
      | true => rfl
      | false =>
        rw [c3 hb, same01_eq _ _ (by simp only; omega)]
        simp
    rw [c4]
    simp only [Option.bind_some, cond_false]
    -- back
    have c5 : (cond (!decide ((parse xd 9223372036854775807).2 = 0)) (some (true)) ((fn_numeral_Text (parse xd 9223372036854775807).1).bind fun s720 => some (decide (s720 = xd))) : Option Bool) = some true := by
      by_cases hx : (parse xd 9223372036854775807).2 = 0
      · obtain ⟨_, a1, a2, a3⟩ := parse_ok hx
        simp only [hx, decide_true, Bool.not_true, cond_false]
        rw [nText_eq _ a3, Option.bind_some, a1]; simp
      · simp [hx]
    have c6 : (cond (!decide ((readPair xd 9223372036854775807).2.2 = 0)) (some (true)) ((fn_numeral_Pair ((readPair xd 9223372036854775807).1, (readPair xd 9223372036854775807).2.1)).bind fun s756 => some (decide (s756 = xd))) : Option Bool) = some true := by
      by_cases hx : (readPair xd 9223372036854775807).2.2 = 0
      · obtain ⟨a1, a2, a3, a4, a5⟩ := readPair_ok hx
        simp only [hx, decide_true, Bool.not_true, cond_false]
        rw [nPair_eq _ a3 a5, Option.bind_some, a1]; simp
      · simp [hx]
    rw [c5, c6]
    simp only [Option.bind_some, cond_true]
    have c7 : (cond (!decide ((readList xd 9223372036854775807).2 = 0)) (some (true)) ((fn_numeral_List (readList xd 9223372036854775807).1).bind fun s804 => some (decide (s804 = xd))) : Option Bool) = some true := by
      by_cases hx : (readList xd 9223372036854775807).2 = 0
      · obtain ⟨a1, a2, a3⟩ := readList_ok hx
        simp only [hx, decide_true, Bool.not_true, cond_false]
        rw [nList_any _ (by omega) (fun x hx => (a2 x hx).2), Option.bind_some, a1]; simp
      · simp [hx]
    rw [c7]
    rfl
end Go.Proofs.YthmnkgldkjkheaaDoor
