/- What is well-formed (layer 21), in plain words. -/
import Derived.Test.YtbennpandomacaaGreatQ21
namespace Go.Proofs.YtbennpandomacaaGreat
open Go.RowKit
set_option linter.unusedVariables false
set_option linter.unnecessarySimpa false
set_option linter.unusedSimpArgs false
abbrev Flt := Int × Int × Int × Int
noncomputable def sE (L : List (List St)) (R : Int) (x : Stm) : Int := ((fn_ref18_Needs x L R).getD ([], 0)).2
noncomputable def tE (a : Ar) (x : Tm) : Int := ((fn_ref19_Needs x a).getD ([], 0)).2
def arOf (b : Bo) : Ar := (((b.2.2.2.2.2.2.length : Nat) : Int), b.2.1, b.2.2.2.1, b.2.2.2.2.1, b.2.2.2.2.2.1)
def vHead (b : Bo) : Flt := if b.1 < 1 ∨ b.2.1 < b.1 then (7, 0, 0, 0) else if 65536 < b.2.1 then (6, 0, 0, 0) else (0, 0, 0, 0)
def vBounds (b : Bo) : Flt := match b.2.2.1.findIdx? (bad1 b.1) with | some k => (7, 1, (k : Int), 0) | none => (0, 0, 0, 0)
def vLoc (b : Bo) : Flt := if b.2.2.2.1 = [] then (14, 2, 0, 0) else match b.2.2.2.1.findIdx? (fun t => !decide (rck b.2.1 t = 0)) with | some k => (rck b.2.1 (b.2.2.2.1.getD k []), 2, (k : Int), 0) | none => (0, 0, 0, 0)
def vRet (b : Bo) : Flt := if rck b.1 b.2.2.2.2.1 = 0 then if shp b.2.2.2.2.1 (b.2.2.2.1.getD 0 []) then (0, 3, 0, 0) else (8, 3, 0, 0) else (rck b.1 b.2.2.2.2.1, 3, 0, 0)
def vSig (b : Bo) : Flt := match b.2.2.2.2.2.1.findIdx? (fun s => !decide (chk s = 0)) with | some k => (chk (b.2.2.2.2.2.1.getD k (0, [], [], [])), 4, (k : Int), 0) | none => (0, 0, 0, 0)
def vBlk (b : Bo) : Flt := if b.2.2.2.2.2.2 = [] then (14, 5, 0, 0) else (0, 0, 0, 0)
noncomputable def blkE (b : Bo) (x : Blk) : Option (Int × Int × Int) :=
  match x.1.findIdx? (fun s => !decide (sE b.2.2.2.1 b.2.1 s = 0)) with
  | some j => some (sE b.2.2.2.1 b.2.1 (x.1.getD j (0, 0, 0, 0, false)), 6, (j : Int))
  | none => if tE (arOf b) x.2 = 0 then none else some (tE (arOf b) x.2, 7, 0)
def fltOf (k : Nat) (o : Option (Int × Int × Int)) : Flt := match o with | some (e, p, j) => (e, p, (k : Int), j) | none => (0, 0, 0, 0)
noncomputable def vCode (b : Bo) : Flt := match b.2.2.2.2.2.2.findIdx? (fun x => (blkE b x).isSome) with | some k => fltOf k (blkE b (b.2.2.2.2.2.2.getD k ([], 0, 0, 0, [], [], []))) | none => (0, 0, 0, 0)
def or0 (a b : Flt) : Flt := if a.1 = 0 then b else a
noncomputable def vck (b : Bo) : Flt := or0 (vHead b) (or0 (vBounds b) (or0 (vLoc b) (or0 (vRet b) (or0 (vSig b) (or0 (vBlk b) (vCode b))))))
theorem rowCheck20 {t : List St} (n : Int) (h : t.length ≤ 20) : fn_row_Check t n = some (rck n t) := rowCheck_eq t n (by omega)
section
variable {b : Bo} (h : Sm b)
include h
theorem stmtE {x : Stm} : ∃ l, fn_stmt_Needs x b.2.2.2.1 b.2.1 = some (l, sE b.2.2.2.1 b.2.1 x) ∧ fn_ref18_Needs x b.2.2.2.1 b.2.1 = some (l, sE b.2.2.2.1 b.2.1 x) := by
  obtain ⟨l, e, h1, h2, _⟩ := stmtNeeds_eq x b.2.2.2.1 b.2.1 h.loc
  have : sE b.2.2.2.1 b.2.1 x = e := by unfold sE; rw [h2]; rfl
  exact ⟨l, by rw [h1, this], by rw [h2, this]⟩
theorem termE {x : Blk} (hx : x ∈ b.2.2.2.2.2.2) : ∃ l, fn_term_Needs x.2 (arOf b) = some (l, tE (arOf b) x.2) ∧ fn_ref19_Needs x.2 (arOf b) = some (l, tE (arOf b) x.2) := by
  obtain ⟨a1, a2, a3⟩ := h.term x hx
  obtain ⟨l, e, h1, h2, _⟩ := needs19 x.2 (arOf b) a1 a2 a3 h.ret h.loc h.sig
  have : tE (arOf b) x.2 = e := by unfold tE; rw [h2]; rfl
  exact ⟨l, by rw [h1, this], by rw [h2, this]⟩
theorem sgl {s : Sg} (hs : s ∈ b.2.2.2.2.2.1) : fn_sig_Check s = some (chk s) := by
  obtain ⟨a1, a2, a3, a4⟩ := h.sig s hs
  exact sigCheck_eq s (by omega) (fun t ht => by have := a4 t ht; omega)
theorem refHead_eq : fn_ref21_head b = some (or0 (vHead b) (vBounds b)) := by
  have h1 := h.bounds
  obtain ⟨u, n, B, L, R, S, X⟩ := b
  unfold fn_ref21_head vHead vBounds or0
  dsimp only at *
  by_cases q : u < 1 ∨ n < u
  · have : (decide (u < 1) || decide (n < u)) = true := by simpa using q
    rw [this, if_pos q]; rfl
  · have : (decide (u < 1) || decide (n < u)) = false := by simpa using q
    rw [this, if_neg q, cond_false]
    by_cases q2 : 65536 < n
    · rw [decide_eq_true q2, if_pos q2]; rfl
    · rw [decide_eq_false q2, if_neg q2, cond_false, decide_eq_false (by omega), cond_false, loop_search (body := fn_ref21_head_l1 (u, n, B, L, R, S, X)) B (bad1 u) (fun k => (.inr (7, 1, (k : Int), 0) : Unit ⊕ Flt)) (.inl ()) ?_ ?_]
      · cases B.findIdx? (bad1 u) <;> rfl
      · intro k hk
        unfold fn_ref21_head_l1
        simp only [dlt hk, cond_true, getN hk, Option.bind_some, w64s hk (by omega : B.length ≤ 9223372036854775807)]
        show cond (bad1 u B[k]) _ _ = _
        cases bad1 u B[k] <;> rfl
      · simp [fn_ref21_head_l1]
theorem refTypes21_eq : fn_ref21_types b = some (or0 (vLoc b) (or0 (vRet b) (vSig b))) := by
  have h1 := h.locals
  have h2 := h.sigs
  have h3 := h.ret
  have h4 := h.loc
  obtain ⟨u, n, B, L, R, S, X⟩ := b
  unfold fn_ref21_types vLoc vRet vSig
  dsimp only at *
  by_cases q : L = []
  · subst q; rfl
  · have q' : ¬ ((L.length : Nat) : Int) = 0 := fun hc => q (List.length_eq_zero_iff.1 (by omega))
    rw [if_neg q, decide_eq_false q', cond_false, decide_eq_false (by omega), cond_false, loop_search (body := fn_ref21_types_l1 (u, n, B, L, R, S, X)) L (fun t => !decide (rck n t = 0)) (fun k => (.inr (rck n (L.getD k []), 2, (k : Int), 0) : Unit ⊕ Flt)) (.inl ()) ?_ ?_]
    · cases hf : L.findIdx? (fun t => !decide (rck n t = 0)) with
      | some k =>
        obtain ⟨hk, h5, _⟩ := List.findIdx?_eq_some_iff_getElem.1 hf
        have e : L.getD k [] = L[k] := by simp [List.getD, hk]
        have : ¬ rck n L[k] = 0 := by simpa using h5
        simp only [or0, e, if_neg this]; rfl
      | none =>
        have hp : 0 < L.length := List.length_pos_iff.2 q
        have e0 : L.getD 0 [] = L[0] := by simp [List.getD, hp]
        simp only [Option.bind_some, refCheck_eq]
        by_cases q2 : rck u R = 0
        · have g0 : getI L 0 = some L[0] := getN (k := 0) hp
          simp only [q2, decide_true, Bool.not_true, cond_false, g0, Option.bind_some, e0]
          rw [refShape_eq _ _ (by have := h4 L[0] (List.getElem_mem hp); omega), shp_comm, Option.bind_some]
          cases hs : shp R L[0] with
          | false => rfl
          | true =>
            simp only [Bool.not_true, cond_false]
            rw [decide_eq_false (by omega), cond_false, loop_search (body := fn_ref21_types_l2 (u, n, B, L, R, S, X)) S (fun s => !decide (chk s = 0)) (fun k => (.inr (chk (S.getD k (0, [], [], [])), 4, (k : Int), 0) : Unit ⊕ Flt)) (.inl ()) ?_ ?_]
            · cases S.findIdx? (fun s => !decide (chk s = 0)) <;> rfl
            · intro k hk
              unfold fn_ref21_types_l2
              have e : S.getD k (0, [], [], []) = S[k] := by simp [List.getD, hk]
              simp only [dlt hk, cond_true, getN hk, Option.bind_some, w64s hk (by omega : S.length ≤ 9223372036854775807), e, show fn_ref17_Check (S[k].1, S[k].2.1, S[k].2.2.1, S[k].2.2.2) = _ from refSCheck_eq S[k]]
              cases (!decide (chk S[k] = 0)) <;> rfl
            · simp [fn_ref21_types_l2]
        · simp [q2, or0]
    · intro k hk
      unfold fn_ref21_types_l1
      have e : L.getD k [] = L[k] := by simp [List.getD, hk]
      simp only [dlt hk, cond_true, getN hk, Option.bind_some, w64s hk (by omega : L.length ≤ 9223372036854775807), e, refCheck_eq]
      cases (!decide (rck n L[k] = 0)) <;> rfl
    · simp [fn_ref21_types_l1]
theorem refBlocks21_eq : fn_ref21_blocks b = some (or0 (vBlk b) (vCode b)) := by
  have h1 := h.blocks
  have h2 := h.many
  have hst := fun x (hx : x ∈ b.2.2.2.2.2.2) => h.stmts hx
  have hT := fun x (hx : x ∈ b.2.2.2.2.2.2) => termE h hx
  have hS := fun x => stmtE h (x := x)
  unfold fn_ref21_blocks vBlk vCode
  by_cases q : b.2.2.2.2.2.2 = []
  · rw [if_pos q, q]; rfl
  · have q' : ¬ ((b.2.2.2.2.2.2.length : Nat) : Int) = 0 := fun hc => q (List.length_eq_zero_iff.1 (by omega))
    rw [if_neg q, decide_eq_false q', cond_false, decide_eq_false (by omega), cond_false]
    have hl1 := loop_nat (body := fn_ref21_blocks_l1 b) (fun k : Nat => (((stm (b.2.2.2.2.2.2.take k) : Nat) : Int), (k : Int))) b.2.2.2.2.2.2.length (b := .inl ()) ?_ ?_
    · have hl1' : loop (fn_ref21_blocks_l1 b) (0, 0) = some (.inl ()) := by simpa [stm] using hl1
      rw [hl1', Option.bind_some]
      dsimp only
      rw [loop_search (body := fn_ref21_blocks_l3 b) b.2.2.2.2.2.2 (fun x => (blkE b x).isSome) (fun k => (.inr (fltOf k (blkE b (b.2.2.2.2.2.2.getD k ([], 0, 0, 0, [], [], [])))) : Unit ⊕ Flt)) (.inl ()) ?_ ?_]
      · cases b.2.2.2.2.2.2.findIdx? (fun x => (blkE b x).isSome) <;> rfl
      · intro k hk
        unfold fn_ref21_blocks_l3
        have e : b.2.2.2.2.2.2.getD k ([], 0, 0, 0, [], [], []) = b.2.2.2.2.2.2[k] := by simp [List.getD, hk]
        obtain ⟨l, _, hT'⟩ := hT _ (List.getElem_mem hk)
        have hst' := hst _ (List.getElem_mem hk)
        simp only [dlt hk, cond_true, getN hk, Option.bind_some, w64s hk (by omega : b.2.2.2.2.2.2.length ≤ 9223372036854775807), e]
        generalize b.2.2.2.2.2.2[k] = x at *
        rw [loop_search (body := fn_ref21_blocks_l2 b k x) x.1 (fun s => !decide (sE b.2.2.2.1 b.2.1 s = 0)) (fun j => (.inr (.inr (.inr (sE b.2.2.2.1 b.2.1 (x.1.getD j (0, 0, 0, 0, false)), 6, (k : Int), (j : Int)))) : Unit ⊕ (Int ⊕ (Unit ⊕ Flt)))) (.inl ()) ?_ ?_]
        · unfold blkE
          cases hf : x.1.findIdx? (fun s => !decide (sE b.2.2.2.1 b.2.1 s = 0)) with
          | some j => rfl
          | none =>
            simp only [Option.bind_some]
            rw [show fn_ref19_Needs (x.2.1, x.2.2.1, x.2.2.2.1, x.2.2.2.2.1, x.2.2.2.2.2.1, x.2.2.2.2.2.2) (((b.2.2.2.2.2.2.length : Nat) : Int), b.2.1, b.2.2.2.1, b.2.2.2.2.1, b.2.2.2.2.2.1) = _ from hT', Option.bind_some]
            by_cases q3 : tE (arOf b) x.2 = 0
            · simp [q3]
            · simp [q3, fltOf]
        · intro j hj
          obtain ⟨l, _, hS'⟩ := hS x.1[j]
          have e2 : x.1.getD j (0, 0, 0, 0, false) = x.1[j] := by simp [List.getD, hj]
          unfold fn_ref21_blocks_l2
          simp only [dlt hj, cond_true, getN hj, Option.bind_some, w64s hj (by omega : x.1.length ≤ 9223372036854775807), e2, show fn_ref18_Needs (x.1[j].1, x.1[j].2.1, x.1[j].2.2.1, x.1[j].2.2.2.1, x.1[j].2.2.2.2) b.2.2.2.1 b.2.1 = _ from hS']
          cases (!decide (sE b.2.2.2.1 b.2.1 x.1[j] = 0)) <;> rfl
        · simp [fn_ref21_blocks_l2]
      · simp [fn_ref21_blocks_l3]
    · intro k hk
      have a1 := stm_snoc hk
      have a2 := sum_take (fun x : Blk => x.1.length) b.2.2.2.2.2.2 (k + 1)
      have a3 : stm (b.2.2.2.2.2.2.take (k + 1)) ≤ stm b.2.2.2.2.2.2 := a2
      unfold fn_ref21_blocks_l1
      simp only [dlt hk, cond_true, getN hk, Option.bind_some, w64s hk (by omega : b.2.2.2.2.2.2.length ≤ 9223372036854775807)]
      rw [w64 (by omega) (by omega), decide_eq_false (by omega), cond_false, a1]
      simp
    · unfold fn_ref21_blocks_l1
      simp
theorem refVCheck_eq : fn_ref21_Check b = some (vck b) := by
  unfold fn_ref21_Check vck
  rw [show fn_ref21_head (b.1, b.2.1, b.2.2.1, b.2.2.2.1, b.2.2.2.2.1, b.2.2.2.2.2.1, b.2.2.2.2.2.2) = _ from refHead_eq h, show fn_ref21_types (b.1, b.2.1, b.2.2.1, b.2.2.2.1, b.2.2.2.2.1, b.2.2.2.2.2.1, b.2.2.2.2.2.2) = _ from refTypes21_eq h, show fn_ref21_blocks (b.1, b.2.1, b.2.2.1, b.2.2.2.1, b.2.2.2.2.1, b.2.2.2.2.2.1, b.2.2.2.2.2.2) = _ from refBlocks21_eq h]
  generalize vHead b = v1
  generalize vBounds b = v2
  generalize vLoc b = v3
  generalize vRet b = v4
  generalize vSig b = v5
  generalize or0 (vBlk b) (vCode b) = v6
  simp only [Option.bind_some]
  have key : ∀ a c : Flt, (cond (!decide ((or0 a c).1 = 0)) (some ((or0 a c).1, (or0 a c).2.1, (or0 a c).2.2.1, (or0 a c).2.2.2)) none : Option Flt) = (cond (!decide ((or0 a c).1 = 0)) (some (or0 a c)) none) := fun a c => rfl
  unfold or0
  by_cases q1 : v1.1 = 0 <;> by_cases q2 : v2.1 = 0 <;> by_cases q3 : v3.1 = 0 <;> by_cases q4 : v4.1 = 0 <;> by_cases q5 : v5.1 = 0 <;> simp [q1, q2, q3, q4, q5]
end
end Go.Proofs.YtbennpandomacaaGreat
