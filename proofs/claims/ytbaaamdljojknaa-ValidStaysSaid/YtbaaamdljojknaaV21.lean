/- What is well-formed (layer 21), in plain words. -/
import Derived.Test.YtbaaamdljojknaaQ21
namespace Go.Proofs.Ytbaaamdljojknaa
open Go.RowKit
set_option linter.unusedVariables false
set_option linter.unnecessarySimpa false
set_option linter.unusedSimpArgs false
abbrev Flt := Int × Int × Int × Int
noncomputable def sE (L : List (List St)) (R : Int) (x : Stm) : Int := ((fn_ref18_Needs x L R).getD ([], 0)).2
noncomputable def tE (a : Ar) (x : Tm) : Int := ((fn_ref19_Needs x a).getD ([], 0)).2
def arOf (b : Bo) : Ar := (((b.2.2.2.2.2.2.length : Nat) : Int), b.2.1, b.2.2.2.1, b.2.2.2.2.1, b.2.2.2.2.2.1)
def vHead (b : Bo) : Flt := if b.1 < 1 ∨ b.2.1 < b.1 then (7, 0, 0, 0) else if 65536 < b.2.1 then (6, 0, 0, 0) else (0, 0, 0, 0)
def vBounds (b : Bo) : Flt := match b.2.2.1.findIdx? (bad1 b.1) with | some k => (7, 1, (k : Int), 0) | none => (0, 0, 0, 0)
def vLoc (b : Bo) : Flt := if b.2.2.2.1 = [] then (14, 2, 0, 0) else match b.2.2.2.1.findIdx? (fun t => !decide (rck b.2.1 t = 0)) with | some k => (rck b.2.1 (b.2.2.2.1.getD k []), 2, (k : Int), 0) | none => (0, 0, 0, 0)
def vRet (b : Bo) : Flt := if rck b.1 b.2.2.2.2.1 = 0 then if shp b.2.2.2.2.1 (b.2.2.2.1.getD 0 []) then (0, 3, 0, 0) else (8, 3, 0, 0) else (rck b.1 b.2.2.2.2.1, 3, 0, 0)
def vSig (b : Bo) : Flt := match b.2.2.2.2.2.1.findIdx? (fun s => !decide (chk s = 0)) with | some k => (chk (b.2.2.2.2.2.1.getD k (0, [], [], [])), 4, (k : Int), 0) | none => (0, 0, 0, 0)
def vBlk (b : Bo) : Flt := if b.2.2.2.2.2.2 = [] then (14, 5, 0, 0) else (0, 0, 0, 0)
noncomputable def blkE (b : Bo) (x : Blk) : Option (Int × Int × Int) :=
  match x.1.findIdx? (fun s => !decide (sE b.2.2.2.1 b.2.1 s = 0)) with
  | some j => some (sE b.2.2.2.1 b.2.1 (x.1.getD j (0, 0, 0, 0, false)), 6, (j : Int))
  | none => if tE (arOf b) x.2 = 0 then none else some (tE (arOf b) x.2, 7, 0)
def fltOf (k : Nat) (o : Option (Int × Int × Int)) : Flt := match o with | some (e, p, j) => (e, p, (k : Int), j) | none => (0, 0, 0, 0)
noncomputable def vCode (b : Bo) : Flt := match b.2.2.2.2.2.2.findIdx? (fun x => (blkE b x).isSome) with | some k => fltOf k (blkE b (b.2.2.2.2.2.2.getD k ([], 0, 0, 0, [], [], []))) | none => (0, 0, 0, 0)
def or0 (a b : Flt) : Flt := if a.1 = 0 then b else a
noncomputable def vck (b : Bo) : Flt := or0 (vHead b) (or0 (vBounds b) (or0 (vLoc b) (or0 (vRet b) (or0 (vSig b) (or0 (vBlk b) (vCode b))))))
theorem rowCheck20 {t : List St} (n : Int) (h : t.length ≤ 20) : fn_row_Check t n = some (rck n t) := rowCheck_eq t n (by omega)
section
variable {b : Bo} (h : Sm b)
include h
theorem stmtE {x : Stm} : ∃ l, fn_stmt_Needs x b.2.2.2.1 b.2.1 = some (l, sE b.2.2.2.1 b.2.1 x) ∧ fn_ref18_Needs x b.2.2.2.1 b.2.1 = some (l, sE b.2.2.2.1 b.2.1 x) := by
  obtain ⟨l, e, h1, h2, _⟩ := stmtNeeds_eq x b.2.2.2.1 b.2.1 h.loc
  have : sE b.2.2.2.1 b.2.1 x = e := by unfold sE; rw [h2]; rfl
  exact ⟨l, by rw [h1, this], by rw [h2, this]⟩
theorem termE {x : Blk} (hx : x ∈ b.2.2.2.2.2.2) : ∃ l, fn_term_Needs x.2 (arOf b) = some (l, tE (arOf b) x.2) ∧ fn_ref19_Needs x.2 (arOf b) = some (l, tE (arOf b) x.2) := by
  obtain ⟨a1, a2, a3⟩ := h.term x hx
  obtain ⟨l, e, h1, h2, _⟩ := needs19 x.2 (arOf b) a1 a2 a3 h.ret h.loc h.sig
  have : tE (arOf b) x.2 = e := by unfold tE; rw [h2]; rfl
  exact ⟨l, by rw [h1, this], by rw [h2, this]⟩
theorem sgl {s : Sg} (hs : s ∈ b.2.2.2.2.2.1) : fn_sig_Check s = some (chk s) := by
  obtain ⟨a1, a2, a3, a4⟩ := h.sig s hs
  exact sigCheck_eq s (by omega) (fun t ht => by have := a4 t ht; omega)
end
end Go.Proofs.Ytbaaamdljojknaa
