/- What layer 26's functions compute (where constraints come from), in plain words. -/
import Derived.Test.YtelekeapfgfknaaNp
namespace Go.Proofs.Ytelekeapfgfknaa
open Go.RowKit Nu
set_option linter.unusedVariables false
set_option linter.unnecessarySimpa false
set_option linter.unusedSimpArgs false
abbrev Pv := Int × Int × Int × Int × Bool
def nm (k : Int) : List UInt8 := if k = 1 then [102, 108, 111, 119] else if k = 2 then [108, 111, 97, 110] else if k = 3 then [98, 97, 115, 101] else if k = 4 then [110, 101, 101, 100] else if k = 5 then [112, 97, 115, 115] else if k = 6 then [103, 105, 118, 101] else if k = 7 then [111, 117, 116] else [63]
theorem kcases {k : Int} (h1 : 1 ≤ k) (h7 : k ≤ 7) : k = 1 ∨ k = 2 ∨ k = 3 ∨ k = 4 ∨ k = 5 ∨ k = 6 ∨ k = 7 := by omega
theorem nm_other {k : Int} (h : ¬ (1 ≤ k ∧ k ≤ 7)) : nm k = [63] := by
  unfold nm
  rw [if_neg (by omega), if_neg (by omega), if_neg (by omega), if_neg (by omega), if_neg (by omega), if_neg (by omega), if_neg (by omega)]
theorem nm_len (k : Int) : (nm k).length ≤ 4 := by
  by_cases h : 1 ≤ k ∧ k ≤ 7
  · rcases kcases h.1 h.2 with e | e | e | e | e | e | e <;> subst e <;> decide
  · rw [nm_other h]; decide
def kindO (s : List UInt8) : Option Int := (List.range 7).findSome? fun k : Nat => if nm ((k : Int) + 1) = s then some ((k : Int) + 1) else none
def kind (s : List UInt8) : Int := (kindO s).getD 0
theorem provName_eq (k : Int) : fn_prov_Name k = some (nm k) := by
  unfold fn_prov_Name nm
  by_cases h1 : k = 1; · simp [h1]
  by_cases h2 : k = 2; · simp [h2]
  by_cases h3 : k = 3; · simp [h3]
  by_cases h4 : k = 4; · simp [h4]
  by_cases h5 : k = 5; · simp [h5]
  by_cases h6 : k = 6; · simp [h6]
  by_cases h7 : k = 7; · simp [h7]
  simp [h1, h2, h3, h4, h5, h6, h7]
def right (f : Pv) : Bool := ((decide (0 ≤ f.1) && decide (0 ≤ f.2.1)) && decide (0 ≤ f.2.2.2.1)) && (decide (1 ≤ f.2.2.1) && decide (f.2.2.1 ≤ 7))
theorem provRight_eq (f : Pv) : fn_prov_Right f = some (right f) := by
  unfold fn_prov_Right fn_prov_isKind right
  cases (decide (0 ≤ f.1) && decide (0 ≤ f.2.1)) && decide (0 ≤ f.2.2.2.1) <;> simp
def bk : List UInt8 := [98, 97, 99, 107]
def words (f : Pv) : List (List UInt8) := [text f.1 ++ 46 :: text f.2.1, nm f.2.2.1, text f.2.2.2.1] ++ (if f.2.2.2.2 = true then [bk] else [])
def ptext (f : Pv) : List UInt8 := if right f = true then glue 32 (words f) else [63]
structure POk (f : Pv) : Prop where
  a : f.1 ≤ 9223372036854775807
  b : f.2.1 ≤ 9223372036854775807
  c : f.2.2.2.1 ≤ 9223372036854775807
theorem words_len {f : Pv} (h : POk f) : (glue 32 (words f)).length ≤ 80 := by
  have a := text_len h.a; have b := text_len h.b; have c := text_len h.c; have d := nm_len f.2.2.1
  unfold words
  cases f.2.2.2.2 <;> simp [glue, bk] <;> omega
theorem ptext_len {f : Pv} (h : POk f) : (ptext f).length ≤ 80 := by
  unfold ptext; split
  · exact words_len h
  · simp
theorem provText_eq (f : Pv) (h : POk f) : fn_prov_Text f = some (ptext f) := by
  have a := text_len h.a; have b := text_len h.b; have c := text_len h.c; have d := nm_len f.2.2.1
  have wl := words_len h
  unfold fn_prov_Text
  rw [provRight_eq]
  unfold ptext
  cases hr : right f with
  | false =>
    rfl
  | true =>
    simp only [Option.bind_some, Bool.not_true, cond_false, if_true]
    rw [nText_eq _ h.a, nText_eq _ h.b, nText_eq _ h.c, provName_eq]
    simp only [Option.bind_some]
    rw [app_eq (by simp; omega)]
    simp only [Option.bind_some]
    rw [app_eq (by simp; omega)]
    simp only [Option.bind_some, List.append_assoc, List.singleton_append]
    cases hb : f.2.2.2.2 with
    | false =>
      have e : words f = [text f.1 ++ 46 :: text f.2.1, nm f.2.2.1, text f.2.2.2.1] := by unfold words; rw [hb]; rfl
      rw [e] at wl ⊢
      simp only [cond_false]
      unfold joinF
      rw [join_glue, if_pos ⟨by omega, by simp⟩]; rfl
    | true =>
      have e : words f = [text f.1 ++ 46 :: text f.2.1, nm f.2.2.1, text f.2.2.2.1, bk] := by unfold words; rw [hb]; rfl
      rw [e] at wl ⊢
      simp only [cond_true]
      rw [app_eq (by simp)]
      simp only [Option.bind_some, List.cons_append, List.nil_append]
      unfold joinF
      have e2 : ([98, 97, 99, 107] : List UInt8) = bk := rfl
      rw [e2, join_glue, if_pos ⟨by omega, by simp⟩]; rfl
def pedge (e : Int × Int × Pv) : List UInt8 := pair (e.1, e.2.1) ++ [32, 97, 116, 32] ++ ptext e.2.2
theorem pair_len {b : Int × Int} (h1 : b.1 ≤ 9223372036854775807) (h2 : b.2 ≤ 9223372036854775807) : (pair b).length ≤ 40 := by
  unfold pair; split
  · simp
  · have a := text_len h1; have c := text_len h2; simp; omega
structure EOk (e : Int × Int × Pv) : Prop where
  a : e.1 ≤ 9223372036854775807
  b : e.2.1 ≤ 9223372036854775807
  p : POk e.2.2
theorem provEdge_eq (e : Int × Int × Pv) (h : EOk e) : fn_prov_Edge e = some (pedge e) := by
  have l1 := pair_len (b := (e.1, e.2.1)) h.a h.b
  have l2 := ptext_len h.p
  unfold fn_prov_Edge pedge
  rw [nPair_eq _ h.a h.b, provText_eq _ ⟨h.p.a, h.p.b, h.p.c⟩]
  simp only [Option.bind_some]
  rw [app_eq (by simp; omega)]
  simp only [Option.bind_some]
  rw [app_eq (by simp; omega)]
  rfl
end Go.Proofs.Ytelekeapfgfknaa
