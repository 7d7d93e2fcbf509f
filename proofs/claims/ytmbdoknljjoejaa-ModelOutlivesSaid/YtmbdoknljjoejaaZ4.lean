/- 'easement/easementlaw30.ModelOutlives' returns true for every input, and each argument reads afterwards as it read before: the row's frame round the walk. -/
import Derived.Test.YtmbdoknljjoejaaZ3
import Derived.Test.YtmbdoknljjoejaaRows
import Derived.Lib.RowBridge
namespace Go.Proofs.Ytmbdoknljjoejaa
open Go.RowKit
set_option linter.unusedVariables false
set_option linter.unnecessarySimpa false
set_option linter.unusedSectionVars false
set_option linter.unusedSimpArgs false
variable [BldA]
/-- What is asked of one row: its value, what it holds. -/
theorem row_pre {m : List M} {K : Hp} {x : List Int} {e : TypeId} {args : List Value} {E : En} {w : World} {F : List Atom} (hm : m.length = 2) (hH : HA.ok m K (.row 0 1 e (.int .i64) x x.length)) (hsl : slR m K [(0, .own 0)] args) (hs : Sep E K ([HA.row 0 1 e (.int .i64) x x.length].map (HA.conc m) ++ F) w) :
    ∃ ad cap, args = [.slice ad x.length cap] ∧ m[0]? = some (.val (.slice ad x.length cap)) ∧ Sep E K (Row Hp.nil e (.int .i64) (.slice ad x.length cap) x :: F) w := by
  obtain ⟨ad, cap, cs, e0, e1, hE, _, h1, h2, h3⟩ := hH
  obtain ⟨u, r, rfl, ⟨e2, e3⟩, rfl⟩ := hsl
  rw [e0] at e2
  cases e2
  refine ⟨ad, cap, rfl, e0, ?_⟩
  have hs' : Sep E K (HA.conc m (.row 0 1 e (.int .i64) x x.length) :: F) w := hs
  simp only [HA.conc, e0, e1] at hs'
  exact hs'.mono (fun h k => ⟨cs, Els.flat rfl hE, k⟩)
/-- What is known of a row behind the call. -/
theorem row_post {K : Hp} {e : TypeId} {ad : Option Addr} {n cap : Nat} {l : List Int} {E : En} {w : World} {F : List Atom} (hs : Sep E K ([Row Hp.nil e (.int .i64) (.slice ad n cap) l] ++ F) w) :
    n = l.length ∧ l.length ≤ cap ∧ cap ≤ maxLen ∧ (l ≠ [] → ∃ g, ad = some ⟨g, 0, none⟩) ∧ ∃ cs, Els K (.int .i64) cs l ∧ Sep E K (Rw e 1 (.slice ad l.length cap) l.length cs :: F) w := by
  have hs : Sep E K (Row Hp.nil e (.int .i64) (.slice ad n cap) l :: F) w := hs
  obtain ⟨ad', cap', h1, h2, h3, h4⟩ := hs.fact (fun h k => Row.form h k)
  cases h1
  obtain ⟨h0, ⟨cs, hE, hR⟩, hd, hs2⟩ := hs
  exact ⟨rfl, h2, h3, h4, cs, Els.flat rfl hE, h0, hR, hd, hs2⟩
noncomputable def sp_Sort : Spec := ⟨23, ⟨[(0, .rp 0)], [⟨none, 0, [], false, false, some (.row 3 (.dat (.int .i64)))⟩]⟩, [⟨[], [⟨some 0, 0, [], false, false, some (.row 3 (.dat (.int .i64)))⟩]⟩], fun x => srt x⟩
theorem Sort_is : SpecOk Try.prog sp_Sort := by
  intro x r hr vs u hu m K args hm hH hsl E w F hs
  have hu' : sp_Sort.inn.un (TL.list _ x) 0 = some ([(0, .own 0)], ⟨[], 2, [.row 0 1 3 (.int .i64) x (List.length (α := Int) x)], []⟩) := rfl
  rw [hu'] at hu
  cases hu
  replace hm : m.length = 2 := hm
  obtain ⟨ad, cap, rfl, e0, hs'⟩ := row_pre hm (hH _ (by simp)) hsl hs
  refine (slices_Sort_ok (K := K) hr E w F hs').mono ?_
  rintro e w' ⟨v, K', L', rfl, ⟨⟨l, rfl, rfl, rfl⟩, rfl⟩, h1, h2⟩
  obtain ⟨g1, g2, g3, g4, cs, g5, g6⟩ := row_post h2
  have hm0 : (m ++ [M.cont (.int .i64) l cs])[0]? = some (.val (.slice ad (List.length (α := Int) l) cap)) := by
    rw [List.getElem?_append_left (by omega), e0, g1]
  have hm1 : (m ++ [M.cont (.int .i64) l cs])[2]? = some (.cont (.int .i64) l cs) := by
    rw [List.getElem?_append_right (by omega), hm]; rfl
  refine ⟨_, K, _, rfl, ⟨[], ⟨[], 3, [.row 0 2 3 (.int .i64) l (List.length (α := Int) l)], []⟩, m ++ [.cont (.int .i64) l cs], rfl, List.prefix_append _ _, by simp [hm], ?_, rfl, rfl⟩, h1, ?_⟩
  · intro a ha
    simp only [List.mem_singleton] at ha
    subst ha
    exact ⟨ad, cap, cs, hm0, hm1, g5, rfl, g2, g3, g4⟩
  · show Sep E K (HA.conc _ (.row 0 2 3 (.int .i64) l (List.length (α := Int) l)) :: F) w'
    simp only [HA.conc, hm0, hm1]
    exact g6
noncomputable def ok_Sort : OkSpec Try.prog := ⟨sp_Sort, Sort_is, Try.call23⟩
end Go.Proofs.Ytmbdoknljjoejaa
namespace Go.Proofs.Ytmbdoknljjoejaa
open Go.RowKit
set_option linter.unusedVariables false
set_option maxRecDepth 100000
set_option maxHeartbeats 4000000
instance nob : BldA := ⟨1000000000, fun b _ => Cl b 1000000000 [.pointer none, .slice none 0 0], fun h => h⟩

noncomputable def fn_slices_Clone_graph_Arc_graph_Arc (xa : (List (Int × Int))) : Option ((List (Int × Int))) :=
  nilb xa (some ([])) ((app (([] : List (Int × Int))) xa).bind fun z21 => some (z21))
noncomputable def h_slices_Clone_graph_Arc_graph_Arc : Hn Try.prog := .two 4 (.nil) (.nil)
noncomputable def sp_slices_Clone_graph_Arc_graph_Arc : Spec := ⟨24, ⟨[(0, .dat (.sl (.cons (.int .i64) (.one (.int .i64)))))], []⟩, [⟨[(0, .own 56 (.cons (.int .i64) (.one (.int .i64))))], []⟩], fun x => fn_slices_Clone_graph_Arc_graph_Arc x⟩
theorem slices_Clone_graph_Arc_graph_Arc_is : SpecOk Try.prog sp_slices_Clone_graph_Arc_graph_Arc := fn_is Try.func24 h_slices_Clone_graph_Arc_graph_Arc (by kernel_rfl) (by kernel_rfl)
noncomputable def ok_slices_Clone_graph_Arc_graph_Arc : OkSpec Try.prog := ⟨sp_slices_Clone_graph_Arc_graph_Arc, slices_Clone_graph_Arc_graph_Arc_is, Try.call24⟩

noncomputable def fn_graph_New_1 (xa : (Int × Int)) : Option Int :=
  some (xa.1)
noncomputable def h_graph_New_1 : Hn Try.prog := .nil
noncomputable def sp_graph_New_1 : Spec := ⟨26, ⟨[(0, .dat (.cons (.int .i64) (.one (.int .i64))))], []⟩, [⟨[(0, .dat (.int .i64))], []⟩], fun x => fn_graph_New_1 x⟩
theorem graph_New_1_is : SpecOk Try.prog sp_graph_New_1 := fn_is Try.func26 h_graph_New_1 (by kernel_rfl) (by kernel_rfl)
noncomputable def ok_graph_New_1 : OkSpec Try.prog := ⟨sp_graph_New_1, graph_New_1_is, Try.call26⟩

noncomputable def fn_slices_Clone_int_int (xa : (List Int)) : Option (List Int) :=
  nilb xa (some ([])) ((app ([] : List Int) xa).bind fun z21 => some (z21))
noncomputable def h_slices_Clone_int_int : Hn Try.prog := .two 4 (.nil) (.nil)
noncomputable def sp_slices_Clone_int_int : Spec := ⟨21, ⟨[(0, .dat (.sl (.int .i64)))], []⟩, [⟨[(0, .own 3 (.int .i64))], []⟩], fun x => fn_slices_Clone_int_int x⟩
theorem slices_Clone_int_int_is : SpecOk Try.prog sp_slices_Clone_int_int := fn_is Try.func21 h_slices_Clone_int_int (by kernel_rfl) (by kernel_rfl)
noncomputable def ok_slices_Clone_int_int : OkSpec Try.prog := ⟨sp_slices_Clone_int_int, slices_Clone_int_int_is, Try.call21⟩
noncomputable def fn_graph_indexed_ik_graph_New_1_l1 (xb : (List (Int × Int))) : (Int × (List Int)) → Option ((Int × (List Int)) ⊕ (List Int)) := fun ((i3454, l3455) : (Int × (List Int))) => cond (decide (i3454 < (((xb.length : Nat) : Int)))) ((getI xb i3454).bind fun x3564 => (fn_graph_New_1 (x3564.1, x3564.2)).bind fun i3636 => (getI l3455 (IntKind.wrap .i64 (i3636 + 1))).bind fun x3640 => (getI l3455 (IntKind.wrap .i64 (i3636 + 1))).bind fun x3647 => (some (l3455.set (IntKind.wrap .i64 (i3636 + 1)).toNat (IntKind.wrap .i64 (x3640 + 1)))).bind fun z3654 => some (.inl ((IntKind.wrap .i64 (i3454 + 1), z3654)))) (some (.inr (l3455)))
noncomputable def fn_graph_indexed_ik_graph_New_1_l2 (xa : Int) : (Int × (List Int)) → Option ((Int × (List Int)) ⊕ (List Int)) := fun ((i4049, l4050) : (Int × (List Int))) => cond (decide (i4049 < xa)) ((getI l4050 (IntKind.wrap .i64 (i4049 + 1))).bind fun x4216 => (getI l4050 i4049).bind fun x4223 => (getI l4050 (IntKind.wrap .i64 (i4049 + 1))).bind fun x4230 => (some (l4050.set (IntKind.wrap .i64 (i4049 + 1)).toNat (IntKind.wrap .i64 (x4216 + x4223)))).bind fun z4237 => some (.inl ((IntKind.wrap .i64 (i4049 + 1), z4237)))) (some (.inr (l4050)))
noncomputable def fn_graph_indexed_ik_graph_New_1_l3 (xb : (List (Int × Int))) : ((List Int) × Int × (List Int)) → Option (((List Int) × Int × (List Int)) ⊕ (List Int)) := fun ((l5309, i5314, l5315) : ((List Int) × Int × (List Int))) => cond (decide (i5314 < (((xb.length : Nat) : Int)))) ((getI xb i5314).bind fun x5430 => (fn_graph_New_1 (x5430.1, x5430.2)).bind fun i5442 => (getI l5309 i5442).bind fun x5488 => (getI l5315 x5488).bind fun x5495 => (some (l5315.set x5488.toNat i5314)).bind fun z5502 => (getI l5309 i5442).bind fun x5507 => (getI l5309 i5442).bind fun x5514 => (some (l5309.set i5442.toNat (IntKind.wrap .i64 (x5507 + 1)))).bind fun z5521 => some (.inl ((z5521, IntKind.wrap .i64 (i5314 + 1), z5502)))) (some (.inr (l5315)))
noncomputable def fn_graph_indexed_ik_graph_New_1 (xa : Int) (xb : (List (Int × Int))) : Option (((List Int) × (List Int))) :=
  (((mk (IntKind.wrap .i64 (xa + 1)) (IntKind.wrap .i64 (xa + 1)) 0 : Option (List Int)).bind fun z2975 => ((mk (((xb.length : Nat) : Int)) (((xb.length : Nat) : Int)) 0 : Option (List Int)).bind fun z2980 => some ((z2975, z2980))).bind fun x2992 => ((mk (((xb.length : Nat) : Int)) (((xb.length : Nat) : Int)) 0 : Option (List Int)).bind fun z2987 => some ((z2975, z2987))).bind fun y2993 => agr x2992 y2993 (some x2992)).bind fun x3038 => (((mk (((xb.length : Nat) : Int)) (((xb.length : Nat) : Int)) 0 : Option (List Int)).bind fun z2994 => ((mk (IntKind.wrap .i64 (xa + 1)) (IntKind.wrap .i64 (xa + 1)) 0 : Option (List Int)).bind fun z2999 => some ((z2999, z2994))).bind fun x3011 => ((mk (IntKind.wrap .i64 (xa + 1)) (IntKind.wrap .i64 (xa + 1)) 0 : Option (List Int)).bind fun z3006 => some ((z3006, z2994))).bind fun y3012 => agr x3011 y3012 (some x3011)).bind fun x3036 => (((mk (IntKind.wrap .i64 (xa + 1)) (IntKind.wrap .i64 (xa + 1)) 0 : Option (List Int)).bind fun z3014 => (mk (((xb.length : Nat) : Int)) (((xb.length : Nat) : Int)) 0 : Option (List Int)).bind fun z3019 => some ((z3014, z3019))).bind fun x3034 => ((mk (((xb.length : Nat) : Int)) (((xb.length : Nat) : Int)) 0 : Option (List Int)).bind fun z3024 => (mk (IntKind.wrap .i64 (xa + 1)) (IntKind.wrap .i64 (xa + 1)) 0 : Option (List Int)).bind fun z3029 => some ((z3029, z3024))).bind fun y3035 => agr x3034 y3035 (some x3034)).bind fun y3037 => agr x3036 y3037 (some x3036)).bind fun y3039 => agr x3038 y3039 (some x3038) : Option (((List Int) × (List Int)))).bind fun (l2900, l2905) => (loop (fn_graph_indexed_ik_graph_New_1_l1 xb) (0, l2900) : Option (List Int)).bind fun l3347 => (loop (fn_graph_indexed_ik_graph_New_1_l2 xa) (0, l3347) : Option (List Int)).bind fun l3948 => (fn_slices_Clone_int_int l3948).bind fun l4247 => (loop (fn_graph_indexed_ik_graph_New_1_l3 xb) (l4247, 0, l2905) : Option (List Int)).bind fun l5099 => some ((l3948, l5099))
noncomputable def h_graph_indexed_ik_graph_New_1 : Hn Try.prog := .tr (.still [0, 1, 3, 4] (.alt 2 (.alt 5 (.still [6] (.alt 7 (.alt 8 (.leaf []) .done) .done)) (.alt 7 (.alt 5 (.still [6] (.alt 8 (.leaf []) .done)) .done) .done)) (.alt 5 (.alt 2 (.still [6] (.alt 7 (.alt 8 (.leaf []) .done) .done)) (.alt 7 (.alt 2 (.still [6] (.alt 8 (.leaf []) .done)) .done) .done)) (.alt 7 (.alt 2 (.alt 5 (.still [6] (.alt 8 (.leaf []) .done)) .done) (.alt 5 (.alt 2 (.still [6] (.alt 8 (.leaf []) .done)) .done) .done)) .done)))) ⟨[(7, .ptr 0 0)], [⟨none, 60, [.own 3 (.int .i64), .own 3 (.int .i64)], false, false, none⟩]⟩ [] (.two 0 (.two 0 (.nil) (.nil)) (.two 0 (.two 0 (.nil) (.nil)) (.two 0 (.nil) (.nil)))) (.jn [(2, 1)] ⟨[], [⟨(some 2), 60, [.own 3 (.int .i64), .is 1 (.any)], false, false, none⟩, ⟨(some 8), 0, [], false, true, none⟩]⟩ [2, 3] (.lp ⟨[(24, .dat (.int .i64))], [⟨(some 2), 60, [.own 3 (.int .i64), .is 1 (.any)], false, false, none⟩, ⟨(some 8), 0, [], false, true, none⟩]⟩ (.tw 25 (.mix [([0, 1, 2, 3], 4)] [5, 6, 7, 8, 9] [10] [] (.cl ok_graph_New_1 [] (.nil))) (.nil))) (.jn [] ⟨[], [⟨(some 2), 60, [.own 3 (.int .i64), .is 1 (.any)], false, false, none⟩, ⟨(some 8), 0, [], false, true, none⟩]⟩ [2, 9] (.lp ⟨[(40, .dat (.int .i64))], [⟨(some 2), 60, [.own 3 (.int .i64), .is 1 (.any)], false, false, none⟩, ⟨(some 8), 0, [], false, true, none⟩]⟩ (.tw 41 (.mix [] [0, 1, 2, 3, 4, 5, 6, 7, 8, 9, 10, 11, 12] [13] [] (.nil)) (.nil))) (.per 12 13 (.cl ok_slices_Clone_int_int [] (.jn [(2, 0)] ⟨[(59, .any), (11, .any)], [⟨(some 2), 60, [.is 1 (.any), .own 3 (.int .i64)], false, false, none⟩, ⟨(some 17), 0, [], false, true, none⟩]⟩ [15, 2, 5] (.lp ⟨[(11, .own 3 (.int .i64)), (62, .dat (.int .i64))], [⟨(some 2), 60, [.is 1 (.any), .own 3 (.int .i64)], false, false, none⟩, ⟨(some 17), 0, [], false, true, none⟩]⟩ (.tw 63 (.cl ok_graph_New_1 [] (.mix [] [0, 1, 2, 3, 4, 5, 6, 7] [8] [] (.nil))) (.nil))) (.nil))))))
noncomputable def sp_graph_indexed_ik_graph_New_1 : Spec := ⟨25, ⟨[(0, .dat (.int .i64)), (1, .dat (.sl (.cons (.int .i64) (.one (.int .i64))))), (2, .fn 26 [])], []⟩, [⟨[(0, .agg [.dat (.sl (.int .i64)), .own 3 (.int .i64)])], []⟩], fun x => fn_graph_indexed_ik_graph_New_1 x.1 x.2⟩
theorem graph_indexed_ik_graph_New_1_is : SpecOk Try.prog sp_graph_indexed_ik_graph_New_1 := fn_is Try.func25 h_graph_indexed_ik_graph_New_1 (by kernel_rfl) (by kernel_rfl)
noncomputable def ok_graph_indexed_ik_graph_New_1 : OkSpec Try.prog := ⟨sp_graph_indexed_ik_graph_New_1, graph_indexed_ik_graph_New_1_is, Try.call25⟩

noncomputable def fn_graph_New_2 (xa : (Int × Int)) : Option Int :=
  some (xa.2)
noncomputable def h_graph_New_2 : Hn Try.prog := .nil
noncomputable def sp_graph_New_2 : Spec := ⟨27, ⟨[(0, .dat (.cons (.int .i64) (.one (.int .i64))))], []⟩, [⟨[(0, .dat (.int .i64))], []⟩], fun x => fn_graph_New_2 x⟩
theorem graph_New_2_is : SpecOk Try.prog sp_graph_New_2 := fn_is Try.func27 h_graph_New_2 (by kernel_rfl) (by kernel_rfl)
noncomputable def ok_graph_New_2 : OkSpec Try.prog := ⟨sp_graph_New_2, graph_New_2_is, Try.call27⟩
noncomputable def fn_graph_indexed_ik_graph_New_2_l1 (xb : (List (Int × Int))) : (Int × (List Int)) → Option ((Int × (List Int)) ⊕ (List Int)) := fun ((i3454, l3455) : (Int × (List Int))) => cond (decide (i3454 < (((xb.length : Nat) : Int)))) ((getI xb i3454).bind fun x3564 => (fn_graph_New_2 (x3564.1, x3564.2)).bind fun i3636 => (getI l3455 (IntKind.wrap .i64 (i3636 + 1))).bind fun x3640 => (getI l3455 (IntKind.wrap .i64 (i3636 + 1))).bind fun x3647 => (some (l3455.set (IntKind.wrap .i64 (i3636 + 1)).toNat (IntKind.wrap .i64 (x3640 + 1)))).bind fun z3654 => some (.inl ((IntKind.wrap .i64 (i3454 + 1), z3654)))) (some (.inr (l3455)))
noncomputable def fn_graph_indexed_ik_graph_New_2_l2 (xa : Int) : (Int × (List Int)) → Option ((Int × (List Int)) ⊕ (List Int)) := fun ((i4049, l4050) : (Int × (List Int))) => cond (decide (i4049 < xa)) ((getI l4050 (IntKind.wrap .i64 (i4049 + 1))).bind fun x4216 => (getI l4050 i4049).bind fun x4223 => (getI l4050 (IntKind.wrap .i64 (i4049 + 1))).bind fun x4230 => (some (l4050.set (IntKind.wrap .i64 (i4049 + 1)).toNat (IntKind.wrap .i64 (x4216 + x4223)))).bind fun z4237 => some (.inl ((IntKind.wrap .i64 (i4049 + 1), z4237)))) (some (.inr (l4050)))
noncomputable def fn_graph_indexed_ik_graph_New_2_l3 (xb : (List (Int × Int))) : ((List Int) × Int × (List Int)) → Option (((List Int) × Int × (List Int)) ⊕ (List Int)) := fun ((l5309, i5314, l5315) : ((List Int) × Int × (List Int))) => cond (decide (i5314 < (((xb.length : Nat) : Int)))) ((getI xb i5314).bind fun x5430 => (fn_graph_New_2 (x5430.1, x5430.2)).bind fun i5442 => (getI l5309 i5442).bind fun x5488 => (getI l5315 x5488).bind fun x5495 => (some (l5315.set x5488.toNat i5314)).bind fun z5502 => (getI l5309 i5442).bind fun x5507 => (getI l5309 i5442).bind fun x5514 => (some (l5309.set i5442.toNat (IntKind.wrap .i64 (x5507 + 1)))).bind fun z5521 => some (.inl ((z5521, IntKind.wrap .i64 (i5314 + 1), z5502)))) (some (.inr (l5315)))
noncomputable def fn_graph_indexed_ik_graph_New_2 (xa : Int) (xb : (List (Int × Int))) : Option (((List Int) × (List Int))) :=
  (((mk (IntKind.wrap .i64 (xa + 1)) (IntKind.wrap .i64 (xa + 1)) 0 : Option (List Int)).bind fun z2975 => ((mk (((xb.length : Nat) : Int)) (((xb.length : Nat) : Int)) 0 : Option (List Int)).bind fun z2980 => some ((z2975, z2980))).bind fun x2992 => ((mk (((xb.length : Nat) : Int)) (((xb.length : Nat) : Int)) 0 : Option (List Int)).bind fun z2987 => some ((z2975, z2987))).bind fun y2993 => agr x2992 y2993 (some x2992)).bind fun x3038 => (((mk (((xb.length : Nat) : Int)) (((xb.length : Nat) : Int)) 0 : Option (List Int)).bind fun z2994 => ((mk (IntKind.wrap .i64 (xa + 1)) (IntKind.wrap .i64 (xa + 1)) 0 : Option (List Int)).bind fun z2999 => some ((z2999, z2994))).bind fun x3011 => ((mk (IntKind.wrap .i64 (xa + 1)) (IntKind.wrap .i64 (xa + 1)) 0 : Option (List Int)).bind fun z3006 => some ((z3006, z2994))).bind fun y3012 => agr x3011 y3012 (some x3011)).bind fun x3036 => (((mk (IntKind.wrap .i64 (xa + 1)) (IntKind.wrap .i64 (xa + 1)) 0 : Option (List Int)).bind fun z3014 => (mk (((xb.length : Nat) : Int)) (((xb.length : Nat) : Int)) 0 : Option (List Int)).bind fun z3019 => some ((z3014, z3019))).bind fun x3034 => ((mk (((xb.length : Nat) : Int)) (((xb.length : Nat) : Int)) 0 : Option (List Int)).bind fun z3024 => (mk (IntKind.wrap .i64 (xa + 1)) (IntKind.wrap .i64 (xa + 1)) 0 : Option (List Int)).bind fun z3029 => some ((z3029, z3024))).bind fun y3035 => agr x3034 y3035 (some x3034)).bind fun y3037 => agr x3036 y3037 (some x3036)).bind fun y3039 => agr x3038 y3039 (some x3038) : Option (((List Int) × (List Int)))).bind fun (l2900, l2905) => (loop (fn_graph_indexed_ik_graph_New_2_l1 xb) (0, l2900) : Option (List Int)).bind fun l3347 => (loop (fn_graph_indexed_ik_graph_New_2_l2 xa) (0, l3347) : Option (List Int)).bind fun l3948 => (fn_slices_Clone_int_int l3948).bind fun l4247 => (loop (fn_graph_indexed_ik_graph_New_2_l3 xb) (l4247, 0, l2905) : Option (List Int)).bind fun l5099 => some ((l3948, l5099))
noncomputable def h_graph_indexed_ik_graph_New_2 : Hn Try.prog := .tr (.still [0, 1, 3, 4] (.alt 2 (.alt 5 (.still [6] (.alt 7 (.alt 8 (.leaf []) .done) .done)) (.alt 7 (.alt 5 (.still [6] (.alt 8 (.leaf []) .done)) .done) .done)) (.alt 5 (.alt 2 (.still [6] (.alt 7 (.alt 8 (.leaf []) .done) .done)) (.alt 7 (.alt 2 (.still [6] (.alt 8 (.leaf []) .done)) .done) .done)) (.alt 7 (.alt 2 (.alt 5 (.still [6] (.alt 8 (.leaf []) .done)) .done) (.alt 5 (.alt 2 (.still [6] (.alt 8 (.leaf []) .done)) .done) .done)) .done)))) ⟨[(7, .ptr 0 0)], [⟨none, 60, [.own 3 (.int .i64), .own 3 (.int .i64)], false, false, none⟩]⟩ [] (.two 0 (.two 0 (.nil) (.nil)) (.two 0 (.two 0 (.nil) (.nil)) (.two 0 (.nil) (.nil)))) (.jn [(2, 1)] ⟨[], [⟨(some 2), 60, [.own 3 (.int .i64), .is 1 (.any)], false, false, none⟩, ⟨(some 8), 0, [], false, true, none⟩]⟩ [2, 3] (.lp ⟨[(24, .dat (.int .i64))], [⟨(some 2), 60, [.own 3 (.int .i64), .is 1 (.any)], false, false, none⟩, ⟨(some 8), 0, [], false, true, none⟩]⟩ (.tw 25 (.mix [([0, 1, 2, 3], 4)] [5, 6, 7, 8, 9] [10] [] (.cl ok_graph_New_2 [] (.nil))) (.nil))) (.jn [] ⟨[], [⟨(some 2), 60, [.own 3 (.int .i64), .is 1 (.any)], false, false, none⟩, ⟨(some 8), 0, [], false, true, none⟩]⟩ [2, 9] (.lp ⟨[(40, .dat (.int .i64))], [⟨(some 2), 60, [.own 3 (.int .i64), .is 1 (.any)], false, false, none⟩, ⟨(some 8), 0, [], false, true, none⟩]⟩ (.tw 41 (.mix [] [0, 1, 2, 3, 4, 5, 6, 7, 8, 9, 10, 11, 12] [13] [] (.nil)) (.nil))) (.per 12 13 (.cl ok_slices_Clone_int_int [] (.jn [(2, 0)] ⟨[(59, .any), (11, .any)], [⟨(some 2), 60, [.is 1 (.any), .own 3 (.int .i64)], false, false, none⟩, ⟨(some 17), 0, [], false, true, none⟩]⟩ [15, 2, 5] (.lp ⟨[(11, .own 3 (.int .i64)), (62, .dat (.int .i64))], [⟨(some 2), 60, [.is 1 (.any), .own 3 (.int .i64)], false, false, none⟩, ⟨(some 17), 0, [], false, true, none⟩]⟩ (.tw 63 (.cl ok_graph_New_2 [] (.mix [] [0, 1, 2, 3, 4, 5, 6, 7] [8] [] (.nil))) (.nil))) (.nil))))))
noncomputable def sp_graph_indexed_ik_graph_New_2 : Spec := ⟨25, ⟨[(0, .dat (.int .i64)), (1, .dat (.sl (.cons (.int .i64) (.one (.int .i64))))), (2, .fn 27 [])], []⟩, [⟨[(0, .agg [.dat (.sl (.int .i64)), .own 3 (.int .i64)])], []⟩], fun x => fn_graph_indexed_ik_graph_New_2 x.1 x.2⟩
theorem graph_indexed_ik_graph_New_2_is : SpecOk Try.prog sp_graph_indexed_ik_graph_New_2 := fn_is Try.func25 h_graph_indexed_ik_graph_New_2 (by kernel_rfl) (by kernel_rfl)
noncomputable def ok_graph_indexed_ik_graph_New_2 : OkSpec Try.prog := ⟨sp_graph_indexed_ik_graph_New_2, graph_indexed_ik_graph_New_2_is, Try.call25⟩
noncomputable def fn_graph_New_l1 (xa : Int) (xb : (List (Int × Int))) : Int → Option (Int ⊕ (Unit ⊕ ((Option (Int × (List (Int × Int)) × ((List Int) × (List Int)) × ((List Int) × (List Int)))) × Int))) := fun (i257 : Int) => cond (decide (i257 < (((xb.length : Nat) : Int)))) ((getI xb i257).bind fun x279 => cond ((((decide (x279.1 < 0)) || (decide (xa ≤ x279.1))) || (decide (x279.2 < 0))) || (decide (xa ≤ x279.2))) (some (.inr ((.inr ((none, 7)))))) (some (.inl (IntKind.wrap .i64 (i257 + 1))))) (some (.inr ((.inl ()))))
noncomputable def fn_graph_New (xa : Int) (xb : (List (Int × Int))) : Option (((Option (Int × (List (Int × Int)) × ((List Int) × (List Int)) × ((List Int) × (List Int)))) × Int)) :=
  cond (decide (xa < 0)) (some ((none, 2))) (cond ((decide (1048576 < xa)) || (decide (67108864 < (((xb.length : Nat) : Int))))) (some ((none, 5))) ((loop (fn_graph_New_l1 xa xb) 0 : Option (Unit ⊕ ((Option (Int × (List (Int × Int)) × ((List Int) × (List Int)) × ((List Int) × (List Int)))) × Int))).bind fun o => match o with | .inr r => some r | .inl () => (fn_slices_Clone_graph_Arc_graph_Arc xb).bind fun l298 => (fn_graph_indexed_ik_graph_New_1 xa l298).bind fun (l312, l313) => (fn_graph_indexed_ik_graph_New_2 xa l298).bind fun (l326, l327) => some (((some ((xa, l298, (l312, l313), (l326, l327)))), 0))))
noncomputable def h_graph_New : Hn Try.prog := .tw 10 (.nil) (.gp 3 (.tw 17 (.nil) (.jx [] ⟨[], []⟩ [] (.lp ⟨[(20, .dat (.int .i64))], []⟩ (.tw 21 (.gp 4 (.gp 3 (.gp 4 (.tw 43 (.nil) (.nil))))) (.nil))) (.cl ok_slices_Clone_graph_Arc_graph_Arc [] (.per 0 1 (.cl ok_graph_indexed_ik_graph_New_1 [] (.cl ok_graph_indexed_ik_graph_New_2 [] (.per 4 5 (.per 7 8 (.perb 2 9 (.cons (.int .i64) (.cons (.sl (.cons (.int .i64) (.one (.int .i64)))) (.cons (.cons (.sl (.int .i64)) (.one (.sl (.int .i64)))) (.one (.cons (.sl (.int .i64)) (.one (.sl (.int .i64)))))))) (.nil)))))))))))
noncomputable def sp_graph_New : Spec := ⟨19, ⟨[(0, .dat (.int .i64)), (1, .dat (.sl (.cons (.int .i64) (.one (.int .i64)))))], []⟩, [⟨[(0, .tup [.dat (.ptr (.cons (.int .i64) (.cons (.sl (.cons (.int .i64) (.one (.int .i64)))) (.cons (.cons (.sl (.int .i64)) (.one (.sl (.int .i64)))) (.one (.cons (.sl (.int .i64)) (.one (.sl (.int .i64))))))))), .dat (.int .i64)])], []⟩], fun x => fn_graph_New x.1 x.2⟩
theorem graph_New_is : SpecOk Try.prog sp_graph_New := fn_is Try.func19 h_graph_New (by kernel_rfl) (by kernel_rfl)
noncomputable def ok_graph_New : OkSpec Try.prog := ⟨sp_graph_New, graph_New_is, Try.call19⟩
noncomputable def fn_cons_Graph_l1 (xb : (List (Int × Int × (Int × Int × Int × Int × Bool)))) : ((List (Int × Int)) × Int) → Option (((List (Int × Int)) × Int) ⊕ (List (Int × Int))) := fun ((l646, i651) : ((List (Int × Int)) × Int)) => cond (decide (i651 < (((xb.length : Nat) : Int)))) ((getI xb i651).bind fun x683 => (getI l646 i651).bind fun x693 => (some (l646.set i651.toNat (x683.1, x683.2.1))).bind fun z700 => some (.inl ((z700, IntKind.wrap .i64 (i651 + 1))))) (some (.inr (l646)))
noncomputable def fn_cons_Graph (xa : (Int × Int × (List (Int × Int)) × (List (List (Int × Bool))) × (List (Int × Bool)) × (List (Int × (List (Int × Int)) × (List (List (Int × Bool))) × (List (Int × Bool)))) × (List ((List (Int × Int × Int × Int × Bool)) × (Int × Int × Int × (List Int) × (List Int) × (List Int)))))) (xb : (List (Int × Int × (Int × Int × Int × Int × Bool)))) : Option ((Option (Int × (List (Int × Int)) × ((List Int) × (List Int)) × ((List Int) × (List Int))))) :=
  (mk (((xb.length : Nat) : Int)) (((xb.length : Nat) : Int)) (0, 0) : Option (List (Int × Int))).bind fun z362 => (loop (fn_cons_Graph_l1 xb) (z362, 0) : Option ((List (Int × Int)))).bind fun l589 => (fn_graph_New xa.2.1 l589).bind fun (p710, i711) => some (p710)
noncomputable def h_cons_Graph : Hn Try.prog := .jn [] ⟨[(5, .own 56 (.cons (.int .i64) (.one (.int .i64)))), (12, .any)], []⟩ [2] (.lp ⟨[(5, .own 56 (.cons (.int .i64) (.one (.int .i64)))), (15, .dat (.int .i64))], []⟩ (.tw 16 (.nil) (.nil))) (.per 4 5 (.cl ok_graph_New [] (.nil)))
noncomputable def sp_cons_Graph : Spec := ⟨11, ⟨[(0, .dat (.cons (.int .i64) (.cons (.int .i64) (.cons (.sl (.cons (.int .i64) (.one (.int .i64)))) (.cons (.sl (.one (.sl (.cons (.int .i64) (.one .bool))))) (.cons (.one (.sl (.cons (.int .i64) (.one .bool)))) (.cons (.sl (.cons (.int .i64) (.cons (.sl (.cons (.int .i64) (.one (.int .i64)))) (.cons (.sl (.one (.sl (.cons (.int .i64) (.one .bool))))) (.one (.one (.sl (.cons (.int .i64) (.one .bool))))))))) (.one (.sl (.cons (.sl (.cons (.int .i64) (.cons (.int .i64) (.cons (.int .i64) (.cons (.int .i64) (.one .bool)))))) (.one (.cons (.int .i64) (.cons (.int .i64) (.cons (.int .i64) (.cons (.sl (.int .i64)) (.cons (.sl (.int .i64)) (.one (.sl (.int .i64))))))))))))))))))), (1, .dat (.sl (.cons (.int .i64) (.cons (.int .i64) (.one (.cons (.int .i64) (.cons (.int .i64) (.cons (.int .i64) (.cons (.int .i64) (.one .bool))))))))))], []⟩, [⟨[(0, .dat (.ptr (.cons (.int .i64) (.cons (.sl (.cons (.int .i64) (.one (.int .i64)))) (.cons (.cons (.sl (.int .i64)) (.one (.sl (.int .i64)))) (.one (.cons (.sl (.int .i64)) (.one (.sl (.int .i64))))))))))], []⟩], fun x => fn_cons_Graph x.1 x.2⟩
theorem cons_Graph_is : SpecOk Try.prog sp_cons_Graph := fn_is Try.func11 h_cons_Graph (by kernel_rfl) (by kernel_rfl)
noncomputable def ok_cons_Graph : OkSpec Try.prog := ⟨sp_cons_Graph, cons_Graph_is, Try.call11⟩

noncomputable def fn_graph_Graph_Nodes (xa : (Option (Int × (List (Int × Int)) × ((List Int) × (List Int)) × ((List Int) × (List Int))))) : Option Int :=
  cond (xa.isNone) (some (0)) ((xa : Option (Int × (List (Int × Int)) × ((List Int) × (List Int)) × ((List Int) × (List Int)))).bind fun y11 => some (y11.1))
noncomputable def h_graph_Graph_Nodes : Hn Try.prog := .tw 4 (.nil) (.nil)
noncomputable def sp_graph_Graph_Nodes : Spec := ⟨12, ⟨[(0, .dat (.ptr (.cons (.int .i64) (.cons (.sl (.cons (.int .i64) (.one (.int .i64)))) (.cons (.cons (.sl (.int .i64)) (.one (.sl (.int .i64)))) (.one (.cons (.sl (.int .i64)) (.one (.sl (.int .i64))))))))))], []⟩, [⟨[(0, .dat (.int .i64))], []⟩], fun x => fn_graph_Graph_Nodes x⟩
theorem graph_Graph_Nodes_is : SpecOk Try.prog sp_graph_Graph_Nodes := fn_is Try.func12 h_graph_Graph_Nodes (by kernel_rfl) (by kernel_rfl)
noncomputable def ok_graph_Graph_Nodes : OkSpec Try.prog := ⟨sp_graph_Graph_Nodes, graph_Graph_Nodes_is, Try.call12⟩

noncomputable def fn_graph_Graph_isNode (xa : (Option (Int × (List (Int × Int)) × ((List Int) × (List Int)) × ((List Int) × (List Int))))) (xb : Int) : Option Bool :=
  (cond (decide (0 ≤ xb)) ((fn_graph_Graph_Nodes xa).bind fun i28 => some (decide (xb < i28))) (some (false))).bind fun t24 => some (t24)
noncomputable def h_graph_Graph_isNode : Hn Try.prog := .gj 4 ⟨[(12, .dat .bool)], []⟩ [] (.two 7 (.cl ok_graph_Graph_Nodes [] (.nil)) (.nil)) (.nil)
noncomputable def sp_graph_Graph_isNode : Spec := ⟨20, ⟨[(0, .dat (.ptr (.cons (.int .i64) (.cons (.sl (.cons (.int .i64) (.one (.int .i64)))) (.cons (.cons (.sl (.int .i64)) (.one (.sl (.int .i64)))) (.one (.cons (.sl (.int .i64)) (.one (.sl (.int .i64)))))))))), (1, .dat (.int .i64))], []⟩, [⟨[(0, .dat .bool)], []⟩], fun x => fn_graph_Graph_isNode x.1 x.2⟩
theorem graph_Graph_isNode_is : SpecOk Try.prog sp_graph_Graph_isNode := fn_is Try.func20 h_graph_Graph_isNode (by kernel_rfl) (by kernel_rfl)
noncomputable def ok_graph_Graph_isNode : OkSpec Try.prog := ⟨sp_graph_Graph_isNode, graph_Graph_isNode_is, Try.call20⟩

noncomputable def fn_graph_index_of (xa : ((List Int) × (List Int))) (xb : Int) : Option (List Int) :=
  (getI xa.1 xb).bind fun x175 => (getI xa.1 (IntKind.wrap .i64 (xb + 1))).bind fun x184 => (subL xa.2 x175 x184).bind fun y193 => some (y193)
noncomputable def h_graph_index_of : Hn Try.prog := .mix [] [0, 1, 2, 3, 4, 5, 6, 7, 8, 9, 10, 11, 12, 13, 14] [] [] (.nil)
noncomputable def sp_graph_index_of : Spec := ⟨22, ⟨[(0, .dat (.cons (.sl (.int .i64)) (.one (.sl (.int .i64))))), (1, .dat (.int .i64))], []⟩, [⟨[(0, .dat (.sl (.int .i64)))], []⟩], fun x => fn_graph_index_of x.1 x.2⟩
theorem graph_index_of_is : SpecOk Try.prog sp_graph_index_of := fn_is Try.func22 h_graph_index_of (by kernel_rfl) (by kernel_rfl)
noncomputable def ok_graph_index_of : OkSpec Try.prog := ⟨sp_graph_index_of, graph_index_of_is, Try.call22⟩

noncomputable def fn_graph_Graph_Out (xa : (Option (Int × (List (Int × Int)) × ((List Int) × (List Int)) × ((List Int) × (List Int))))) (xb : Int) : Option (List Int) :=
  (fn_graph_Graph_isNode xa xb).bind fun t48 => cond (!t48) (some ([])) ((xa : Option (Int × (List (Int × Int)) × ((List Int) × (List Int)) × ((List Int) × (List Int)))).bind fun y54 => (fn_graph_index_of (y54.2.2.1.1, y54.2.2.1.2) xb).bind fun l70 => (fn_slices_Clone_int_int l70).bind fun l79 => some (l79))
noncomputable def h_graph_Graph_Out : Hn Try.prog := .cl ok_graph_Graph_isNode [] (.tw 8 (.nil) (.cl ok_graph_index_of [] (.cl ok_slices_Clone_int_int [] (.nil))))
noncomputable def sp_graph_Graph_Out : Spec := ⟨13, ⟨[(0, .dat (.ptr (.cons (.int .i64) (.cons (.sl (.cons (.int .i64) (.one (.int .i64)))) (.cons (.cons (.sl (.int .i64)) (.one (.sl (.int .i64)))) (.one (.cons (.sl (.int .i64)) (.one (.sl (.int .i64)))))))))), (1, .dat (.int .i64))], []⟩, [⟨[(0, .own 3 (.int .i64))], []⟩], fun x => fn_graph_Graph_Out x.1 x.2⟩
theorem graph_Graph_Out_is : SpecOk Try.prog sp_graph_Graph_Out := fn_is Try.func13 h_graph_Graph_Out (by kernel_rfl) (by kernel_rfl)
noncomputable def ok_graph_Graph_Out : OkSpec Try.prog := ⟨sp_graph_Graph_Out, graph_Graph_Out_is, Try.call13⟩
noncomputable def fn_graph_Graph_Reach_l1 (y10162 : (Int × (List (Int × Int)) × ((List Int) × (List Int)) × ((List Int) × (List Int)))) (l19558 : (List Int)) : ((List Bool) × (List Int) × Int) → Option (((List Bool) × (List Int) × Int) ⊕ ((List Bool) × (List Int))) := fun ((l20174, l20179, i20184) : ((List Bool) × (List Int) × Int)) => cond (decide (i20184 < (((l19558.length : Nat) : Int)))) ((getI l19558 i20184).bind fun x20250 => (getI y10162.2.1 x20250).bind fun x20263 => (getI l20174 x20263.2).bind fun x20272 => cond (!x20272) ((getI l20174 x20263.2).bind fun x20280 => (some (l20174.set x20263.2.toNat true)).bind fun z20287 => (app l20179 ([x20263.2] : List Int)).bind fun z20295 => some (.inl ((z20287, z20295, IntKind.wrap .i64 (i20184 + 1))))) (some (.inl ((l20174, l20179, IntKind.wrap .i64 (i20184 + 1)))))) (some (.inr (((l20174, l20179)))))
noncomputable def fn_graph_Graph_Reach_l2 (y10162 : (Int × (List (Int × Int)) × ((List Int) × (List Int)) × ((List Int) × (List Int)))) : ((List Bool) × (List Int) × Int) → Option (((List Bool) × (List Int) × Int) ⊕ (List Int)) := fun ((l18610, l18615, i18620) : ((List Bool) × (List Int) × Int)) => cond (decide (i18620 < (((l18615.length : Nat) : Int)))) ((getI l18615 i18620).bind fun x19549 => (fn_graph_index_of (y10162.2.2.1.1, y10162.2.2.1.2) x19549).bind fun l19558 => (loop (fn_graph_Graph_Reach_l1 y10162 l19558) (l18610, l18615, 0) : Option (((List Bool) × (List Int)))).bind fun (l20049, l20054) => some (.inl ((l20049, l20054, IntKind.wrap .i64 (i18620 + 1))))) (some (.inr (l18615)))
noncomputable def fn_graph_Graph_Reach (xa : (Option (Int × (List (Int × Int)) × ((List Int) × (List Int)) × ((List Int) × (List Int))))) (xb : Int) : Option (List Int) :=
  (fn_graph_Graph_isNode xa xb).bind fun t10156 => cond (!t10156) (some ([])) ((xa : Option (Int × (List (Int × Int)) × ((List Int) × (List Int)) × ((List Int) × (List Int)))).bind fun y10162 => (mk y10162.1 y10162.1 false : Option (List Bool)).bind fun z10168 => (getI z10168 xb).bind fun x10173 => (some (z10168.set xb.toNat true)).bind fun z10180 => (loop (fn_graph_Graph_Reach_l2 y10162) ((z10180, ([xb] : List Int), 0)) : Option (List Int)).bind fun l16927 => (srt l16927).bind fun l20302 => some (l20302))
noncomputable def h_graph_Graph_Reach : Hn Try.prog := .ms 0 (.cl ok_graph_Graph_isNode [] (.tw 14 (.nil) (.jn [] ⟨[(6, .own 3 (.int .i64)), (19, .any), (5, .any), (20, .any), (24, .any)], []⟩ [4, 1] (.lp ⟨[(5, .own 4 .bool), (6, .own 3 (.int .i64)), (7, .dat (.int .i64))], []⟩ (.tw 28 (.mix [([0, 1, 2, 3, 4, 5, 6, 7, 10], 8)] [9] [] [] (.cl ok_graph_index_of [] (.jn [] ⟨[(5, .own 4 .bool), (6, .own 3 (.int .i64)), (26, .any), (35, .any)], []⟩ [6, 8] (.lp ⟨[(5, .own 4 .bool), (6, .own 3 (.int .i64)), (41, .dat (.int .i64))], []⟩ (.tw 42 (.tw 57 (.nil) (.nil)) (.nil))) (.nil)))) (.nil))) (.cl ok_Sort [] (.nil)))))
noncomputable def sp_graph_Graph_Reach : Spec := ⟨14, ⟨[(0, .dat (.ptr (.cons (.int .i64) (.cons (.sl (.cons (.int .i64) (.one (.int .i64)))) (.cons (.cons (.sl (.int .i64)) (.one (.sl (.int .i64)))) (.one (.cons (.sl (.int .i64)) (.one (.sl (.int .i64)))))))))), (1, .dat (.int .i64))], []⟩, [⟨[(0, .own 3 (.int .i64))], []⟩], fun x => fn_graph_Graph_Reach x.1 x.2⟩
theorem graph_Graph_Reach_is : SpecOk Try.prog sp_graph_Graph_Reach := fn_is Try.func14 h_graph_Graph_Reach (by kernel_rfl) (by kernel_rfl)
noncomputable def ok_graph_Graph_Reach : OkSpec Try.prog := ⟨sp_graph_Graph_Reach, graph_Graph_Reach_is, Try.call14⟩
noncomputable def fn_model_Outlives_l1 (xa : (Int × Int × (List (Int × Int)) × (List (List (Int × Bool))) × (List (Int × Bool)) × (List (Int × (List (Int × Int)) × (List (List (Int × Bool))) × (List (Int × Bool)))) × (List ((List (Int × Int × Int × Int × Bool)) × (Int × Int × Int × (List Int) × (List Int) × (List Int)))))) (i2087 : Int) (i3453 : Int) (l3800 : (List Int)) : ((List (Int × Int)) × Int) → Option (((List (Int × Int)) × Int) ⊕ (List (Int × Int))) := fun ((l4057, i4062) : ((List (Int × Int)) × Int)) => cond (decide (i4062 < (((l3800.length : Nat) : Int)))) ((getI l3800 i4062).bind fun x4091 => cond ((!decide (x4091 = i3453)) && (decide (x4091 < (if i2087 < xa.1 then i2087 else xa.1)))) ((app l4057 (([(i3453, x4091)] : List (Int × Int)))).bind fun z4104 => some (.inl ((z4104, IntKind.wrap .i64 (i4062 + 1))))) (some (.inl ((l4057, IntKind.wrap .i64 (i4062 + 1)))))) (some (.inr (l4057)))
noncomputable def fn_model_Outlives_l2 (xa : (Int × Int × (List (Int × Int)) × (List (List (Int × Bool))) × (List (Int × Bool)) × (List (Int × (List (Int × Int)) × (List (List (Int × Bool))) × (List (Int × Bool)))) × (List ((List (Int × Int × Int × Int × Bool)) × (Int × Int × Int × (List Int) × (List Int) × (List Int)))))) (p2061 : (Option (Int × (List (Int × Int)) × ((List Int) × (List Int)) × ((List Int) × (List Int))))) (i2087 : Int) : ((List (Int × Int)) × Int) → Option (((List (Int × Int)) × Int) ⊕ (List (Int × Int))) := fun ((l3448, i3453) : ((List (Int × Int)) × Int)) => cond (decide (i3453 < (if i2087 < xa.1 then i2087 else xa.1))) ((fn_graph_Graph_Out p2061 i3453).bind fun l3789 => cond (decide ((((l3789.length : Nat) : Int)) = 0)) (some (.inl ((l3448, IntKind.wrap .i64 (i3453 + 1))))) ((fn_graph_Graph_Reach p2061 i3453).bind fun l3800 => (loop (fn_model_Outlives_l1 xa i2087 i3453 l3800) (l3448, 0) : Option ((List (Int × Int)))).bind fun l4006 => some (.inl ((l4006, IntKind.wrap .i64 (i3453 + 1)))))) (some (.inr (l3448)))
noncomputable def fn_model_Outlives (xa : (Int × Int × (List (Int × Int)) × (List (List (Int × Bool))) × (List (Int × Bool)) × (List (Int × (List (Int × Int)) × (List (List (Int × Bool))) × (List (Int × Bool)))) × (List ((List (Int × Int × Int × Int × Bool)) × (Int × Int × Int × (List Int) × (List Int) × (List Int)))))) (xb : (List (Int × Int × (Int × Int × Int × Int × Bool)))) : Option ((List (Int × Int))) :=
  (fn_cons_Graph (xa.1, xa.2.1, xa.2.2.1, xa.2.2.2.1, xa.2.2.2.2.1, xa.2.2.2.2.2.1, xa.2.2.2.2.2.2) xb).bind fun p2061 => (fn_graph_Graph_Nodes p2061).bind fun i2087 => (loop (fn_model_Outlives_l2 xa p2061 i2087) ([], 0) : Option ((List (Int × Int)))).bind fun l3098 => some (l3098)
noncomputable def h_model_Outlives : Hn Try.prog := .cl ok_cons_Graph [] (.mix [([0, 1, 2], 3), ([], 4)] [5] [] [] (.cl ok_graph_Graph_Nodes [] (.jn [] ⟨[(7, .own 44 (.cons (.int .i64) (.one (.int .i64))))], []⟩ [0] (.lp ⟨[(7, .own 44 (.cons (.int .i64) (.one (.int .i64)))), (20, .dat (.int .i64))], []⟩ (.tw 21 (.cl ok_graph_Graph_Out [] (.tw 27 (.nil) (.cl ok_graph_Graph_Reach [] (.jn [] ⟨[(7, .own 44 (.cons (.int .i64) (.one (.int .i64)))), (25, .any)], []⟩ [4, 2] (.lp ⟨[(7, .own 44 (.cons (.int .i64) (.one (.int .i64)))), (32, .dat (.int .i64))], []⟩ (.tw 33 (.gp 3 (.tw 43 (.nil) (.nil))) (.nil))) (.nil))))) (.nil))) (.nil))))
noncomputable def sp_model_Outlives : Spec := ⟨6, ⟨[(0, .dat (.cons (.int .i64) (.cons (.int .i64) (.cons (.sl (.cons (.int .i64) (.one (.int .i64)))) (.cons (.sl (.one (.sl (.cons (.int .i64) (.one .bool))))) (.cons (.one (.sl (.cons (.int .i64) (.one .bool)))) (.cons (.sl (.cons (.int .i64) (.cons (.sl (.cons (.int .i64) (.one (.int .i64)))) (.cons (.sl (.one (.sl (.cons (.int .i64) (.one .bool))))) (.one (.one (.sl (.cons (.int .i64) (.one .bool))))))))) (.one (.sl (.cons (.sl (.cons (.int .i64) (.cons (.int .i64) (.cons (.int .i64) (.cons (.int .i64) (.one .bool)))))) (.one (.cons (.int .i64) (.cons (.int .i64) (.cons (.int .i64) (.cons (.sl (.int .i64)) (.cons (.sl (.int .i64)) (.one (.sl (.int .i64))))))))))))))))))), (1, .dat (.sl (.cons (.int .i64) (.cons (.int .i64) (.one (.cons (.int .i64) (.cons (.int .i64) (.cons (.int .i64) (.cons (.int .i64) (.one .bool))))))))))], []⟩, [⟨[(0, .own 44 (.cons (.int .i64) (.one (.int .i64))))], []⟩], fun x => fn_model_Outlives x.1 x.2⟩
theorem model_Outlives_is : SpecOk Try.prog sp_model_Outlives := fn_is Try.func6 h_model_Outlives (by kernel_rfl) (by kernel_rfl)
noncomputable def ok_model_Outlives : OkSpec Try.prog := ⟨sp_model_Outlives, model_Outlives_is, Try.call6⟩
noncomputable def fn_ref17_Bounds_l1 (xa : (List (Int × Int))) (xb : (List (Int × Int))) : Int → Option (Int ⊕ (Unit ⊕ Bool)) := fun (i757 : Int) => cond (decide (i757 < (((xa.length : Nat) : Int)))) ((getI xa i757).bind fun x889 => (getI xb i757).bind fun x898 => cond (!((decide (x889.1 = x898.1)) && ((decide (x889.2 = x898.2))))) (some (.inr ((.inr (false))))) (some (.inl (IntKind.wrap .i64 (i757 + 1))))) (some (.inr ((.inl ()))))
noncomputable def fn_ref17_Bounds (xa : (List (Int × Int))) (xb : (List (Int × Int))) : Option Bool :=
  cond (!decide ((((xa.length : Nat) : Int)) = (((xb.length : Nat) : Int)))) (some (false)) ((loop (fn_ref17_Bounds_l1 xa xb) 0 : Option (Unit ⊕ Bool)).bind fun o => match o with | .inr r => some r | .inl () => some (true))
noncomputable def h_ref17_Bounds : Hn Try.prog := .tw 10 (.nil) (.jx [] ⟨[], []⟩ [] (.lp ⟨[(5, .dat (.int .i64))], []⟩ (.tw 14 (.mix [] [0, 1, 2, 3, 4, 5, 6, 7, 8] [] [] (.tw 25 (.nil) (.nil))) (.nil))) (.nil))
noncomputable def sp_ref17_Bounds : Spec := ⟨5, ⟨[(0, .dat (.sl (.cons (.int .i64) (.one (.int .i64))))), (1, .dat (.sl (.cons (.int .i64) (.one (.int .i64)))))], []⟩, [⟨[(0, .dat .bool)], []⟩], fun x => fn_ref17_Bounds x.1 x.2⟩
theorem ref17_Bounds_is : SpecOk Try.prog sp_ref17_Bounds := fn_is Try.func5 h_ref17_Bounds (by kernel_rfl) (by kernel_rfl)
noncomputable def ok_ref17_Bounds : OkSpec Try.prog := ⟨sp_ref17_Bounds, ref17_Bounds_is, Try.call5⟩

noncomputable def fn_graph_Graph_In (xa : (Option (Int × (List (Int × Int)) × ((List Int) × (List Int)) × ((List Int) × (List Int))))) (xb : Int) : Option (List Int) :=
  (fn_graph_Graph_isNode xa xb).bind fun t48 => cond (!t48) (some ([])) ((xa : Option (Int × (List (Int × Int)) × ((List Int) × (List Int)) × ((List Int) × (List Int)))).bind fun y54 => (fn_graph_index_of (y54.2.2.2.1, y54.2.2.2.2) xb).bind fun l70 => (fn_slices_Clone_int_int l70).bind fun l79 => some (l79))
noncomputable def h_graph_Graph_In : Hn Try.prog := .cl ok_graph_Graph_isNode [] (.tw 8 (.nil) (.cl ok_graph_index_of [] (.cl ok_slices_Clone_int_int [] (.nil))))
noncomputable def sp_graph_Graph_In : Spec := ⟨18, ⟨[(0, .dat (.ptr (.cons (.int .i64) (.cons (.sl (.cons (.int .i64) (.one (.int .i64)))) (.cons (.cons (.sl (.int .i64)) (.one (.sl (.int .i64)))) (.one (.cons (.sl (.int .i64)) (.one (.sl (.int .i64)))))))))), (1, .dat (.int .i64))], []⟩, [⟨[(0, .own 3 (.int .i64))], []⟩], fun x => fn_graph_Graph_In x.1 x.2⟩
theorem graph_Graph_In_is : SpecOk Try.prog sp_graph_Graph_In := fn_is Try.func18 h_graph_Graph_In (by kernel_rfl) (by kernel_rfl)
noncomputable def ok_graph_Graph_In : OkSpec Try.prog := ⟨sp_graph_Graph_In, graph_Graph_In_is, Try.call18⟩
noncomputable def fn_model_Loose_l1 (p259 : (Option (Int × (List (Int × Int)) × ((List Int) × (List Int)) × ((List Int) × (List Int))))) (i267 : Int) : ((List Int) × Int) → Option (((List Int) × Int) ⊕ (List Int)) := fun ((l430, i435) : ((List Int) × Int)) => cond (decide (i435 < i267)) ((fn_graph_Graph_Out p259 i435).bind fun l478 => (fn_graph_Graph_In p259 i435).bind fun l488 => cond (decide ((IntKind.wrap .i64 ((((l478.length : Nat) : Int)) + (((l488.length : Nat) : Int)))) = 0)) ((app l430 ([i435] : List Int)).bind fun z500 => some (.inl ((z500, IntKind.wrap .i64 (i435 + 1))))) (some (.inl ((l430, IntKind.wrap .i64 (i435 + 1)))))) (some (.inr (l430)))
noncomputable def fn_model_Loose (xa : (Int × Int × (List (Int × Int)) × (List (List (Int × Bool))) × (List (Int × Bool)) × (List (Int × (List (Int × Int)) × (List (List (Int × Bool))) × (List (Int × Bool)))) × (List ((List (Int × Int × Int × Int × Bool)) × (Int × Int × Int × (List Int) × (List Int) × (List Int)))))) (xb : (List (Int × Int × (Int × Int × Int × Int × Bool)))) : Option (List Int) :=
  (fn_cons_Graph (xa.1, xa.2.1, xa.2.2.1, xa.2.2.2.1, xa.2.2.2.2.1, xa.2.2.2.2.2.1, xa.2.2.2.2.2.2) xb).bind fun p259 => (fn_graph_Graph_Nodes p259).bind fun i267 => (loop (fn_model_Loose_l1 p259 i267) ([], 0) : Option (List Int)).bind fun l386 => some (l386)
noncomputable def h_model_Loose : Hn Try.prog := .cl ok_cons_Graph [] (.cl ok_graph_Graph_Nodes [] (.jn [] ⟨[(6, .own 3 (.int .i64))], []⟩ [0] (.lp ⟨[(6, .own 3 (.int .i64)), (13, .dat (.int .i64))], []⟩ (.tw 14 (.cl ok_graph_Graph_Out [] (.cl ok_graph_Graph_In [] (.tw 25 (.nil) (.nil)))) (.nil))) (.nil)))
noncomputable def sp_model_Loose : Spec := ⟨9, ⟨[(0, .dat (.cons (.int .i64) (.cons (.int .i64) (.cons (.sl (.cons (.int .i64) (.one (.int .i64)))) (.cons (.sl (.one (.sl (.cons (.int .i64) (.one .bool))))) (.cons (.one (.sl (.cons (.int .i64) (.one .bool)))) (.cons (.sl (.cons (.int .i64) (.cons (.sl (.cons (.int .i64) (.one (.int .i64)))) (.cons (.sl (.one (.sl (.cons (.int .i64) (.one .bool))))) (.one (.one (.sl (.cons (.int .i64) (.one .bool))))))))) (.one (.sl (.cons (.sl (.cons (.int .i64) (.cons (.int .i64) (.cons (.int .i64) (.cons (.int .i64) (.one .bool)))))) (.one (.cons (.int .i64) (.cons (.int .i64) (.cons (.int .i64) (.cons (.sl (.int .i64)) (.cons (.sl (.int .i64)) (.one (.sl (.int .i64))))))))))))))))))), (1, .dat (.sl (.cons (.int .i64) (.cons (.int .i64) (.one (.cons (.int .i64) (.cons (.int .i64) (.cons (.int .i64) (.cons (.int .i64) (.one .bool))))))))))], []⟩, [⟨[(0, .own 3 (.int .i64))], []⟩], fun x => fn_model_Loose x.1 x.2⟩
theorem model_Loose_is : SpecOk Try.prog sp_model_Loose := fn_is Try.func9 h_model_Loose (by kernel_rfl) (by kernel_rfl)
noncomputable def ok_model_Loose : OkSpec Try.prog := ⟨sp_model_Loose, model_Loose_is, Try.call9⟩
noncomputable def fn_ref01_Same_l1 (xa : (List Int)) (xb : (List Int)) : Int → Option (Int ⊕ (Unit ⊕ Bool)) := fun (i757 : Int) => cond (decide (i757 < (((xa.length : Nat) : Int)))) ((getI xa i757).bind fun x889 => (getI xb i757).bind fun x898 => cond (!decide (x889 = x898)) (some (.inr ((.inr (false))))) (some (.inl (IntKind.wrap .i64 (i757 + 1))))) (some (.inr ((.inl ()))))
noncomputable def fn_ref01_Same (xa : (List Int)) (xb : (List Int)) : Option Bool :=
  cond (!decide ((((xa.length : Nat) : Int)) = (((xb.length : Nat) : Int)))) (some (false)) ((loop (fn_ref01_Same_l1 xa xb) 0 : Option (Unit ⊕ Bool)).bind fun o => match o with | .inr r => some r | .inl () => some (true))
noncomputable def h_ref01_Same : Hn Try.prog := .tw 10 (.nil) (.jx [] ⟨[], []⟩ [] (.lp ⟨[(5, .dat (.int .i64))], []⟩ (.tw 14 (.mix [] [0, 1, 2, 3, 4, 5, 6, 7, 8] [] [] (.tw 25 (.nil) (.nil))) (.nil))) (.nil))
noncomputable def sp_ref01_Same : Spec := ⟨8, ⟨[(0, .dat (.sl (.int .i64))), (1, .dat (.sl (.int .i64)))], []⟩, [⟨[(0, .dat .bool)], []⟩], fun x => fn_ref01_Same x.1 x.2⟩
theorem ref01_Same_is : SpecOk Try.prog sp_ref01_Same := fn_is Try.func8 h_ref01_Same (by kernel_rfl) (by kernel_rfl)
noncomputable def ok_ref01_Same : OkSpec Try.prog := ⟨sp_ref01_Same, ref01_Same_is, Try.call8⟩

noncomputable def fn_law30_awake  : Option Bool :=
  (fn_model_Outlives (2, 3, [], [], [], [], []) (([(0, 2, (0, 0, 0, 0, false)), (2, 1, (0, 0, 0, 0, false))] : List (Int × Int × (Int × Int × Int × Int × Bool))))).bind fun l105 => (fn_ref17_Bounds l105 (([(0, 1)] : List (Int × Int)))).bind fun t124 => cond (t124) ((fn_model_Loose (0, 2, [], [], [], [], []) (([(1, 1, (0, 0, 0, 0, false))] : List (Int × Int × (Int × Int × Int × Int × Bool))))).bind fun l169 => (fn_ref01_Same l169 ([0] : List Int)).bind fun t188 => some (t188)) (some (false))
noncomputable def h_law30_awake : Hn Try.prog := .per 0 1 (.cl ok_model_Outlives [] (.cl ok_ref17_Bounds [2, 4] (.two 11 (.per 6 7 (.cl ok_model_Loose [] (.cl ok_ref01_Same [8, 10] (.nil)))) (.nil))))
noncomputable def sp_law30_awake : Spec := ⟨4, ⟨[], []⟩, [⟨[(0, .dat .bool)], []⟩], fun x => fn_law30_awake⟩
theorem law30_awake_is : SpecOk Try.prog sp_law30_awake := fn_is Try.func4 h_law30_awake (by kernel_rfl) (by kernel_rfl)
noncomputable def ok_law30_awake : OkSpec Try.prog := ⟨sp_law30_awake, law30_awake_is, Try.call4⟩
noncomputable def fn_ref27_Arcs_l1 (xa : (List (Int × Int × (Int × Int × Int × Int × Bool)))) : ((List (Int × Int)) × Int) → Option (((List (Int × Int)) × Int) ⊕ (List (Int × Int))) := fun ((l2125, i2130) : ((List (Int × Int)) × Int)) => cond (decide (i2130 < (((xa.length : Nat) : Int)))) ((getI xa i2130).bind fun x2293 => (getI xa i2130).bind fun x2302 => (app l2125 (([(x2293.1, x2302.2.1)] : List (Int × Int)))).bind fun z2314 => some (.inl ((z2314, IntKind.wrap .i64 (i2130 + 1))))) (some (.inr (l2125)))
noncomputable def fn_ref27_Arcs (xa : (List (Int × Int × (Int × Int × Int × Int × Bool)))) : Option ((List (Int × Int))) :=
  (loop (fn_ref27_Arcs_l1 xa) ((([] : List (Int × Int)), 0)) : Option ((List (Int × Int)))).bind fun l1932 => some (l1932)
noncomputable def h_ref27_Arcs : Hn Try.prog := .jn [] ⟨[(3, .own 67 (.cons (.int .i64) (.one (.int .i64)))), (5, .any)], []⟩ [0] (.lp ⟨[(3, .own 67 (.cons (.int .i64) (.one (.int .i64)))), (4, .dat (.int .i64))], []⟩ (.tw 9 (.mix [([0, 1, 2, 3, 4, 5, 6, 7, 8, 9, 10, 11], 12)] [] [13, 14] [] (.nil)) (.nil))) (.nil)
noncomputable def sp_ref27_Arcs : Spec := ⟨15, ⟨[(0, .dat (.sl (.cons (.int .i64) (.cons (.int .i64) (.one (.cons (.int .i64) (.cons (.int .i64) (.cons (.int .i64) (.cons (.int .i64) (.one .bool))))))))))], []⟩, [⟨[(0, .own 67 (.cons (.int .i64) (.one (.int .i64))))], []⟩], fun x => fn_ref27_Arcs x⟩
theorem ref27_Arcs_is : SpecOk Try.prog sp_ref27_Arcs := fn_is Try.func15 h_ref27_Arcs (by kernel_rfl) (by kernel_rfl)
noncomputable def ok_ref27_Arcs : OkSpec Try.prog := ⟨sp_ref27_Arcs, ref27_Arcs_is, Try.call15⟩
noncomputable def fn_ref10_Check_l1 (xa : Int) (xb : (List (Int × Int))) : Int → Option (Int ⊕ (Unit ⊕ Int)) := fun (i763 : Int) => cond (decide (i763 < (((xb.length : Nat) : Int)))) ((getI xb i763).bind fun x841 => (cond (decide (x841.1 < 0)) (some (true)) ((getI xb i763).bind fun x862 => some (decide (xa ≤ x862.1)))).bind fun t860 => (cond (t860) (some (true)) ((getI xb i763).bind fun x883 => some (decide (x883.2 < 0)))).bind fun t881 => (cond (t881) (some (true)) ((getI xb i763).bind fun x904 => some (decide (xa ≤ x904.2)))).bind fun t902 => cond (t902) (some (.inr ((.inr (7))))) (some (.inl (IntKind.wrap .i64 (i763 + 1))))) (some (.inr ((.inl ()))))
noncomputable def fn_ref10_Check (xa : Int) (xb : (List (Int × Int))) : Option Int :=
  cond (decide (xa < 0)) (some (2)) (cond ((decide (1048576 < xa)) || (decide (67108864 < (((xb.length : Nat) : Int))))) (some (5)) ((loop (fn_ref10_Check_l1 xa xb) 0 : Option (Unit ⊕ Int)).bind fun o => match o with | .inr r => some r | .inl () => some (0)))
noncomputable def h_ref10_Check : Hn Try.prog := .tw 7 (.nil) (.gp 3 (.tw 14 (.nil) (.jx [] ⟨[], []⟩ [] (.lp ⟨[(5, .dat (.int .i64))], []⟩ (.tw 18 (.gj 7 ⟨[(35, .dat .bool)], []⟩ [] (.two 27 (.nil) (.nil)) (.gj 6 ⟨[(43, .dat .bool)], []⟩ [] (.two 36 (.nil) (.nil)) (.gj 7 ⟨[(52, .dat .bool)], []⟩ [] (.two 44 (.nil) (.nil)) (.tw 52 (.nil) (.nil))))) (.nil))) (.nil))))
noncomputable def sp_ref10_Check : Spec := ⟨16, ⟨[(0, .dat (.int .i64)), (1, .dat (.sl (.cons (.int .i64) (.one (.int .i64)))))], []⟩, [⟨[(0, .dat (.int .i64))], []⟩], fun x => fn_ref10_Check x.1 x.2⟩
theorem ref10_Check_is : SpecOk Try.prog sp_ref10_Check := fn_is Try.func16 h_ref10_Check (by kernel_rfl) (by kernel_rfl)
noncomputable def ok_ref10_Check : OkSpec Try.prog := ⟨sp_ref10_Check, ref10_Check_is, Try.call16⟩
noncomputable def fn_ref10_Reach_l1 (xb : (List (Int × Int))) : ((List Int) × Bool × Int) → Option (((List Int) × Bool × Int) ⊕ ((List Int) × Bool)) := fun ((l23053, t23058, i23059) : ((List Int) × Bool × Int)) => cond (decide (i23059 < (((xb.length : Nat) : Int)))) ((getI xb i23059).bind fun x23143 => (getI l23053 x23143.1).bind fun x23152 => (cond (decide (x23152 = 1)) ((getI xb i23059).bind fun x23178 => (getI l23053 x23178.2).bind fun x23187 => some (decide (x23187 = 0))) (some (false))).bind fun t23176 => cond (t23176) ((getI xb i23059).bind fun x23195 => (getI l23053 x23195.2).bind fun x23204 => (some (l23053.set x23195.2.toNat 1)).bind fun z23211 => some (.inl ((z23211, true, IntKind.wrap .i64 (i23059 + 1))))) (some (.inl ((l23053, t23058, IntKind.wrap .i64 (i23059 + 1)))))) (some (.inr (((l23053, t23058)))))
noncomputable def fn_ref10_Reach_l2 (xb : (List (Int × Int))) : ((List Int) × Bool) → Option (((List Int) × Bool) ⊕ (List Int)) := fun ((l21281, t21286) : ((List Int) × Bool)) => cond (t21286) ((loop (fn_ref10_Reach_l1 xb) (l21281, false, 0) : Option (((List Int) × Bool))).bind fun (l22892, t22897) => some (.inl (l22892, t22897))) (some (.inr (l21281)))
noncomputable def fn_ref10_Reach (xa : Int) (xb : (List (Int × Int))) (xc : Int) : Option (List Int) :=
  (mk xa xa 0 : Option (List Int)).bind fun z11611 => (getI z11611 xc).bind fun x11616 => (some (z11611.set xc.toNat 1)).bind fun z11623 => (loop (fn_ref10_Reach_l2 xb) (z11623, true) : Option (List Int)).bind fun l19350 => some (l19350)
noncomputable def h_ref10_Reach : Hn Try.prog := .jn [] ⟨[(7, .own 3 (.int .i64)), (11, .any), (12, .any)], []⟩ [0] (.lp ⟨[(7, .own 3 (.int .i64)), (8, .dat .bool)], []⟩ (.tw 15 (.pl (.jn [] ⟨[(7, .own 3 (.int .i64)), (8, .dat .bool)], []⟩ [3] (.lp ⟨[(7, .own 3 (.int .i64)), (8, .dat .bool), (9, .dat (.int .i64))], []⟩ (.tw 19 (.gj 9 ⟨[(41, .dat .bool)], []⟩ [] (.two 31 (.nil) (.nil)) (.tw 41 (.nil) (.nil))) (.nil))) (.nil))) (.nil))) (.nil)
noncomputable def sp_ref10_Reach : Spec := ⟨17, ⟨[(0, .dat (.int .i64)), (1, .dat (.sl (.cons (.int .i64) (.one (.int .i64))))), (2, .dat (.int .i64))], []⟩, [⟨[(0, .own 3 (.int .i64))], []⟩], fun x => fn_ref10_Reach x.1 x.2.1 x.2.2⟩
theorem ref10_Reach_is : SpecOk Try.prog sp_ref10_Reach := fn_is Try.func17 h_ref10_Reach (by kernel_rfl) (by kernel_rfl)
noncomputable def ok_ref10_Reach : OkSpec Try.prog := ⟨sp_ref10_Reach, ref10_Reach_is, Try.call17⟩
noncomputable def fn_ref30_Outlives_l1 (xa : (Int × Int × (List (Int × Int)) × (List (List (Int × Bool))) × (List (Int × Bool)) × (List (Int × (List (Int × Int)) × (List (List (Int × Bool))) × (List (Int × Bool)))) × (List ((List (Int × Int × Int × Int × Bool)) × (Int × Int × Int × (List Int) × (List Int) × (List Int)))))) (i14038 : Int) (l14486 : (List Int)) : ((List (Int × Int)) × Int) → Option (((List (Int × Int)) × Int) ⊕ (List (Int × Int))) := fun ((l14843, i14848) : ((List (Int × Int)) × Int)) => cond ((decide (i14848 < xa.1)) && (decide (i14848 < xa.2.1))) ((cond (!decide (i14848 = i14038)) ((getI l14486 i14848).bind fun x14899 => some (decide (x14899 = 1))) (some (false))).bind fun t14897 => cond (t14897) ((app l14843 (([(i14038, i14848)] : List (Int × Int)))).bind fun z14910 => some (.inl ((z14910, IntKind.wrap .i64 (i14848 + 1))))) (some (.inl ((l14843, IntKind.wrap .i64 (i14848 + 1)))))) (some (.inr (l14843)))
noncomputable def fn_ref30_Outlives_l2 (xa : (Int × Int × (List (Int × Int)) × (List (List (Int × Bool))) × (List (Int × Bool)) × (List (Int × (List (Int × Int)) × (List (List (Int × Bool))) × (List (Int × Bool)))) × (List ((List (Int × Int × Int × Int × Bool)) × (Int × Int × Int × (List Int) × (List Int) × (List Int)))))) (l7467 : (List (Int × Int))) : ((List (Int × Int)) × Int) → Option (((List (Int × Int)) × Int) ⊕ (List (Int × Int))) := fun ((l14033, i14038) : ((List (Int × Int)) × Int)) => cond ((decide (i14038 < xa.1)) && (decide (i14038 < xa.2.1))) ((fn_ref10_Reach xa.2.1 l7467 i14038).bind fun l14486 => (loop (fn_ref30_Outlives_l1 xa i14038 l14486) (l14033, 0) : Option ((List (Int × Int)))).bind fun l14772 => some (.inl ((l14772, IntKind.wrap .i64 (i14038 + 1))))) (some (.inr (l14033)))
noncomputable def fn_ref30_Outlives (xa : (Int × Int × (List (Int × Int)) × (List (List (Int × Bool))) × (List (Int × Bool)) × (List (Int × (List (Int × Int)) × (List (List (Int × Bool))) × (List (Int × Bool)))) × (List ((List (Int × Int × Int × Int × Bool)) × (Int × Int × Int × (List Int) × (List Int) × (List Int)))))) (xb : (List (Int × Int × (Int × Int × Int × Int × Bool)))) : Option ((List (Int × Int))) :=
  (fn_ref27_Arcs xb).bind fun l7467 => (fn_ref10_Check xa.2.1 l7467).bind fun i7480 => cond (!decide (i7480 = 0)) (some (([] : List (Int × Int)))) ((loop (fn_ref30_Outlives_l2 xa l7467) ((([] : List (Int × Int)), 0)) : Option ((List (Int × Int)))).bind fun l13164 => some (l13164))
noncomputable def h_ref30_Outlives : Hn Try.prog := .cl ok_ref27_Arcs [] (.cl ok_ref10_Check [4] (.tw 17 (.nil) (.per 4 5 (.jn [] ⟨[(5, .own 44 (.cons (.int .i64) (.one (.int .i64)))), (10, .any)], []⟩ [2] (.lp ⟨[(5, .own 44 (.cons (.int .i64) (.one (.int .i64)))), (7, .dat (.int .i64))], []⟩ (.gp 4 (.tw 28 (.cl ok_ref10_Reach [] (.jn [] ⟨[(5, .own 44 (.cons (.int .i64) (.one (.int .i64))))], []⟩ [6] (.lp ⟨[(5, .own 44 (.cons (.int .i64) (.one (.int .i64)))), (9, .dat (.int .i64))], []⟩ (.gp 4 (.tw 45 (.gj 5 ⟨[(57, .dat .bool)], []⟩ [] (.two 51 (.nil) (.nil)) (.tw 57 (.nil) (.nil))) (.nil)))) (.nil))) (.nil)))) (.nil)))))
noncomputable def sp_ref30_Outlives : Spec := ⟨7, ⟨[(0, .dat (.cons (.int .i64) (.cons (.int .i64) (.cons (.sl (.cons (.int .i64) (.one (.int .i64)))) (.cons (.sl (.one (.sl (.cons (.int .i64) (.one .bool))))) (.cons (.one (.sl (.cons (.int .i64) (.one .bool)))) (.cons (.sl (.cons (.int .i64) (.cons (.sl (.cons (.int .i64) (.one (.int .i64)))) (.cons (.sl (.one (.sl (.cons (.int .i64) (.one .bool))))) (.one (.one (.sl (.cons (.int .i64) (.one .bool))))))))) (.one (.sl (.cons (.sl (.cons (.int .i64) (.cons (.int .i64) (.cons (.int .i64) (.cons (.int .i64) (.one .bool)))))) (.one (.cons (.int .i64) (.cons (.int .i64) (.cons (.int .i64) (.cons (.sl (.int .i64)) (.cons (.sl (.int .i64)) (.one (.sl (.int .i64))))))))))))))))))), (1, .dat (.sl (.cons (.int .i64) (.cons (.int .i64) (.one (.cons (.int .i64) (.cons (.int .i64) (.cons (.int .i64) (.cons (.int .i64) (.one .bool))))))))))], []⟩, [⟨[(0, .own 44 (.cons (.int .i64) (.one (.int .i64))))], []⟩], fun x => fn_ref30_Outlives x.1 x.2⟩
theorem ref30_Outlives_is : SpecOk Try.prog sp_ref30_Outlives := fn_is Try.func7 h_ref30_Outlives (by kernel_rfl) (by kernel_rfl)
noncomputable def ok_ref30_Outlives : OkSpec Try.prog := ⟨sp_ref30_Outlives, ref30_Outlives_is, Try.call7⟩
noncomputable def fn_ref30_Loose_l1 (xb : (List (Int × Int × (Int × Int × Int × Int × Bool)))) (i10778 : Int) : (Bool × Int) → Option ((Bool × Int) ⊕ Bool) := fun ((t11639, i11640) : (Bool × Int)) => cond (decide (i11640 < (((xb.length : Nat) : Int)))) ((cond (t11639) (some (true)) ((getI xb i11640).bind fun x11700 => some (decide (x11700.1 = i10778)))).bind fun t11698 => (cond (t11698) (some (true)) ((getI xb i11640).bind fun x11721 => some (decide (x11721.2.1 = i10778)))).bind fun t11719 => some (.inl ((t11719, IntKind.wrap .i64 (i11640 + 1))))) (some (.inr (t11639)))
noncomputable def fn_ref30_Loose_l2 (xa : (Int × Int × (List (Int × Int)) × (List (List (Int × Bool))) × (List (Int × Bool)) × (List (Int × (List (Int × Int)) × (List (List (Int × Bool))) × (List (Int × Bool)))) × (List ((List (Int × Int × Int × Int × Bool)) × (Int × Int × Int × (List Int) × (List Int) × (List Int)))))) (xb : (List (Int × Int × (Int × Int × Int × Int × Bool)))) : ((List Int) × Int) → Option (((List Int) × Int) ⊕ (List Int)) := fun ((l10773, i10778) : ((List Int) × Int)) => cond (decide (i10778 < xa.2.1)) ((loop (fn_ref30_Loose_l1 xb i10778) (false, 0) : Option Bool).bind fun t11574 => cond (!t11574) ((app l10773 ([i10778] : List Int)).bind fun z11734 => some (.inl ((z11734, IntKind.wrap .i64 (i10778 + 1))))) (some (.inl ((l10773, IntKind.wrap .i64 (i10778 + 1)))))) (some (.inr (l10773)))
noncomputable def fn_ref30_Loose (xa : (Int × Int × (List (Int × Int)) × (List (List (Int × Bool))) × (List (Int × Bool)) × (List (Int × (List (Int × Int)) × (List (List (Int × Bool))) × (List (Int × Bool)))) × (List ((List (Int × Int × Int × Int × Bool)) × (Int × Int × Int × (List Int) × (List Int) × (List Int)))))) (xb : (List (Int × Int × (Int × Int × Int × Int × Bool)))) : Option (List Int) :=
  (fn_ref27_Arcs xb).bind fun l5936 => (fn_ref10_Check xa.2.1 l5936).bind fun i5949 => cond (!decide (i5949 = 0)) (some (([] : List Int))) ((loop (fn_ref30_Loose_l2 xa xb) ((([] : List Int), 0)) : Option (List Int)).bind fun l9808 => some (l9808))
noncomputable def h_ref30_Loose : Hn Try.prog := .mix [([0, 1, 2], 3), ([], 4)] [5] [] [] (.cl ok_ref27_Arcs [] (.cl ok_ref10_Check [4] (.tw 15 (.nil) (.jn [] ⟨[(5, .own 3 (.int .i64)), (9, .any), (13, .any)], []⟩ [4, 2] (.lp ⟨[(5, .own 3 (.int .i64)), (6, .dat (.int .i64))], []⟩ (.tw 20 (.pl (.pl (.jn [] ⟨[(7, .dat .bool)], []⟩ [] (.lp ⟨[(7, .dat .bool), (8, .dat (.int .i64))], []⟩ (.tw 26 (.gj 7 ⟨[(38, .dat .bool)], []⟩ [] (.two 30 (.nil) (.nil)) (.gj 7 ⟨[(47, .dat .bool)], []⟩ [] (.two 39 (.nil) (.nil)) (.nil))) (.nil))) (.tw 49 (.nil) (.nil))))) (.nil))) (.nil)))))
noncomputable def sp_ref30_Loose : Spec := ⟨10, ⟨[(0, .dat (.cons (.int .i64) (.cons (.int .i64) (.cons (.sl (.cons (.int .i64) (.one (.int .i64)))) (.cons (.sl (.one (.sl (.cons (.int .i64) (.one .bool))))) (.cons (.one (.sl (.cons (.int .i64) (.one .bool)))) (.cons (.sl (.cons (.int .i64) (.cons (.sl (.cons (.int .i64) (.one (.int .i64)))) (.cons (.sl (.one (.sl (.cons (.int .i64) (.one .bool))))) (.one (.one (.sl (.cons (.int .i64) (.one .bool))))))))) (.one (.sl (.cons (.sl (.cons (.int .i64) (.cons (.int .i64) (.cons (.int .i64) (.cons (.int .i64) (.one .bool)))))) (.one (.cons (.int .i64) (.cons (.int .i64) (.cons (.int .i64) (.cons (.sl (.int .i64)) (.cons (.sl (.int .i64)) (.one (.sl (.int .i64))))))))))))))))))), (1, .dat (.sl (.cons (.int .i64) (.cons (.int .i64) (.one (.cons (.int .i64) (.cons (.int .i64) (.cons (.int .i64) (.cons (.int .i64) (.one .bool))))))))))], []⟩, [⟨[(0, .own 3 (.int .i64))], []⟩], fun x => fn_ref30_Loose x.1 x.2⟩
theorem ref30_Loose_is : SpecOk Try.prog sp_ref30_Loose := fn_is Try.func10 h_ref30_Loose (by kernel_rfl) (by kernel_rfl)
noncomputable def ok_ref30_Loose : OkSpec Try.prog := ⟨sp_ref30_Loose, ref30_Loose_is, Try.call10⟩

noncomputable def fn_law30_ModelOutlives (xa : Int) (xb : Int) (xc : (List (Int × Int × (Int × Int × Int × Int × Bool)))) : Option Bool :=
  cond (((decide (20 < xa)) || (decide (20 < xb))) || (decide (80 < (((xc.length : Nat) : Int))))) ((fn_law30_awake).bind fun t309 => some (t309)) ((fn_model_Outlives (xa, xb, [], [], [], [], []) xc).bind fun l532 => (fn_ref30_Outlives (xa, xb, [], [], [], [], []) xc).bind fun l542 => (fn_ref17_Bounds l532 l542).bind fun t558 => cond (t558) ((fn_model_Loose (xa, xb, [], [], [], [], []) xc).bind fun l565 => (fn_ref30_Loose (xa, xb, [], [], [], [], []) xc).bind fun l575 => (fn_ref01_Same l565 l575).bind fun t591 => cond (t591) ((fn_law30_awake).bind fun t598 => some (t598)) (some (false))) (some (false)))
noncomputable def h_law30_ModelOutlives : Hn Try.prog := .gp 2 (.gp 3 (.tw 18 (.cl ok_law30_awake [] (.nil)) (.mix [([0, 1, 3, 4], 2), ([], 5), ([], 6), ([7, 8, 9, 11, 12], 10), ([], 13), ([], 14), ([15, 16], 17)] [18, 19] [] [] (.cl ok_model_Outlives [] (.cl ok_ref30_Outlives [] (.cl ok_ref17_Bounds [3, 5] (.two 30 (.cl ok_model_Loose [] (.cl ok_ref30_Loose [] (.cl ok_ref01_Same [7, 9] (.two 39 (.cl ok_law30_awake [] (.nil)) (.nil))))) (.nil))))))))
noncomputable def sp_law30_ModelOutlives : Spec := ⟨3, ⟨[(0, .dat (.int .i64)), (1, .dat (.int .i64)), (2, .dat (.sl (.cons (.int .i64) (.cons (.int .i64) (.one (.cons (.int .i64) (.cons (.int .i64) (.cons (.int .i64) (.cons (.int .i64) (.one .bool))))))))))], []⟩, [⟨[(0, .dat .bool)], []⟩], fun x => fn_law30_ModelOutlives x.1 x.2.1 x.2.2⟩
theorem law30_ModelOutlives_is : SpecOk Try.prog sp_law30_ModelOutlives := fn_is Try.func3 h_law30_ModelOutlives (by kernel_rfl) (by kernel_rfl)
noncomputable def ok_law30_ModelOutlives : OkSpec Try.prog := ⟨sp_law30_ModelOutlives, law30_ModelOutlives_is, Try.call3⟩
end Go.Proofs.Ytmbdoknljjoejaa
namespace Go.Proofs.Ytmbdoknljjoejaa
set_option linter.unusedVariables false
section
variable {σ β : Type} {body : σ → Option (σ ⊕ β)}
theorem loop_nat (st : Nat → σ) (n : Nat) {b : β} (h : ∀ k, k < n → body (st k) = some (.inl (st (k + 1)))) (he : body (st n) = some (.inr b)) : loop body (st 0) = some b := by
  have : ∀ m k, k + m = n → loop body (st k) = some b := by
    intro m
    induction m with
    | zero => intro k hk; have : k = n := by omega
              subst this; exact loop_end he
    | succ m ih => intro k hk; rw [loop_next (h k (by omega))]; exact ih (k + 1) (by omega)
  exact this n 0 (by omega)
theorem least (p : Nat → Prop) : ∀ n, (∃ k, k < n ∧ p k ∧ ∀ j, j < k → ¬ p j) ∨ ∀ j, j < n → ¬ p j
  | 0 => .inr (fun j hj => by omega)
  | n + 1 => by
    rcases least p n with ⟨k, h1, h2, h3⟩ | h
    · exact .inl ⟨k, by omega, h2, h3⟩
    · by_cases hp : p n
      · exact .inl ⟨n, by omega, hp, h⟩
      · exact .inr (fun j hj => if e : j = n then e ▸ hp else h j (by omega))
theorem loop_find (p : Nat → Prop) (st : Nat → σ) (n : Nat) (hit : Nat → β) (e : β) (hgo : ∀ k, k < n → ¬ p k → body (st k) = some (.inl (st (k + 1)))) (hhit : ∀ k, k < n → p k → body (st k) = some (.inr (hit k))) (hend : body (st n) = some (.inr e)) :
    (∃ k, k < n ∧ p k ∧ (∀ j, j < k → ¬ p j) ∧ loop body (st 0) = some (hit k)) ∨ ((∀ j, j < n → ¬ p j) ∧ loop body (st 0) = some e) := by
  rcases least p n with ⟨k, h1, h2, h3⟩ | h
  · exact .inl ⟨k, h1, h2, h3, loop_nat st k (fun j hj => hgo j (by omega) (h3 j hj)) (hhit k h1 h2)⟩
  · exact .inr ⟨h, loop_nat st n (fun k hk => hgo k hk (h k hk)) hend⟩
open Classical in
theorem loop_any (p : Nat → Prop) (st : Nat → σ) (n : Nat) (b e : β) (hgo : ∀ k, k < n → ¬ p k → body (st k) = some (.inl (st (k + 1)))) (hhit : ∀ k, k < n → p k → body (st k) = some (.inr b)) (hend : body (st n) = some (.inr e)) :
    loop body (st 0) = some (if ∃ k, k < n ∧ p k then b else e) := by
  rcases loop_find p st n (fun _ => b) e hgo hhit hend with ⟨k, h1, h2, h3, h4⟩ | ⟨h1, h2⟩
  · rw [if_pos ⟨k, h1, h2⟩]; exact h4
  · rw [if_neg (fun ⟨k, h3, h4⟩ => h1 k h3 h4)]; exact h2
end
theorem w64 {x : Int} (h1 : -9223372036854775808 ≤ x) (h2 : x ≤ 9223372036854775807) : IntKind.wrap .i64 x = x := by
  rw [IntWalk.i64_left, IntWalk.wrap64_in _ ⟨h1, h2⟩]
theorem w64s {k n : Nat} (h : k < n) (hn : n ≤ 9223372036854775807) : IntKind.wrap .i64 ((k : Int) + 1) = ((k + 1 : Nat) : Int) := by
  rw [w64 (by omega) (by omega)]; rfl
theorem ne_list {α : Type} {xs ys : List α} (h : xs.length = ys.length) : (∃ k, k < xs.length ∧ xs[k]? ≠ ys[k]?) ↔ xs ≠ ys := by
  constructor
  · rintro ⟨k, _, h2⟩ rfl; exact h2 rfl
  · intro hne
    rcases least (fun k => xs[k]? ≠ ys[k]?) xs.length with ⟨k, h1, h2, _⟩ | h'
    · exact ⟨k, h1, h2⟩
    · exfalso; apply hne
      apply List.ext_getElem? 
      intro k
      by_cases hk : k < xs.length
      · exact Classical.byContradiction (fun hc => h' k hk hc)
      · rw [List.getElem?_eq_none (by omega), List.getElem?_eq_none (by omega)]
theorem getN {α : Type} {l : List α} {k : Nat} (h : k < l.length) : getI l (k : Int) = some l[k] := getI_eq rfl h
theorem any_ex {α : Type} {t : α → Bool} {l : List α} : l.any t = true ↔ ∃ k, k < l.length ∧ (l[k]?.map t) = some true := by
  rw [List.any_eq_true]
  constructor
  · rintro ⟨x, hx, h⟩
    obtain ⟨k, hk, rfl⟩ := List.getElem_of_mem hx
    exact ⟨k, hk, by simp [hk, h]⟩
  · rintro ⟨k, hk, h⟩
    exact ⟨l[k], List.getElem_mem hk, by simpa [hk] using h⟩
/-- A list searched. -/
theorem loop_one {α β : Type} (xa : List α) (t : α → Bool) (hit e : β) (hn : xa.length ≤ 9223372036854775807) :
    loop (fun (i : Int) => (cond (decide (i < ((xa.length : Nat) : Int))) ((getI xa i).bind fun x => cond (t x) (some (.inr hit)) (some (.inl (IntKind.wrap .i64 (i + 1))))) (some (.inr e)) : Option (Int ⊕ β))) 0 = some (if xa.any t then hit else e) := by
  classical
  have h := loop_any (body := fun (i : Int) => (cond (decide (i < ((xa.length : Nat) : Int))) ((getI xa i).bind fun x => cond (t x) (some (.inr hit)) (some (.inl (IntKind.wrap .i64 (i + 1))))) (some (.inr e)) : Option (Int ⊕ β)))
    (fun k => (xa[k]?.map t) = some true) (fun k : Nat => (k : Int)) xa.length hit e ?_ ?_ ?_
  · refine h.trans ?_
    by_cases hh : xa.any t = true
    · rw [if_pos (any_ex.1 hh), if_pos hh]
    · rw [if_neg (fun h => hh (any_ex.2 h)), if_neg hh]
  · intro k hk hp
    simp [hk] at hp
    simp [hk, getN hk, hp, w64s hk hn]
  · intro k hk hp
    simp [hk] at hp
    simp [hk, getN hk, hp]
  · simp
/-- Two lists searched, hand in hand. -/
theorem loop_two {α γ β : Type} (xa : List α) (xb : List γ) (t : α → γ → Bool) (hit e : β) (hl : xa.length = xb.length) (hn : xa.length ≤ 9223372036854775807) :
    loop (fun (i : Int) => (cond (decide (i < ((xa.length : Nat) : Int))) ((getI xa i).bind fun x => (getI xb i).bind fun y => cond (t x y) (some (.inr hit)) (some (.inl (IntKind.wrap .i64 (i + 1))))) (some (.inr e)) : Option (Int ⊕ β))) 0 = some (if (xa.zip xb).any (fun p => t p.1 p.2) then hit else e) := by
  classical
  have hz : (xa.zip xb).length = xa.length := by simp [hl]
  have h := loop_any (body := fun (i : Int) => (cond (decide (i < ((xa.length : Nat) : Int))) ((getI xa i).bind fun x => (getI xb i).bind fun y => cond (t x y) (some (.inr hit)) (some (.inl (IntKind.wrap .i64 (i + 1))))) (some (.inr e)) : Option (Int ⊕ β)))
    (fun k => ((xa.zip xb)[k]?.map fun p => t p.1 p.2) = some true) (fun k : Nat => (k : Int)) xa.length hit e ?_ ?_ ?_
  · refine h.trans ?_
    have ha := any_ex (t := fun p : α × γ => t p.1 p.2) (l := xa.zip xb)
    rw [hz] at ha
    by_cases hh : (xa.zip xb).any (fun p => t p.1 p.2) = true
    · rw [if_pos (ha.1 hh), if_pos hh]
    · rw [if_neg (fun h => hh (ha.2 h)), if_neg hh]
  · intro k hk hp
    have hk2 : k < xb.length := by omega
    have hk3 : k < (xa.zip xb).length := by omega
    have hz3 : (xa.zip xb)[k]? = some (xa[k], xb[k]) := by rw [List.getElem?_eq_getElem hk3, List.getElem_zip]
    rw [hz3] at hp
    simp at hp
    simp [hk, getN hk, getN hk2, hp, w64s hk hn]
  · intro k hk hp
    have hk2 : k < xb.length := by omega
    have hk3 : k < (xa.zip xb).length := by omega
    have hz3 : (xa.zip xb)[k]? = some (xa[k], xb[k]) := by rw [List.getElem?_eq_getElem hk3, List.getElem_zip]
    rw [hz3] at hp
    simp at hp
    simp [hk, getN hk, getN hk2, hp]
  · simp
theorem zip_any_ne {α : Type} [DecidableEq α] {xs ys : List α} (h : xs.length = ys.length) : (xs.zip ys).any (fun p => !decide (p.1 = p.2)) = !decide (xs = ys) := by
  induction xs generalizing ys with
  | nil => cases ys with
    | nil => rfl
    | cons => cases h
  | cons x xs ih => cases ys with
    | nil => cases h
    | cons y ys =>
      simp only [List.zip_cons_cons, List.any_cons, ih (by simpa using h), List.cons.injEq]
      by_cases h1 : x = y <;> simp [h1]
/-- A list searched for a place. -/
theorem loop_idx {α γ : Type} (xa : List α) (t : α → γ → Bool) (q : γ) (hn : xa.length ≤ 9223372036854775807) :
    ∃ r, loop (fun ((i, c) : Int × γ) => (cond (decide (i < ((xa.length : Nat) : Int))) ((getI xa i).bind fun x => cond (t x c) (some (.inr (.inr (i, c)))) (some (.inl (IntKind.wrap .i64 (i + 1), c)))) (some (.inr (.inl c))) : Option ((Int × γ) ⊕ (γ ⊕ (Int × γ))))) (0, q) = some r ∧ ((r = .inl q ∧ xa.any (t · q) = false) ∨ ∃ k : Nat, r = .inr ((k : Int), q) ∧ xa.any (t · q) = true) := by
  have h := loop_find (body := fun ((i, c) : Int × γ) => (cond (decide (i < ((xa.length : Nat) : Int))) ((getI xa i).bind fun x => cond (t x c) (some (.inr (.inr (i, c)))) (some (.inl (IntKind.wrap .i64 (i + 1), c)))) (some (.inr (.inl c))) : Option ((Int × γ) ⊕ (γ ⊕ (Int × γ)))))
    (fun k => (xa[k]?.map (t · q)) = some true) (fun k : Nat => ((k : Int), q)) xa.length (fun k => .inr ((k : Int), q)) (.inl q) ?_ ?_ ?_
  · rcases h with ⟨k, h1, h2, _, h3⟩ | ⟨h1, h2⟩
    · exact ⟨_, h3, .inr ⟨k, rfl, any_ex.2 ⟨k, h1, h2⟩⟩⟩
    · refine ⟨_, h2, .inl ⟨rfl, ?_⟩⟩
      cases hh : xa.any (t · q) with
      | false => rfl
      | true => obtain ⟨k, h3, h4⟩ := any_ex.1 hh; exact absurd h4 (h1 k h3)
  · intro k hk hp
    simp [hk] at hp
    simp [hk, getN hk, hp, w64s hk hn]
  · intro k hk hp
    simp [hk] at hp
    simp [hk, getN hk, hp]
  · simp
/-- A list gone through, with something carried along. -/
theorem loop_fold {α γ : Type} (xa : List α) (f : γ → α → γ) (c0 : γ) (hn : xa.length ≤ 9223372036854775807) {body : γ × Int → Option ((γ × Int) ⊕ γ)}
    (hb : ∀ k x, xa[k]? = some x → body ((xa.take k).foldl f c0, (k : Int)) = some (.inl (f ((xa.take k).foldl f c0) x, IntKind.wrap .i64 ((k : Int) + 1)))) (he : body (xa.foldl f c0, (xa.length : Int)) = some (.inr (xa.foldl f c0))) : loop body (c0, 0) = some (xa.foldl f c0) := by
  have h := loop_nat (body := body) (fun k : Nat => ((xa.take k).foldl f c0, (k : Int))) xa.length (b := xa.foldl f c0) ?_ ?_
  · simpa using h
  · intro k hk
    rw [hb k xa[k] (by simp [hk]), w64s hk hn]
    congr 3
    rw [List.take_succ_eq_append_getElem hk, List.foldl_append]; rfl
  · simpa using he
theorem foldl_snoc {α γ : Type} (g : α → γ) (xa : List α) (c : List γ) : xa.foldl (fun c x => c ++ [g x]) c = c ++ xa.map g := by
  induction xa generalizing c with
  | nil => simp
  | cons x xa ih => simp [ih]
/-- A list built by going through another. -/
theorem loop_map {α γ : Type} (xa : List α) (g : α → γ) (c0 : List γ) (hn : c0.length + xa.length ≤ 1073741824) {body : List γ × Int → Option ((List γ × Int) ⊕ List γ)}
    (hb : ∀ (c : List γ) (i : Int), body (c, i) = cond (decide (i < ((xa.length : Nat) : Int))) ((getI xa i).bind fun x => (app c [g x]).bind fun z => some (.inl (z, IntKind.wrap .i64 (i + 1)))) (some (.inr c))) : loop body (c0, 0) = some (c0 ++ xa.map g) := by
  rw [← foldl_snoc]
  refine loop_fold xa (fun c x => c ++ [g x]) c0 (by omega) (fun k x hx => ?_) ?_
  · have hk := (List.getElem?_eq_some_iff.1 hx).1
    rw [hb, foldl_snoc]
    have hx' : xa[k] = x := by rw [List.getElem?_eq_getElem hk] at hx; exact Option.some.inj hx
    have ha := app_eq (a := c0 ++ (xa.take k).map g) (b := [g x]) (by simp; omega)
    simp only [Option.bind_some, getN hk, hx', ha, Int.ofNat_lt.2 hk, decide_true, cond_true]
  · rw [hb]; simp
end Go.Proofs.Ytmbdoknljjoejaa
namespace Go.Proofs.Ytmbdoknljjoejaa
set_option linter.unusedVariables false
theorem bind_of {α β : Type} {m : Option α} {f : α → Option β} {y : β} {Q : α → Prop} (h : ∃ r, m = some r ∧ Q r) (k : ∀ r, Q r → f r = some y) : m.bind f = some y := by
  obtain ⟨r, rfl, h2⟩ := h; exact k r h2
theorem bind_ex {α β : Type} {m : Option α} {f : α → Option β} {Q : α → Prop} {R : β → Prop} (h : ∃ r, m = some r ∧ Q r) (k : ∀ r, Q r → ∃ y, f r = some y ∧ R y) : ∃ y, m.bind f = some y ∧ R y := by
  obtain ⟨r, rfl, h2⟩ := h; exact k r h2
theorem getZ {α : Type} {l : List α} {i : Int} (h0 : 0 ≤ i) (h1 : i < (l.length : Nat)) : getI l i = some (l[i.toNat]'(by omega)) := by
  unfold getI; rw [if_pos h0]; simp
theorem getN1 {α : Type} {l : List α} {k : Nat} (h : k + 1 < l.length) : getI l ((k : Int) + 1) = some l[k + 1] := getI_eq rfl h
theorem dlt {k n : Nat} (h : k < n) : decide ((k : Int) < (n : Int)) = true := by simp; omega
theorem dge {k n : Nat} (h : ¬ k < n) : decide ((k : Int) < (n : Int)) = false := by simp; omega
theorem beq_dec {α : Type} [DecidableEq α] (a b : α) : (a == b) = decide (a = b) := Bool.beq_eq_decide_eq a b
section
variable {α β γ σ : Type}
/-- Counted from 0 to n, with a way out. -/
theorem loop_stop {body : σ → Option (σ ⊕ β)} (n : Nat) (st : Nat → σ) (stop : Nat → Option β) (e : β) (h : ∀ k, k < n → body (st k) = some (match stop k with | none => .inl (st (k + 1)) | some b => .inr b)) (he : body (st n) = some (.inr e)) :
    loop body (st 0) = some (((List.range n).findSome? stop).getD e) := by
  rcases loop_find (fun k => (stop k).isSome = true) st n (fun k => (stop k).getD e) e (fun k hk hp => by
      rw [h k hk]; cases hs : stop k with
      | none => rfl
      | some b => simp [hs] at hp) (fun k hk hp => by
      rw [h k hk]; cases hs : stop k with
      | none => simp [hs] at hp
      | some b => rfl) he with ⟨k, h1, h2, h3, h4⟩ | ⟨h1, h2⟩
  · rw [h4]
    obtain ⟨b, hb⟩ := Option.isSome_iff_exists.1 h2
    have : (List.range n).findSome? stop = some b := by
      rw [List.findSome?_eq_some_iff]
      refine ⟨List.range k, k, (List.range' (k + 1) (n - k - 1)), ?_, hb, fun a ha => ?_⟩
      · rw [List.range_eq_range', List.range_eq_range', ← List.range'_succ (s := k) (n := n - k - 1)]
        rw [show n - k - 1 + 1 = n - k by omega]
        have := List.range'_append_1 (s := 0) (m := k) (n := n - k)
        rw [Nat.zero_add, show k + (n - k) = n by omega] at this
        exact this.symm
      · have := h3 a (List.mem_range.1 ha)
        cases hs : stop a with
        | none => rfl
        | some b => simp [hs] at this
    rw [this, hb]
  · rw [h2]
    have : (List.range n).findSome? stop = none := by
      rw [List.findSome?_eq_none_iff]
      intro a ha
      have := h1 a (List.mem_range.1 ha)
      cases hs : stop a with
      | none => rfl
      | some b => simp [hs] at this
    rw [this]; rfl
/-- A list searched: where the first hit lies. -/
theorem loop_search {body : Int → Option (Int ⊕ β)} (xa : List α) (t : α → Bool) (hit : Nat → β) (e : β) (hb : ∀ (k : Nat) (h : k < xa.length), body (k : Int) = some (if t xa[k] then .inr (hit k) else .inl ((k + 1 : Nat) : Int))) (he : body (xa.length : Int) = some (.inr e)) :
    loop body 0 = some (match xa.findIdx? t with | some k => hit k | none => e) := by
  rcases loop_find (fun k => ∃ h : k < xa.length, t xa[k] = true) (fun k : Nat => (k : Int)) xa.length hit e (fun k hk hp => by
      rw [hb k hk, if_neg (fun h => hp ⟨hk, h⟩)]) (fun k hk ⟨_, hp⟩ => by rw [hb k hk, if_pos hp]) he with ⟨k, h1, ⟨_, h2⟩, h3, h4⟩ | ⟨h1, h2⟩
  · rw [show ((0 : Int)) = ((0 : Nat) : Int) from rfl, h4]
    have : xa.findIdx? t = some k := by
      rw [List.findIdx?_eq_some_iff_getElem]
      exact ⟨h1, h2, fun j hj => fun hc => h3 j hj ⟨by omega, by simpa using hc⟩⟩
    rw [this]
  · rw [show ((0 : Int)) = ((0 : Nat) : Int) from rfl, h2]
    have : xa.findIdx? t = none := by
      rw [List.findIdx?_eq_none_iff]
      intro x hx
      obtain ⟨k, hk, rfl⟩ := List.getElem_of_mem hx
      cases hc : t xa[k] with
      | false => rfl
      | true => exact absurd ⟨hk, hc⟩ (h1 k hk)
    rw [this]
theorem loop_some {body : Int → Option (Int ⊕ β)} (xa : List α) (t : α → Bool) (hit e : β) (hb : ∀ (k : Nat) (h : k < xa.length), body (k : Int) = some (if t xa[k] then .inr hit else .inl ((k + 1 : Nat) : Int))) (he : body (xa.length : Int) = some (.inr e)) :
    loop body 0 = some (if xa.any t then hit else e) := by
  rw [loop_search xa t (fun _ => hit) e hb he]
  cases h : xa.findIdx? t with
  | none =>
    have : xa.any t = false := by
      rw [List.any_eq_false]; intro x hx; have := List.findIdx?_eq_none_iff.1 h x hx; simp [this]
    rw [this]; rfl
  | some k =>
    obtain ⟨hk, h1, _⟩ := List.findIdx?_eq_some_iff_getElem.1 h
    have : xa.any t = true := List.any_eq_true.2 ⟨_, List.getElem_mem hk, h1⟩
    rw [this]; rfl
/-- A list gone through, with what is carried along. -/
theorem loop_carry {δ : Type} {body : (γ × Int) → Option ((γ × Int) ⊕ δ)} (xa : List α) (acc : Nat → γ) (out : δ) (hb : ∀ (k : Nat) (h : k < xa.length), body (acc k, (k : Int)) = some (.inl (acc (k + 1), ((k + 1 : Nat) : Int)))) (he : body (acc xa.length, (xa.length : Int)) = some (.inr out)) :
    loop body (acc 0, 0) = some out := loop_nat (fun k => (acc k, (k : Int))) xa.length hb he
/-- Two lists held against each other, place by place. -/
theorem loop_alike [DecidableEq α] {body : Int → Option (Int ⊕ β)} (xa xb : List α) (hit e : β) (hl : xa.length = xb.length) (hb : ∀ (k : Nat) (h : k < xa.length), body (k : Int) = some (if xa[k] = (xb[k]'(by omega)) then .inl ((k + 1 : Nat) : Int) else .inr hit)) (he : body (xa.length : Int) = some (.inr e)) :
    loop body 0 = some (if xa = xb then e else hit) := by
  rw [loop_search (List.range xa.length) (fun k => decide (xa[k]? ≠ xb[k]?)) (fun _ => hit) e (fun k h => by
      simp at h
      rw [hb k h]
      have h2 : k < xb.length := by omega
      by_cases hq : xa[k] = xb[k] <;> simp [h, h2, hq]) (by simpa using he)]
  by_cases hq : xa = xb
  · subst hq
    have : (List.range xa.length).findIdx? (fun k => decide (xa[k]? ≠ xa[k]?)) = none := by rw [List.findIdx?_eq_none_iff]; simp
    rw [this]; simp
  · cases h : (List.range xa.length).findIdx? (fun k => decide (xa[k]? ≠ xb[k]?)) with
    | some k => simp [hq]
    | none =>
      exfalso; apply hq
      rw [List.findIdx?_eq_none_iff] at h
      apply List.ext_getElem?
      intro k
      by_cases hk : k < xa.length
      · simpa using h k (List.mem_range.2 hk)
      · rw [List.getElem?_eq_none (by omega), List.getElem?_eq_none (by omega)]
theorem take_snoc {l : List α} {k : Nat} (h : k < l.length) : l.take (k + 1) = l.take k ++ [l[k]] := List.take_succ_eq_append_getElem h
theorem dlen {a b : Nat} (h : a = b) : (!decide ((a : Int) = (b : Int))) = false := by simp [h]
theorem dlen' {a b : Nat} (h : ¬ a = b) : (!decide ((a : Int) = (b : Int))) = true := by simp; omega
end
theorem ok64 {x : Int} (h : Tp.Ok (.int .i64) x) : -9223372036854775808 ≤ x ∧ x ≤ 9223372036854775807 := by
  have h' : (Lit.int .i64 x).wf = true := h
  simp only [Lit.wf, IntKind.min, IntKind.max, IntKind.signed, IntKind.bits, Bool.and_eq_true, decide_eq_true_eq] at h'
  simp at h'; omega
theorem sub1 {α : Type} {l : List α} (h : 1 ≤ l.length) : subL l 1 ((l.length : Nat) : Int) = some (l.drop 1) := by
  rw [subL_eq (by omega) (by omega) (by omega)]; simp
end Go.Proofs.Ytmbdoknljjoejaa
namespace Go.Proofs.Ytmbdoknljjoejaa
set_option linter.unusedVariables false
theorem strict_eq : ∀ {xs ys : List Int}, xs.Pairwise (· < ·) → ys.Pairwise (· < ·) → (∀ a, a ∈ xs ↔ a ∈ ys) → xs = ys
  | [], [], _, _, _ => rfl
  | [], y :: ys, _, _, h => by have := (h y).2 (by simp); simp at this
  | x :: xs, [], _, _, h => by have := (h x).1 (by simp); simp at this
  | x :: xs, y :: ys, hx, hy, h => by
    obtain ⟨hx1, hx2⟩ := List.pairwise_cons.1 hx
    obtain ⟨hy1, hy2⟩ := List.pairwise_cons.1 hy
    have e : x = y := by
      have h1 := (h x).1 (by simp)
      have h2 := (h y).2 (by simp)
      rcases List.mem_cons.1 h1 with h1 | h1
      · exact h1
      · rcases List.mem_cons.1 h2 with h2 | h2
        · exact h2.symm
        · have := hy1 x h1; have := hx1 y h2; omega
    subst e
    rw [strict_eq hx2 hy2 (fun a => ?_)]
    constructor
    · intro ha
      rcases List.mem_cons.1 ((h a).1 (by simp [ha])) with e | e
      · subst e; have := hx1 a ha; omega
      · exact e
    · intro ha
      rcases List.mem_cons.1 ((h a).2 (by simp [ha])) with e | e
      · subst e; have := hy1 a ha; omega
      · exact e
theorem compactUpTo_sorted {zs : List Int} (hs : zs.Pairwise (· ≤ ·)) : ∀ m, m ≤ zs.length → (Lib.compactUpTo zs.toArray m).Pairwise (· < ·) ∧ ∀ a, a ∈ Lib.compactUpTo zs.toArray m ↔ a ∈ zs.take m
  | 0, _ => by simp [Lib.compactUpTo]
  | m + 1, h => by
    obtain ⟨h1, h2⟩ := compactUpTo_sorted hs m (by omega)
    have hm : m < zs.length := by omega
    have e : zs.toArray[m]! = zs[m] := by simp [getElem!_pos, hm]
    rw [Lib.compactUpTo_succ, e]
    have htk : zs.take (m + 1) = zs.take m ++ [zs[m]] := List.take_succ_eq_append_getElem hm
    have hle : ∀ a ∈ zs.take m, a ≤ zs[m] := by
      intro a ha
      have := hs.sublist (List.take_sublist (m + 1) zs)
      rw [htk] at this
      exact (List.pairwise_append.1 this).2.2 a ha _ (by simp)
    rw [htk]
    cases hk : Lib.keeps zs.toArray m with
    | false =>
      simp only [Bool.false_eq_true, if_false, List.append_nil]
      refine ⟨h1, fun a => ?_⟩
      rw [h2, List.mem_append]
      have hm0 : m ≠ 0 := by rintro rfl; simp [Lib.keeps] at hk
      have he : zs.toArray[m]! = zs.toArray[m - 1]! := by
        simp [Lib.keeps, hm0] at hk; simpa using hk
      have hp : m - 1 < zs.length := by omega
      have e2 : zs.toArray[m - 1]! = zs[m - 1] := by simp [getElem!_pos, hp]
      rw [e, e2] at he
      constructor
      · exact .inl
      · rintro (h | h)
        · exact h
        · simp at h; rw [h, he]
          exact List.mem_take_iff_getElem.2 ⟨m - 1, by omega, rfl⟩
    | true =>
      simp only [if_true]
      refine ⟨List.pairwise_append.2 ⟨h1, by simp, fun a ha b hb => ?_⟩, fun a => by rw [List.mem_append, List.mem_append, h2]⟩
      simp at hb; subst hb
      have ha' := (h2 a).1 ha
      have hle' := hle a ha'
      rcases Int.lt_or_eq_of_le hle' with h | h
      · exact h
      · exfalso
        obtain ⟨j, hj, rfl⟩ := List.mem_take_iff_getElem.1 ha'
        have hm0 : m ≠ 0 := by omega
        have hp : m - 1 < zs.length := by omega
        have e2 : zs.toArray[m - 1]! = zs[m - 1] := by simp [getElem!_pos, hp]
        simp only [Lib.keeps, e, e2] at hk
        simp [hm0] at hk
        have a1 : zs[j] ≤ zs[m - 1] := by
          rcases Nat.lt_or_ge j (m - 1) with q | q
          · exact List.pairwise_iff_getElem.1 hs j (m - 1) _ _ q
          · have : j = m - 1 := by omega
            subst this; exact Int.le_refl _
        have a2 : zs[m - 1] ≤ zs[m] := List.pairwise_iff_getElem.1 hs (m - 1) m _ _ (by omega)
        omega
theorem compact_sorted {zs : List Int} (hs : zs.Pairwise (· ≤ ·)) : (Lib.compact zs).Pairwise (· < ·) ∧ ∀ a, a ∈ Lib.compact zs ↔ a ∈ zs := by
  have := compactUpTo_sorted hs zs.length (Nat.le_refl _)
  rw [List.take_length] at this
  exact this
end Go.Proofs.Ytmbdoknljjoejaa
namespace Go.Proofs.Ytmbdoknljjoejaa
open Go.RowKit
set_option linter.unusedVariables false
/-! ### Lists over a range. -/
theorem getI_map {α : Type} {m j : Nat} {f : Nat → α} (h : j < m) : getI ((List.range m).map f) (j : Int) = some (f j) := by
  rw [getN (by simpa using h)]; simp
theorem set_map {α : Type} {m j : Nat} {f : Nat → α} {y : α} : ((List.range m).map f).set j y = (List.range m).map (fun v => if v = j then y else f v) := by
  apply List.ext_getElem
  · simp
  · intro i h1 h2
    simp only [List.getElem_set, List.getElem_map, List.getElem_range]
    by_cases h : j = i
    · subst h; simp
    · simp [h, Ne.symm h]
theorem map_congr_range {α : Type} {m : Nat} {f g : Nat → α} (h : ∀ v, v < m → f v = g v) : (List.range m).map f = (List.range m).map g := List.map_congr_left fun v hv => h v (List.mem_range.1 hv)
theorem replicate_map {α : Type} (m : Nat) (z : α) : List.replicate m z = (List.range m).map (fun _ => z) := by
  apply List.ext_getElem <;> simp
/-! ### Numbers sorted by counting. -/
def cnt (ks : List Nat) (v : Nat) : Nat := ks.countP (fun x => decide (x = v))
def ltc (ks : List Nat) (v : Nat) : Nat := ks.countP (fun x => decide (x < v))
theorem ltc_zero (ks : List Nat) : ltc ks 0 = 0 := by simp [ltc]
theorem ltc_succ (ks : List Nat) (v : Nat) : ltc ks (v + 1) = ltc ks v + cnt ks v := by
  unfold ltc cnt
  induction ks with
  | nil => rfl
  | cons x ks ih =>
    rw [List.countP_cons, List.countP_cons, List.countP_cons, ih]
    by_cases h : x < v
    · simp [h, show x < v + 1 by omega, show ¬ x = v by omega]; omega
    · by_cases h2 : x = v
      · simp [h2]; omega
      · simp [h, h2, show ¬ x < v + 1 by omega]
theorem ltc_mono (ks : List Nat) {v w : Nat} (h : v ≤ w) : ltc ks v ≤ ltc ks w := by
  unfold ltc; apply List.countP_mono_left; intro x _; simp; omega
theorem ltc_le (ks : List Nat) (v : Nat) : ltc ks v ≤ ks.length := List.countP_le_length
theorem cnt_le (ks : List Nat) (v : Nat) : cnt ks v ≤ ks.length := List.countP_le_length
theorem cnt_take {ks : List Nat} {k : Nat} (h : k < ks.length) (v : Nat) : cnt (ks.take (k + 1)) v = cnt (ks.take k) v + (if ks[k] = v then 1 else 0) := by
  unfold cnt; rw [take_snoc h, List.countP_append]; simp [List.countP_cons]
theorem cnt_take_le (ks : List Nat) (k v : Nat) : cnt (ks.take k) v ≤ cnt ks v := by
  unfold cnt
  conv => rhs; rw [← List.take_append_drop k ks, List.countP_append]
  omega
theorem cnt_take_lt {ks : List Nat} {k : Nat} (h : k < ks.length) : cnt (ks.take k) ks[k] < cnt ks ks[k] := by
  have := cnt_take_le ks (k + 1) ks[k]
  rw [cnt_take h] at this
  simp at this; omega
def pos (ks : List Nat) (i : Nat) : Nat := ltc ks (ks.getD i 0) + cnt (ks.take i) (ks.getD i 0)
theorem pos_lt {ks : List Nat} {i : Nat} (h : i < ks.length) : pos ks i < ltc ks (ks[i] + 1) := by
  have := cnt_take_lt h
  unfold pos; rw [ltc_succ]
  simp [h]; omega
theorem pos_ge {ks : List Nat} {i : Nat} (h : i < ks.length) : ltc ks ks[i] ≤ pos ks i := by unfold pos; simp [h]
theorem pos_lt_len {ks : List Nat} {i : Nat} (h : i < ks.length) : pos ks i < ks.length := Nat.lt_of_lt_of_le (pos_lt h) (ltc_le _ _)
theorem pos_inj {ks : List Nat} {i j : Nat} (hi : i < j) (hj : j < ks.length) : pos ks i ≠ pos ks j := by
  have hi' : i < ks.length := by omega
  rcases Nat.lt_trichotomy ks[i] ks[j] with h | h | h
  · have := pos_lt hi'; have := pos_ge hj; have := ltc_mono ks (v := ks[i] + 1) (w := ks[j]) (by omega); omega
  · have h1 := cnt_take hi' ks[j]
    have h2 : cnt (ks.take (i + 1)) ks[j] ≤ cnt (ks.take j) ks[j] := by
      have := cnt_take_le (ks.take j) (i + 1) ks[j]
      rw [List.take_take, Nat.min_eq_left (by omega)] at this; exact this
    unfold pos; simp [hi', hj, h] at h1 ⊢; omega
  · have := pos_lt hj; have := pos_ge hi'; have := ltc_mono ks (v := ks[j] + 1) (w := ks[i]) (by omega); omega
/-- Where a number stands. -/
def occ (ks : List Nat) (v : Nat) : List Nat := (List.range ks.length).filter (fun i => decide (ks.getD i 0 = v))
theorem occ_upto (ks : List Nat) (v : Nat) : ∀ k, k ≤ ks.length → ((List.range k).filter (fun i => decide (ks.getD i 0 = v))).length = cnt (ks.take k) v ∧ ∀ (r i : Nat), ((List.range k).filter (fun i => decide (ks.getD i 0 = v)))[r]? = some i → ∃ hi : i < ks.length, ks[i] = v ∧ cnt (ks.take i) v = r
  | 0, _ => by simp [cnt]
  | k + 1, hk => by
    obtain ⟨h1, h2⟩ := occ_upto ks v k (by omega)
    have hkl : k < ks.length := by omega
    have e : (List.range (k + 1)).filter (fun i => decide (ks.getD i 0 = v)) = (List.range k).filter (fun i => decide (ks.getD i 0 = v)) ++ (if ks[k] = v then [k] else []) := by
      rw [List.range_succ, List.filter_append]
      by_cases h : ks[k] = v <;> simp [hkl, h]
    rw [e, cnt_take hkl]
    generalize hF : (List.range k).filter (fun i => decide (ks.getD i 0 = v)) = F at h1 h2
    by_cases h : ks[k] = v
    · simp only [h, if_true]
      refine ⟨by simp [h1], fun r i hr => ?_⟩
      by_cases hr2 : r < F.length
      · rw [List.getElem?_append_left hr2] at hr; exact h2 r i hr
      · rw [List.getElem?_append_right (by omega)] at hr
        have hr3 : r - F.length = 0 := by
          have := (List.getElem?_eq_some_iff.1 hr).1
          simp at this; omega
        rw [hr3] at hr
        simp at hr
        subst hr
        exact ⟨hkl, h, by omega⟩
    · simp only [h, if_false, List.append_nil, Nat.add_zero]
      exact ⟨h1, h2⟩
theorem occ_len (ks : List Nat) (v : Nat) : (occ ks v).length = cnt ks v := by have := (occ_upto ks v ks.length (Nat.le_refl _)).1; rw [List.take_length] at this; exact this
theorem occ_get (ks : List Nat) (v r : Nat) (h : r < (occ ks v).length) : ∃ (hi : (occ ks v)[r] < ks.length), ks[(occ ks v)[r]] = v ∧ cnt (ks.take (occ ks v)[r]) v = r := (occ_upto ks v ks.length (Nat.le_refl _)).2 r _ (List.getElem?_eq_getElem h)
theorem occ_mem {ks : List Nat} {v i : Nat} : i ∈ occ ks v ↔ ∃ h : i < ks.length, ks[i] = v := by
  unfold occ
  simp only [List.mem_filter, List.mem_range, decide_eq_true_eq]
  constructor
  · rintro ⟨h1, h2⟩; exact ⟨h1, by simpa [h1] using h2⟩
  · rintro ⟨h1, h2⟩; exact ⟨h1, by simpa [h1] using h2⟩
/-- The numbers' places, in the order of the numbers. -/
def av (ks : List Nat) (k p : Nat) : Nat := ((List.range k).find? (fun i => decide (pos ks i = p))).getD 0
theorem av_pos {ks : List Nat} {k i : Nat} (hk : k ≤ ks.length) (hi : i < k) : av ks k (pos ks i) = i := by
  unfold av
  cases h : (List.range k).find? (fun j => decide (pos ks j = pos ks i)) with
  | none =>
    rw [List.find?_eq_none] at h
    exact absurd (by simp) (h i (List.mem_range.2 hi))
  | some j =>
    have h1 := List.find?_some h
    have h2 := List.mem_range.1 (List.mem_of_find?_eq_some h)
    simp at h1
    rcases Nat.lt_trichotomy i j with q | q | q
    · exact absurd h1.symm (pos_inj q (by omega))
    · exact q.symm
    · exact absurd h1 (pos_inj q (by omega))
theorem av_succ {ks : List Nat} {k : Nat} (hk : k < ks.length) (p : Nat) : av ks (k + 1) p = if p = pos ks k then k else av ks k p := by
  by_cases h : p = pos ks k
  · rw [if_pos h, h, av_pos (by omega) (by omega)]
  · rw [if_neg h]
    unfold av
    rw [List.range_succ, List.find?_append]
    simp [Ne.symm h]
theorem av_sub (ks : List Nat) (v : Nat) : ((((List.range ks.length).map (fun p => (av ks ks.length p : Int))).take (ltc ks (v + 1))).drop (ltc ks v)) = (occ ks v).map (fun i : Nat => (i : Int)) := by
  apply List.ext_getElem
  · have h1 := ltc_succ ks v
    have h2 := ltc_le ks (v + 1)
    rw [List.length_drop, List.length_take, List.length_map, List.length_map, occ_len, List.length_range]; omega
  · intro r h1 h2
    have hr : r < (occ ks v).length := by simpa using h2
    obtain ⟨hi, h3, h4⟩ := occ_get ks v r hr
    simp only [List.getElem_drop, List.getElem_take, List.getElem_map, List.getElem_range]
    have : pos ks (occ ks v)[r] = ltc ks v + r := by
      have e : ks.getD (occ ks v)[r] 0 = v := by simp [hi, h3]
      unfold pos; rw [e, h4]
    rw [← this, av_pos (Nat.le_refl _) hi]
section
variable {α : Type} (key : α → Int) (n : Int) (xb : List α)
def ix1 : (Int × (List Int)) → Option ((Int × (List Int)) ⊕ (List Int)) := fun ((i, l) : (Int × (List Int))) => cond (decide (i < (((xb.length : Nat) : Int)))) ((getI xb i).bind fun x => (getI l (IntKind.wrap .i64 (key x + 1))).bind fun a => (getI l (IntKind.wrap .i64 (key x + 1))).bind fun b => (some (l.set (IntKind.wrap .i64 (key x + 1)).toNat (IntKind.wrap .i64 (a + 1)))).bind fun z => some (.inl ((IntKind.wrap .i64 (i + 1), z)))) (some (.inr (l)))
def ix2 : (Int × (List Int)) → Option ((Int × (List Int)) ⊕ (List Int)) := fun ((i, l) : (Int × (List Int))) => cond (decide (i < n)) ((getI l (IntKind.wrap .i64 (i + 1))).bind fun a => (getI l i).bind fun b => (getI l (IntKind.wrap .i64 (i + 1))).bind fun c => (some (l.set (IntKind.wrap .i64 (i + 1)).toNat (IntKind.wrap .i64 (a + b)))).bind fun z => some (.inl ((IntKind.wrap .i64 (i + 1), z)))) (some (.inr (l)))
def ix3 : ((List Int) × Int × (List Int)) → Option (((List Int) × Int × (List Int)) ⊕ (List Int)) := fun ((l, i, m) : ((List Int) × Int × (List Int))) => cond (decide (i < (((xb.length : Nat) : Int)))) ((getI xb i).bind fun x => (getI l (key x)).bind fun a => (getI m a).bind fun b => (some (m.set a.toNat i)).bind fun z => (getI l (key x)).bind fun c => (getI l (key x)).bind fun d => (some (l.set (key x).toNat (IntKind.wrap .i64 (c + 1)))).bind fun y => some (.inl ((y, IntKind.wrap .i64 (i + 1), z)))) (some (.inr (m)))
variable {key n xb} {ks : List Nat}
theorem key_at (hk : xb.map key = ks.map (fun k : Nat => (k : Int))) {i : Nat} (h : i < xb.length) : ∃ h2 : i < ks.length, key xb[i] = (ks[i] : Int) := by
  have hl : xb.length = ks.length := by simpa using congrArg List.length hk
  refine ⟨by omega, ?_⟩
  have h1 : (xb.map key)[i]'(by simpa using h) = (ks.map (fun k : Nat => (k : Int)))[i]'(by simp; omega) := by simp only [hk]
  simpa using h1
theorem ix1_eq {N : Nat} (hk : xb.map key = ks.map (fun k : Nat => (k : Int))) (hN : ∀ x ∈ ks, x < N) (hb : ks.length ≤ 1073741824) (hNb : N ≤ 1073741824) : loop (ix1 key xb) (0, List.replicate (N + 1) 0) = some ((List.range (N + 1)).map (fun v => ((if v = 0 then 0 else cnt ks (v - 1) : Nat) : Int))) := by
  have hl : xb.length = ks.length := by simpa using congrArg List.length hk
  have h := loop_nat (body := ix1 key xb) (fun k : Nat => ((k : Int), (List.range (N + 1)).map (fun v => ((if v = 0 then 0 else cnt (ks.take k) (v - 1) : Nat) : Int)))) xb.length (b := (List.range (N + 1)).map (fun v => ((if v = 0 then 0 else cnt ks (v - 1) : Nat) : Int))) ?_ ?_
  · rw [replicate_map]; simpa [cnt] using h
  · intro k hk2
    obtain ⟨hk3, hk4⟩ := key_at hk hk2
    have hlt := hN _ (List.getElem_mem hk3)
    have hw : IntKind.wrap .i64 (key xb[k] + 1) = ((ks[k] + 1 : Nat) : Int) := by rw [hk4, w64 (by omega) (by omega)]; omega
    have hc := cnt_le (ks.take k) ks[k]
    simp only [List.length_take] at hc
    unfold ix1
    simp only [dlt hk2, cond_true, getN hk2, Option.bind_some, hw, getI_map (show ks[k] + 1 < N + 1 by omega), Int.toNat_natCast, set_map, w64s hk2 (by omega : xb.length ≤ 9223372036854775807)]
    congr 3
    refine map_congr_range (fun v hv => ?_)
    rw [cnt_take hk3]
    simp only [Nat.add_one_ne_zero, if_false, Nat.add_sub_cancel]
    by_cases h1 : v = ks[k] + 1
    · subst h1; simp only [if_true, Nat.add_one_ne_zero, if_false, Nat.add_sub_cancel]; rw [w64 (by omega) (by omega)]; omega
    · rw [if_neg h1]
      by_cases h2 : v = 0
      · simp [h2]
      · simp [h2, show ¬ ks[k] = v - 1 by omega]
  · unfold ix1
    simp only [hl, Int.lt_irrefl, decide_false, cond_false, List.take_length]
theorem ix2_eq {N : Nat} (hb : ks.length ≤ 1073741824) (hNb : N ≤ 1073741824) : loop (ix2 (N : Int)) (0, (List.range (N + 1)).map (fun v => ((if v = 0 then 0 else cnt ks (v - 1) : Nat) : Int))) = some ((List.range (N + 1)).map (fun v => (ltc ks v : Int))) := by
  have h := loop_nat (body := ix2 (N : Int)) (fun j : Nat => ((j : Int), (List.range (N + 1)).map (fun v => ((if v ≤ j then ltc ks v else cnt ks (v - 1) : Nat) : Int)))) N (b := (List.range (N + 1)).map (fun v => (ltc ks v : Int))) ?_ ?_
  · have e : (List.range (N + 1)).map (fun v => ((if v ≤ 0 then ltc ks v else cnt ks (v - 1) : Nat) : Int)) = (List.range (N + 1)).map (fun v => ((if v = 0 then 0 else cnt ks (v - 1) : Nat) : Int)) := by
      refine map_congr_range (fun v hv => ?_)
      by_cases h1 : v = 0
      · simp [h1, ltc_zero]
      · simp [h1]
    simp only [e] at h
    exact h
  · intro j hj
    have hs := ltc_succ ks j
    have hle := ltc_le ks (j + 1)
    unfold ix2
    simp only [dlt hj, cond_true, w64s hj (by omega : N ≤ 9223372036854775807), getI_map (show j + 1 < N + 1 by omega), getI_map (show j < N + 1 by omega), Option.bind_some, Int.toNat_natCast, set_map]
    congr 3
    refine map_congr_range (fun v hv => ?_)
    simp only [show ¬ (j + 1 ≤ j) by omega, if_false, Nat.le_refl, if_true, Nat.add_sub_cancel]
    by_cases h1 : v = j + 1
    · subst h1; simp only [if_true, Nat.le_refl]; rw [w64 (by omega) (by omega)]; omega
    · rw [if_neg h1]
      by_cases h2 : v ≤ j
      · simp [h2, show v ≤ j + 1 by omega]
      · simp [h2, show ¬ v ≤ j + 1 by omega]
  · unfold ix2
    simp only [Int.lt_irrefl, decide_false, cond_false]
    congr 2
    refine map_congr_range (fun v hv => ?_)
    simp [show v ≤ N by omega]
theorem ix3_eq {N : Nat} (hk : xb.map key = ks.map (fun k : Nat => (k : Int))) (hN : ∀ x ∈ ks, x < N) (hb : ks.length ≤ 1073741824) (hNb : N ≤ 1073741824) : loop (ix3 key xb) ((List.range (N + 1)).map (fun v => (ltc ks v : Int)), 0, List.replicate xb.length 0) = some ((List.range ks.length).map (fun p => (av ks ks.length p : Int))) := by
  have hl : xb.length = ks.length := by simpa using congrArg List.length hk
  have h := loop_nat (body := ix3 key xb) (fun k : Nat => ((List.range (N + 1)).map (fun v => ((ltc ks v + cnt (ks.take k) v : Nat) : Int)), (k : Int), (List.range ks.length).map (fun p => (av ks k p : Int)))) xb.length (b := (List.range ks.length).map (fun p => (av ks ks.length p : Int))) ?_ ?_
  · rw [hl, replicate_map]; simpa [cnt, av] using h
  · intro k hk2
    obtain ⟨hk3, hk4⟩ := key_at hk hk2
    have hlt := hN _ (List.getElem_mem hk3)
    have hp : ltc ks ks[k] + cnt (ks.take k) ks[k] = pos ks k := by unfold pos; simp [hk3]
    have hpl := pos_lt_len hk3
    unfold ix3
    simp only [dlt hk2, cond_true, getN hk2, Option.bind_some, hk4, getI_map (show ks[k] < N + 1 by omega), hp, getI_map hpl, Int.toNat_natCast, set_map, w64s hk2 (by omega : xb.length ≤ 9223372036854775807)]
    congr 3
    · refine map_congr_range (fun v hv => ?_)
      rw [cnt_take hk3]
      by_cases h1 : v = ks[k]
      · subst h1; simp only [if_true]; rw [w64 (by omega) (by omega)]; omega
      · rw [if_neg h1, if_neg (Ne.symm h1)]; simp
    · congr 1
      refine map_congr_range (fun p hp2 => ?_)
      rw [av_succ hk3]
      split <;> rfl
  · unfold ix3
    simp only [hl, Int.lt_irrefl, decide_false, cond_false]
end
/-! ### Graphs. -/
abbrev Gr := Int × (List (Int × Int)) × ((List Int) × (List Int)) × ((List Int) × (List Int))
abbrev ArG := List (Nat × Nat)
def ai (E : ArG) : List (Int × Int) := E.map (fun e => ((e.1 : Int), (e.2 : Int)))
def ixs (N : Nat) (ks : List Nat) : List Int × List Int := ((List.range (N + 1)).map (fun v => (ltc ks v : Int)), (List.range ks.length).map (fun p => (av ks ks.length p : Int)))
def mkG (N : Nat) (E : ArG) : Gr := ((N : Int), ai E, ixs N (E.map (·.1)), ixs N (E.map (·.2)))
def inN (N : Nat) (E : ArG) : Prop := ∀ e ∈ E, e.1 < N ∧ e.2 < N
theorem ai_len (E : ArG) : (ai E).length = E.length := by simp [ai]
theorem clone_eq {α : Type} (xa : List α) (hn : xa.length ≤ 1073741824) : nilb xa (some ([] : List α)) ((app ([] : List α) xa).bind fun z => some z) = some xa := by
  rw [nilb_eq]
  · rw [app_eq (by simpa using hn)]; simp
  · rintro rfl; rw [app_eq (by simp)]; rfl
theorem indexed1_eq {N : Nat} {E : ArG} (h : inN N E) (hn : N ≤ 1048576) (he : E.length ≤ 67108864) : fn_graph_indexed_ik_graph_New_1 (N : Int) (ai E) = some (ixs N (E.map (·.1))) := by
  have hk : (ai E).map (fun x : Int × Int => x.1) = (E.map (·.1)).map (fun k : Nat => (k : Int)) := by simp [ai]
  have hN : ∀ x ∈ E.map (·.1), x < N := by intro x hx; obtain ⟨e, he, rfl⟩ := List.mem_map.1 hx; exact (h e he).1
  have hw : IntKind.wrap .i64 ((N : Int) + 1) = ((N + 1 : Nat) : Int) := by rw [w64 (by omega) (by omega)]; omega
  have h1 := ix1_eq (key := fun x : Int × Int => x.1) (N := N) hk hN (by simp; omega) (by omega)
  have h2 := ix2_eq (ks := E.map (·.1)) (N := N) (by simp; omega) (by omega)
  have h3 := ix3_eq (key := fun x : Int × Int => x.1) (N := N) hk hN (by simp; omega) (by omega)
  have hl : (ai E).length ≤ 1073741824 := by rw [ai_len]; omega
  unfold fn_graph_indexed_ik_graph_New_1
  have hm1 : (mk ((N + 1 : Nat) : Int) ((N + 1 : Nat) : Int) (0 : Int) : Option (List Int)) = some (List.replicate (N + 1) 0) := mkN (by omega)
  have hm2 : (mk (((ai E).length : Nat) : Int) (((ai E).length : Nat) : Int) (0 : Int) : Option (List Int)) = some (List.replicate (ai E).length 0) := mkN hl
  rw [hw]
  simp only [hm1, hm2, Option.bind_some, agr_self]
  show (loop (ix1 (fun x : Int × Int => x.1) (ai E)) (0, _)).bind _ = _
  rw [h1, Option.bind_some]
  show (loop (ix2 (N : Int)) (0, _)).bind _ = _
  rw [h2, Option.bind_some]
  have hc : ∀ l : List Int, l.length ≤ 1073741824 → fn_slices_Clone_int_int l = some l := fun l hl => clone_eq l hl
  rw [hc _ (by simp; omega), Option.bind_some]
  show (loop (ix3 (fun x : Int × Int => x.1) (ai E)) (_, 0, _)).bind _ = _
  rw [h3]; rfl
theorem indexed2_eq {N : Nat} {E : ArG} (h : inN N E) (hn : N ≤ 1048576) (he : E.length ≤ 67108864) : fn_graph_indexed_ik_graph_New_2 (N : Int) (ai E) = some (ixs N (E.map (·.2))) := by
  have hk : (ai E).map (fun x : Int × Int => x.2) = (E.map (·.2)).map (fun k : Nat => (k : Int)) := by simp [ai]
  have hN : ∀ x ∈ E.map (·.2), x < N := by intro x hx; obtain ⟨e, he, rfl⟩ := List.mem_map.1 hx; exact (h e he).2
  have hw : IntKind.wrap .i64 ((N : Int) + 1) = ((N + 1 : Nat) : Int) := by rw [w64 (by omega) (by omega)]; omega
  have h1 := ix1_eq (key := fun x : Int × Int => x.2) (N := N) hk hN (by simp; omega) (by omega)
  have h2 := ix2_eq (ks := E.map (·.2)) (N := N) (by simp; omega) (by omega)
  have h3 := ix3_eq (key := fun x : Int × Int => x.2) (N := N) hk hN (by simp; omega) (by omega)
  have hl : (ai E).length ≤ 1073741824 := by rw [ai_len]; omega
  unfold fn_graph_indexed_ik_graph_New_2
  have hm1 : (mk ((N + 1 : Nat) : Int) ((N + 1 : Nat) : Int) (0 : Int) : Option (List Int)) = some (List.replicate (N + 1) 0) := mkN (by omega)
  have hm2 : (mk (((ai E).length : Nat) : Int) (((ai E).length : Nat) : Int) (0 : Int) : Option (List Int)) = some (List.replicate (ai E).length 0) := mkN hl
  rw [hw]
  simp only [hm1, hm2, Option.bind_some, agr_self]
  show (loop (ix1 (fun x : Int × Int => x.2) (ai E)) (0, _)).bind _ = _
  rw [h1, Option.bind_some]
  show (loop (ix2 (N : Int)) (0, _)).bind _ = _
  rw [h2, Option.bind_some]
  have hc : ∀ l : List Int, l.length ≤ 1073741824 → fn_slices_Clone_int_int l = some l := fun l hl => clone_eq l hl
  rw [hc _ (by simp; omega), Option.bind_some]
  show (loop (ix3 (fun x : Int × Int => x.2) (ai E)) (_, 0, _)).bind _ = _
  rw [h3]; rfl
/-- An arc that is out of the nodes. -/
def outA (n : Int) (a : Int × Int) : Bool := (((decide (a.1 < 0)) || (decide (n ≤ a.1))) || (decide (a.2 < 0))) || (decide (n ≤ a.2))
theorem newLoop (n : Int) (xb : List (Int × Int)) (hb : xb.length ≤ 1073741824) : loop (fn_graph_New_l1 n xb) 0 = some (if xb.any (outA n) then .inr (none, 7) else .inl ()) := by
  refine loop_some xb (outA n) _ _ (fun k h => ?_) ?_
  · unfold fn_graph_New_l1
    simp only [dlt h, cond_true, getN h, Option.bind_some, w64s h (by omega : xb.length ≤ 9223372036854775807)]
    show cond (outA n xb[k]) _ _ = _
    cases outA n xb[k] <;> rfl
  · simp [fn_graph_New_l1]
theorem arcs_nat {n : Int} {xb : List (Int × Int)} (h0 : 0 ≤ n) (h : xb.any (outA n) = false) : ∃ E : ArG, xb = ai E ∧ inN n.toNat E := by
  refine ⟨xb.map (fun a => (a.1.toNat, a.2.toNat)), ?_, ?_⟩
  · unfold ai
    rw [List.map_map]
    conv => lhs; rw [← List.map_id xb]
    refine List.map_congr_left (fun a ha => ?_)
    have := List.any_eq_false.1 h a ha
    simp [outA] at this
    refine Prod.ext ?_ ?_ <;> simp <;> omega
  · intro e he
    obtain ⟨a, ha, rfl⟩ := List.mem_map.1 he
    have := List.any_eq_false.1 h a ha
    simp [outA] at this
    dsimp only
    omega
theorem New_ok {N : Nat} {E : ArG} (h : inN N E) (hn : N ≤ 1048576) (he : E.length ≤ 67108864) : fn_graph_New (N : Int) (ai E) = some (some (mkG N E), 0) := by
  unfold fn_graph_New
  have h1 : decide ((N : Int) < 0) = false := decide_eq_false (by omega)
  have h2 : (decide ((1048576 : Int) < (N : Int)) || decide ((67108864 : Int) < (((ai E).length : Nat) : Int))) = false := by rw [ai_len]; simp; omega
  have h3 : (ai E).any (outA (N : Int)) = false := by
    rw [List.any_eq_false]
    intro a ha
    obtain ⟨e, he, rfl⟩ := List.mem_map.1 ha
    have := h e he
    simp [outA]; omega
  rw [h1, cond_false, h2, cond_false, newLoop _ _ (by rw [ai_len]; omega), h3]
  simp only [Bool.false_eq_true, if_false, Option.bind_some]
  have hc : fn_slices_Clone_graph_Arc_graph_Arc (ai E) = some (ai E) := clone_eq _ (by rw [ai_len]; omega)
  rw [hc, Option.bind_some, indexed1_eq h hn he, Option.bind_some, indexed2_eq h hn he]
  rfl
theorem New_eq (n : Int) (xb : List (Int × Int)) (he : xb.length ≤ 67108864) : (n < 0 ∧ fn_graph_New n xb = some (none, 2)) ∨ (1048576 < n ∧ fn_graph_New n xb = some (none, 5)) ∨ (0 ≤ n ∧ n ≤ 1048576 ∧ xb.any (outA n) = true ∧ fn_graph_New n xb = some (none, 7)) ∨
    ∃ (N : Nat) (E : ArG), n = (N : Int) ∧ N ≤ 1048576 ∧ xb = ai E ∧ inN N E ∧ xb.any (outA n) = false ∧ fn_graph_New n xb = some (some (mkG N E), 0) := by
  by_cases h0 : n < 0
  · refine .inl ⟨h0, ?_⟩
    unfold fn_graph_New
    rw [show decide (n < 0) = true by simpa using h0]; rfl
  · have h1 : decide (n < 0) = false := by simp; omega
    by_cases h2 : 1048576 < n
    · refine .inr (.inl ⟨h2, ?_⟩)
      unfold fn_graph_New
      rw [h1, show decide ((1048576 : Int) < n) = true by simpa using h2]; rfl
    · cases h3 : xb.any (outA n) with
      | true =>
        refine .inr (.inr (.inl ⟨by omega, by omega, rfl, ?_⟩))
        unfold fn_graph_New
        have h4 : (decide ((1048576 : Int) < n) || decide ((67108864 : Int) < ((xb.length : Nat) : Int))) = false := by simp; omega
        rw [h1, cond_false, h4, cond_false, newLoop _ _ (by omega), h3]; rfl
      | false =>
        obtain ⟨E, rfl, hE⟩ := arcs_nat (by omega) h3
        refine .inr (.inr (.inr ⟨n.toNat, E, by omega, by omega, rfl, hE, rfl, ?_⟩))
        have := New_ok hE (by omega) (by rw [ai_len] at he; omega)
        rw [show ((n.toNat : Nat) : Int) = n by omega] at this
        exact this
theorem occ_bound (ks : List Nat) (v : Nat) : (occ ks v).length ≤ ks.length := by rw [occ_len]; exact cnt_le ks v
theorem index_of_eq {N : Nat} {ks : List Nat} (hn : N ≤ 1048576) (he : ks.length ≤ 67108864) {v : Nat} (hv : v < N) : fn_graph_index_of (ixs N ks) (v : Int) = some ((occ ks v).map (fun i : Nat => (i : Int))) := by
  unfold fn_graph_index_of ixs
  have h1 := ltc_le ks (v + 1)
  have h2 := ltc_mono ks (v := v) (w := v + 1) (by omega)
  simp only [getI_map (show v < N + 1 by omega), Option.bind_some, w64s hv (by omega : N ≤ 9223372036854775807), getI_map (show v + 1 < N + 1 by omega)]
  rw [subL_eq (by omega) (by omega) (by simp; omega)]
  simp only [Int.toNat_natCast, Option.bind_some, av_sub]
theorem Nodes_eq (N : Nat) (E : ArG) : fn_graph_Graph_Nodes (some (mkG N E)) = some (N : Int) := rfl
theorem Nodes_none : fn_graph_Graph_Nodes none = some 0 := rfl
theorem isNode_eq (N : Nat) (E : ArG) (v : Int) : fn_graph_Graph_isNode (some (mkG N E)) v = some (decide (0 ≤ v) && decide (v < (N : Int))) := by
  unfold fn_graph_Graph_isNode
  rw [Nodes_eq]
  cases decide (0 ≤ v) <;> simp
theorem isNode_none (v : Int) : fn_graph_Graph_isNode none v = some false := by
  unfold fn_graph_Graph_isNode
  rw [Nodes_none]
  by_cases h : 0 ≤ v
  · have : decide (v < 0) = false := decide_eq_false (by omega)
    simp [h]
  · simp [h]
theorem isNode_of {N : Nat} {E : ArG} {v : Nat} (h : v < N) : fn_graph_Graph_isNode (some (mkG N E)) (v : Int) = some true := by
  rw [isNode_eq]; simp [h]
theorem isNode_not {N : Nat} {E : ArG} {v : Int} (h : v < 0 ∨ (N : Int) ≤ v) : fn_graph_Graph_isNode (some (mkG N E)) v = some false := by
  rw [isNode_eq]; simp; omega
theorem Out_of {N : Nat} {E : ArG} (hn : N ≤ 1048576) (he : E.length ≤ 67108864) {v : Nat} (h : v < N) : fn_graph_Graph_Out (some (mkG N E)) (v : Int) = some ((occ (E.map (·.1)) v).map (fun i : Nat => (i : Int))) := by
  unfold fn_graph_Graph_Out
  rw [isNode_of h]
  have := index_of_eq (ks := E.map (·.1)) hn (by simp; omega) h
  have hb := occ_bound (E.map (·.1)) v
  simp only [Bool.not_true, cond_false, Option.bind_some, mkG]
  rw [this, Option.bind_some]
  have hc : ∀ l : List Int, l.length ≤ 1073741824 → fn_slices_Clone_int_int l = some l := fun l hl => clone_eq l hl
  rw [hc _ (by simp at hb ⊢; omega)]; rfl
theorem Out_not {N : Nat} {E : ArG} {v : Int} (h : v < 0 ∨ (N : Int) ≤ v) : fn_graph_Graph_Out (some (mkG N E)) v = some [] := by
  unfold fn_graph_Graph_Out; rw [isNode_not h]; rfl
theorem Out_none (v : Int) : fn_graph_Graph_Out none v = some [] := by
  unfold fn_graph_Graph_Out; rw [isNode_none]; rfl
theorem In_of {N : Nat} {E : ArG} (hn : N ≤ 1048576) (he : E.length ≤ 67108864) {v : Nat} (h : v < N) : fn_graph_Graph_In (some (mkG N E)) (v : Int) = some ((occ (E.map (·.2)) v).map (fun i : Nat => (i : Int))) := by
  unfold fn_graph_Graph_In
  rw [isNode_of h]
  have := index_of_eq (ks := E.map (·.2)) hn (by simp; omega) h
  have hb := occ_bound (E.map (·.2)) v
  simp only [Bool.not_true, cond_false, Option.bind_some, mkG]
  rw [this, Option.bind_some]
  have hc : ∀ l : List Int, l.length ≤ 1073741824 → fn_slices_Clone_int_int l = some l := fun l hl => clone_eq l hl
  rw [hc _ (by simp at hb ⊢; omega)]; rfl
theorem In_not {N : Nat} {E : ArG} {v : Int} (h : v < 0 ∨ (N : Int) ≤ v) : fn_graph_Graph_In (some (mkG N E)) v = some [] := by
  unfold fn_graph_Graph_In; rw [isNode_not h]; rfl
theorem In_none (v : Int) : fn_graph_Graph_In none v = some [] := by
  unfold fn_graph_Graph_In; rw [isNode_none]; rfl
/-- Where the arcs from a node lead, in order. -/
def nxt (E : ArG) (v : Nat) : List Nat := (occ (E.map (·.1)) v).map (fun i => (E.getD i (0, 0)).2)
theorem occ_arc {E : ArG} {v i : Nat} (h : i ∈ occ (E.map (·.1)) v) : ∃ h : i < E.length, E[i].1 = v := by
  obtain ⟨h1, h2⟩ := occ_mem.1 h
  exact ⟨by simpa using h1, by simpa using h2⟩
theorem nxt_mem {E : ArG} {v u : Nat} : u ∈ nxt E v ↔ (v, u) ∈ E := by
  unfold nxt
  constructor
  · intro h
    obtain ⟨i, hi, rfl⟩ := List.mem_map.1 h
    obtain ⟨h1, h2⟩ := occ_arc hi
    have : E.getD i (0, 0) = E[i] := by simp [h1]
    rw [this]
    have e : (v, E[i].2) = E[i] := by rw [← h2]
    rw [e]; exact List.getElem_mem h1
  · intro h
    obtain ⟨i, hi, he⟩ := List.getElem_of_mem h
    refine List.mem_map.2 ⟨i, occ_mem.2 ⟨by simpa using hi, by simp [he]⟩, by simp [hi, he]⟩
def tn (E : ArG) : ArG := E.map (fun e => (e.2, e.1))
theorem tn_in {N : Nat} {E : ArG} (h : inN N E) : inN N (tn E) := by
  intro e he
  obtain ⟨a, ha, rfl⟩ := List.mem_map.1 he
  exact ⟨(h a ha).2, (h a ha).1⟩
theorem tn_tn (E : ArG) : tn (tn E) = E := by
  unfold tn; rw [List.map_map]
  exact (List.map_congr_left (fun e _ => rfl)).trans (List.map_id E)
theorem tn_len (E : ArG) : (tn E).length = E.length := by simp [tn]
theorem tn_mem {E : ArG} {a b : Nat} : (a, b) ∈ tn E ↔ (b, a) ∈ E := by
  unfold tn
  constructor
  · intro h; obtain ⟨e, he, h2⟩ := List.mem_map.1 h; cases h2; exact he
  · intro h; exact List.mem_map.2 ⟨_, h, rfl⟩
/-! ### What is reached. -/
inductive Rch (E : ArG) : Nat → Nat → Prop
  | refl (v : Nat) : Rch E v v
  | step {v w u : Nat} (h : Rch E v w) (e : (w, u) ∈ E) : Rch E v u
theorem Rch.trans {E : ArG} {a b c : Nat} (h : Rch E a b) (k : Rch E b c) : Rch E a c := by
  induction k with
  | refl => exact h
  | step _ e ih => exact ih.step e
theorem Rch.head {E : ArG} {a b c : Nat} (e : (a, b) ∈ E) (k : Rch E b c) : Rch E a c := Rch.trans ((Rch.refl a).step e) k
theorem Rch.mono {E F : ArG} (hf : ∀ e ∈ E, e ∈ F) {a b : Nat} (h : Rch E a b) : Rch F a b := by
  induction h with
  | refl => exact .refl _
  | step _ e ih => exact ih.step (hf _ e)
theorem Rch.lt {N : Nat} {E : ArG} (hE : inN N E) {a b : Nat} (h : Rch E a b) (ha : a < N) : b < N := by
  cases h with
  | refl => exact ha
  | step _ e => exact (hE _ e).2
/-- What is closed under the arcs has what is reached. -/
theorem Rch.closed {E : ArG} {p : Nat → Prop} {a : Nat} (ha : p a) (hc : ∀ w u, (w, u) ∈ E → p w → p u) {b : Nat} (h : Rch E a b) : p b := by
  induction h with
  | refl => exact ha
  | step _ e ih => exact hc _ _ e ih
theorem nodup_le {A : List Nat} : ∀ {L : List Nat}, L.Nodup → (∀ x ∈ L, x ∈ A) → L.length ≤ A.length := by
  intro L
  induction L generalizing A with
  | nil => intro _ _; simp
  | cons x L ih =>
    intro hd hs
    have hx := hs x (by simp)
    rw [List.nodup_cons] at hd
    have := ih (A := A.erase x) hd.2 (fun y hy => by
      have hne : y ≠ x := fun e => hd.1 (e ▸ hy)
      exact (List.mem_erase_of_ne hne).2 (hs y (by simp [hy])))
    rw [List.length_erase_of_mem hx] at this
    have : 0 < A.length := List.length_pos_of_mem hx
    simp; omega
theorem nodup_lt {L : List Nat} {N : Nat} (hd : L.Nodup) (h : ∀ x ∈ L, x < N) : L.length ≤ N := by
  have := nodup_le (A := List.range N) hd (fun x hx => List.mem_range.2 (h x hx))
  simpa using this
def addN (L : List Nat) (u : Nat) : List Nat := if u ∈ L then L else L ++ [u]
theorem addN_mem {L : List Nat} {u x : Nat} : x ∈ addN L u ↔ x ∈ L ∨ x = u := by
  unfold addN; split
  · rename_i h; constructor
    · exact .inl
    · rintro (q | rfl) <;> assumption
  · simp
theorem addN_nodup {L : List Nat} {u : Nat} (h : L.Nodup) : (addN L u).Nodup := by
  unfold addN; split
  · exact h
  · rename_i hu; rw [List.nodup_append]; refine ⟨h, by simp, ?_⟩
    intro a ha b hb; simp at hb; subst hb; intro e; subst e; exact hu ha
def addAll (L us : List Nat) : List Nat := us.foldl addN L
theorem addAll_snoc (L us : List Nat) (u : Nat) : addAll L (us ++ [u]) = addN (addAll L us) u := by simp [addAll, List.foldl_append]
theorem addAll_mem {us : List Nat} : ∀ {L : List Nat} {x : Nat}, x ∈ addAll L us ↔ x ∈ L ∨ x ∈ us := by
  induction us with
  | nil => intro L x; simp [addAll]
  | cons u us ih => intro L x; unfold addAll at ih ⊢; rw [List.foldl_cons, ih, addN_mem, List.mem_cons, or_assoc]
theorem addAll_nodup {us : List Nat} : ∀ {L : List Nat}, L.Nodup → (addAll L us).Nodup := by
  induction us with
  | nil => intro L h; exact h
  | cons u us ih => intro L h; unfold addAll at ih ⊢; rw [List.foldl_cons]; exact ih (addN_nodup h)
theorem addN_get {L : List Nat} {u j : Nat} (h : j < L.length) : (addN L u)[j]? = L[j]? := by
  unfold addN; split
  · rfl
  · rw [List.getElem?_append_left h]
theorem addN_len (L : List Nat) (u : Nat) : L.length ≤ (addN L u).length := by unfold addN; split <;> simp
theorem addAll_get {us : List Nat} : ∀ {L : List Nat} {j : Nat}, j < L.length → (addAll L us)[j]? = L[j]? ∧ L.length ≤ (addAll L us).length := by
  induction us with
  | nil => intro L j h; exact ⟨rfl, Nat.le_refl _⟩
  | cons u us ih =>
    intro L j h
    unfold addAll at ih ⊢
    rw [List.foldl_cons]
    have h1 := addN_len L u
    obtain ⟨a, b⟩ := ih (L := addN L u) (j := j) (by omega)
    exact ⟨a.trans (addN_get h), by omega⟩
def metL (N : Nat) (L : List Nat) : List Bool := (List.range N).map (fun w => decide (w ∈ L))
def li (L : List Nat) : List Int := L.map (fun i : Nat => (i : Int))
theorem li_len (L : List Nat) : (li L).length = L.length := by simp [li]
theorem getI_li {L : List Nat} {k : Nat} (h : k < L.length) : getI (li L) (k : Int) = some ((L[k] : Nat) : Int) := by rw [getN (by rw [li_len]; exact h)]; simp [li]
theorem getI_ai {E : ArG} {k : Nat} (h : k < E.length) : getI (ai E) (k : Int) = some (((E[k].1 : Nat) : Int), ((E[k].2 : Nat) : Int)) := by rw [getN (by rw [ai_len]; exact h)]; simp [ai]
theorem reach1 {N : Nat} {E : ArG} (hE : inN N E) (hn : N ≤ 1048576) (O : List Nat) (hO : ∀ i ∈ O, i < E.length) (hOl : O.length ≤ 67108864) (L : List Nat) (hL : L.Nodup) (hL2 : ∀ x ∈ L, x < N) :
    loop (fn_graph_Graph_Reach_l1 (mkG N E) (li O)) (metL N L, li L, 0) = some (metL N (addAll L (O.map fun i => (E.getD i (0, 0)).2)), li (addAll L (O.map fun i => (E.getD i (0, 0)).2))) := by
  have h := loop_nat (body := fn_graph_Graph_Reach_l1 (mkG N E) (li O)) (fun k : Nat => (metL N (addAll L ((O.take k).map fun i => (E.getD i (0, 0)).2)), li (addAll L ((O.take k).map fun i => (E.getD i (0, 0)).2)), (k : Int))) O.length (b := (metL N (addAll L (O.map fun i => (E.getD i (0, 0)).2)), li (addAll L (O.map fun i => (E.getD i (0, 0)).2)))) ?_ ?_
  · simpa [addAll] using h
  · intro k hk
    have hk' : k < (li O).length := by rw [li_len]; exact hk
    have hi := hO _ (List.getElem_mem hk)
    have hu := (hE _ (List.getElem_mem hi)).2
    rw [take_snoc hk, List.map_append, List.map_cons, List.map_nil, addAll_snoc, show E.getD O[k] (0, 0) = E[O[k]] by simp [hi]]
    have hnd : (addAll L ((O.take k).map fun i => (E.getD i (0, 0)).2)).Nodup := addAll_nodup hL
    have hlt : ∀ x ∈ addAll L ((O.take k).map fun i => (E.getD i (0, 0)).2), x < N := fun x hx => by
      rcases addAll_mem.1 hx with q | q
      · exact hL2 x q
      · obtain ⟨i, hi, rfl⟩ := List.mem_map.1 q
        have := hO i (List.mem_of_mem_take hi)
        simp only [show E.getD i (0, 0) = E[i] by simp [this]]
        exact (hE _ (List.getElem_mem this)).2
    generalize addAll L ((O.take k).map fun i => (E.getD i (0, 0)).2) = M at hnd hlt
    have hMl := nodup_lt hnd hlt
    unfold fn_graph_Graph_Reach_l1
    simp only [dlt hk', cond_true, getI_li hk, Option.bind_some, mkG, getI_ai hi, w64s hk' (by rw [li_len]; omega)]
    generalize hu' : E[O[k]].2 = u at hu
    have g : getI (metL N M) (u : Int) = some (decide (u ∈ M)) := getI_map hu
    simp only [g, Option.bind_some, Int.toNat_natCast]
    by_cases hm : u ∈ M
    · simp [hm, addN]
    · have ha : app (li M) [(u : Int)] = some (li (M ++ [u])) := by rw [app_eq (by rw [li_len]; simp; omega)]; simp [li]
      simp only [hm, decide_false, Bool.not_false, cond_true, ha, Option.bind_some, addN, if_false]
      congr 3
      unfold metL
      rw [set_map]
      refine map_congr_range (fun w hw => ?_)
      by_cases hw2 : w = u <;> simp [hw2]
  · unfold fn_graph_Graph_Reach_l1
    simp [li_len]
theorem reach2 {N : Nat} {E : ArG} (hE : inN N E) (hn : N ≤ 1048576) (he : E.length ≤ 67108864) {v : Nat} (hv : v < N) :
    ∃ L : List Nat, loop (fn_graph_Graph_Reach_l2 (mkG N E)) (metL N [v], li [v], 0) = some (li L) ∧ L.Nodup ∧ (∀ w, w ∈ L ↔ Rch E v w) := by
  have key : ∃ r, loop (fn_graph_Graph_Reach_l2 (mkG N E)) (metL N [v], li [v], 0) = some r ∧ ∃ L : List Nat, r = li L ∧ L.Nodup ∧ (∀ w, w ∈ L ↔ Rch E v w) := by
    refine loop_inv (fun s => ∃ (L : List Nat) (k : Nat), s = (metL N L, li L, (k : Int)) ∧ k ≤ L.length ∧ L.Nodup ∧ v ∈ L ∧ (∀ w ∈ L, Rch E v w) ∧ ∀ j, j < k → ∀ (w u : Nat), L[j]? = some w → (w, u) ∈ E → u ∈ L) (fun s => N - s.2.2.toNat) ?_ ⟨[v], 0, rfl, by simp, by simp, by simp, by simp; exact .refl v, by omega⟩
    rintro _ ⟨L, k, rfl, hk, hnd, hvL, hR, hcl⟩
    have hlt : ∀ x ∈ L, x < N := fun x hx => (hR x hx).lt hE hv
    have hLl := nodup_lt hnd hlt
    by_cases hkl : k < L.length
    · left
      have hk' : k < (li L).length := by rw [li_len]; exact hkl
      have hw := hlt _ (List.getElem_mem hkl)
      have hb := occ_bound (E.map (·.1)) L[k]
      simp at hb
      unfold fn_graph_Graph_Reach_l2
      simp only [dlt hk', cond_true, getI_li hkl, Option.bind_some]
      rw [show (mkG N E).2.2.1 = ixs N (E.map (·.1)) from rfl, show (((ixs N (E.map (·.1))).1, (ixs N (E.map (·.1))).2) : List Int × List Int) = ixs N (E.map (·.1)) from rfl, index_of_eq hn (by simp; omega) hw, Option.bind_some]
      have h1 := reach1 hE hn (occ (E.map (·.1)) L[k]) (fun i hi => (occ_arc hi).1) (by omega) L hnd hlt
      unfold li at h1
      unfold li
      rw [h1, Option.bind_some]
      refine ⟨_, rfl, ⟨addAll L (nxt E L[k]), k + 1, ?_, ?_, addAll_nodup hnd, addAll_mem.2 (.inl hvL), ?_, ?_⟩, ?_⟩
      · rw [w64s hkl (by omega)]; rfl
      · have := (addAll_get (us := nxt E L[k]) hkl).2; omega
      · intro w hw
        rcases addAll_mem.1 hw with q | q
        · exact hR w q
        · exact (hR _ (List.getElem_mem hkl)).step (nxt_mem.1 q)
      · intro j hj w u hjw hwu
        have hjL : j < L.length := by omega
        rw [(addAll_get hjL).1] at hjw
        by_cases hjk : j < k
        · exact addAll_mem.2 (.inl (hcl j hjk w u hjw hwu))
        · have : j = k := by omega
          subst this
          rw [List.getElem?_eq_getElem hjL] at hjw
          obtain rfl := Option.some.inj hjw
          exact addAll_mem.2 (.inr (nxt_mem.2 hwu))
      · dsimp only; rw [w64s hkl (by omega)]; simp; omega
    · right
      have hke : k = L.length := by omega
      refine ⟨li L, ?_, L, rfl, hnd, fun w => ⟨hR w, fun h => ?_⟩⟩
      · unfold fn_graph_Graph_Reach_l2; simp [hke, li_len]
      · refine Rch.closed (p := fun w => w ∈ L) hvL (fun w u e hw => ?_) h
        obtain ⟨j, hj, rfl⟩ := List.getElem_of_mem hw
        exact hcl j (by omega) _ u (List.getElem?_eq_getElem hj) e
  obtain ⟨r, h1, L, rfl, h2⟩ := key
  exact ⟨L, h1, h2⟩
open Classical in
noncomputable def rl (N : Nat) (E : ArG) (v : Nat) : List Nat := (List.range N).filter (fun w => decide (Rch E v w))
theorem rl_mem {N : Nat} {E : ArG} (hE : inN N E) {v w : Nat} (hv : v < N) : w ∈ rl N E v ↔ Rch E v w := by
  unfold rl
  simp only [List.mem_filter, List.mem_range, decide_eq_true_eq]
  exact ⟨fun h => h.2, fun h => ⟨h.lt hE hv, h⟩⟩
theorem range_strict (N : Nat) (p : Nat → Bool) : (li ((List.range N).filter p)).Pairwise (· < ·) := by
  unfold li
  rw [List.pairwise_map]
  refine List.Pairwise.imp (R := fun a b : Nat => a < b) (fun h => by omega) ?_
  exact List.pairwise_lt_range.filter p
theorem srt_set {L : List Nat} (hd : L.Nodup) {M : List Nat} (hM : (li M).Pairwise (· < ·)) (h : ∀ w, w ∈ L ↔ w ∈ M) (hl : L.length ≤ 1073741824) : srt (li L) = some (li M) := by
  unfold srt
  rw [if_pos (by rw [li_len]; exact hl)]
  congr 1
  refine strict_eq ?_ hM (fun a => ?_)
  · have hs := List.pairwise_mergeSort (le := fun x y : Int => decide (x ≤ y)) (fun a b c h1 h2 => by simp at *; omega) (fun a b => by simp; omega) (li L)
    have hnd : ((li L).mergeSort fun x y => decide (x ≤ y)).Nodup := by
      refine (List.mergeSort_perm _ _).nodup_iff.2 ?_
      unfold li
      exact List.Pairwise.map _ (fun a b h1 h2 => h1 (by omega)) hd
    exact (List.Pairwise.and hs hnd).imp (fun ⟨h1, h2⟩ => by simp at h1; omega)
  · rw [List.mem_mergeSort]
    unfold li
    simp only [List.mem_map]
    exact ⟨fun ⟨x, hx, e⟩ => ⟨x, (h x).1 hx, e⟩, fun ⟨x, hx, e⟩ => ⟨x, (h x).2 hx, e⟩⟩
theorem Reach_of {N : Nat} {E : ArG} (hE : inN N E) (hn : N ≤ 1048576) (he : E.length ≤ 67108864) {v : Nat} (hv : v < N) : fn_graph_Graph_Reach (some (mkG N E)) (v : Int) = some (li (rl N E v)) := by
  obtain ⟨L, h1, h2, h3⟩ := reach2 hE hn he hv
  unfold fn_graph_Graph_Reach
  rw [isNode_of hv]
  have hm : (List.replicate N false).set v true = metL N [v] := by
    rw [replicate_map, set_map]; unfold metL
    refine map_congr_range (fun w hw => ?_)
    by_cases h : w = v <;> simp [h]
  have hg : getI (List.replicate N false) (v : Int) = some false := by rw [replicate_map]; exact getI_map hv
  simp only [Option.bind_some, Bool.not_true, cond_false]
  rw [show (mkG N E).1 = (N : Int) from rfl, mkN (by omega)]
  simp only [Option.bind_some, hg, Int.toNat_natCast, hm]
  rw [show ([(v : Int)] : List Int) = li [v] from rfl, h1, Option.bind_some, srt_set h2 (range_strict N _) (fun w => (h3 w).trans (rl_mem hE hv).symm) (by
    have := nodup_lt h2 (fun x hx => ((h3 x).1 hx).lt hE hv); omega)]
  rfl
theorem Reach_not {N : Nat} {E : ArG} {v : Int} (h : v < 0 ∨ (N : Int) ≤ v) : fn_graph_Graph_Reach (some (mkG N E)) v = some [] := by
  unfold fn_graph_Graph_Reach; rw [isNode_not h]; rfl
theorem Reach_none (v : Int) : fn_graph_Graph_Reach none v = some [] := by
  unfold fn_graph_Graph_Reach; rw [isNode_none]; rfl
end Go.Proofs.Ytmbdoknljjoejaa
namespace Go.Proofs.Ytmbdoknljjoejaa
open Go.RowKit
set_option linter.unusedVariables false
theorem same01_eq (xa xb : List Int) (hn : xa.length ≤ 1073741824) : fn_ref01_Same xa xb = some (decide (xa = xb)) := by
  unfold fn_ref01_Same
  by_cases hl : xa.length = xb.length
  · rw [dlen hl, cond_false, loop_alike (body := fn_ref01_Same_l1 xa xb) xa xb (.inr false) (.inl ()) hl ?_ ?_]
    · by_cases h : xa = xb <;> simp [h]
    · intro k h; unfold fn_ref01_Same_l1
      have h2 : k < xb.length := by omega
      by_cases q : xa[k] = xb[k] <;> simp [getN h, getN h2, h, q, w64s h (by omega)]
    · simp [fn_ref01_Same_l1]
  · rw [dlen' hl, cond_true]
    have : ¬ xa = xb := fun h => hl (by rw [h])
    simp [this]
end Go.Proofs.Ytmbdoknljjoejaa
namespace Go.Proofs.Ytmbdoknljjoejaa
open Go.RowKit
set_option linter.unusedVariables false
theorem Check_eq (n : Int) (xb : List (Int × Int)) (he : xb.length ≤ 1000000) : fn_ref10_Check n xb = some (if n < 0 then 2 else if 1048576 < n then 5 else if xb.any (outA n) then 7 else 0) := by
  unfold fn_ref10_Check
  by_cases h0 : n < 0
  · simp [h0]
  · by_cases h1 : 1048576 < n
    · simp [h0, h1]
    · have h2 : (decide ((1048576 : Int) < n) || decide ((67108864 : Int) < ((xb.length : Nat) : Int))) = false := by simp; omega
      rw [show decide (n < 0) = false from decide_eq_false h0, cond_false, h2, cond_false, loop_some xb (outA n) (.inr 7) (.inl ()) ?_ ?_]
      · simp only [h0, h1, if_false]
        cases xb.any (outA n) <;> rfl
      · intro k h
        unfold fn_ref10_Check_l1
        rw [dlt h, cond_true, getN h, w64s h (by omega : xb.length ≤ 9223372036854775807)]
        simp only [Option.bind_some]
        unfold outA
        by_cases a1 : xb[k].1 < 0 <;> by_cases a2 : n ≤ xb[k].1 <;> by_cases a3 : xb[k].2 < 0 <;> by_cases a4 : n ≤ xb[k].2 <;> simp [a1, a2, a3, a4]
      · simp [fn_ref10_Check_l1]
def refOut (xb : List (Int × Int)) (v : Int) : List Nat := (List.range xb.length).filter (fun i => decide ((xb.getD i (0, 0)).1 = v))
theorem refOut_occ (E : ArG) (v : Nat) : refOut (ai E) (v : Int) = occ (E.map (·.1)) v := by
  unfold refOut occ
  rw [ai_len, List.length_map]
  refine List.filter_congr (fun i hi => ?_)
  have hi' := List.mem_range.1 hi
  simp [ai, hi', Int.ofNat_inj]
theorem refOut_not {N : Nat} {E : ArG} (hE : inN N E) {v : Int} (h : v < 0 ∨ (N : Int) ≤ v) : refOut (ai E) v = [] := by
  unfold refOut
  rw [List.filter_eq_nil_iff]
  intro i hi
  rw [List.mem_range, ai_len] at hi
  have := (hE _ (List.getElem_mem hi)).1
  simp [ai, hi]; omega
theorem nxt_eq (E : ArG) (v : Nat) : nxt E v = (E.filter (fun e => decide (e.1 = v))).map (·.2) := by
  have hE : E = (List.range E.length).map (fun i => E.getD i (0, 0)) := by
    apply List.ext_getElem
    · simp
    · intro i h1 h2; simp [h1]
  unfold nxt occ
  rw [List.length_map]
  conv => rhs; rw [hE]
  rw [List.filter_map, List.map_map]
  congr 1
  refine List.filter_congr (fun i hi => ?_)
  have hi' := List.mem_range.1 hi
  simp [hi']
theorem refNext_nat (E : ArG) (v : Nat) : ((ai E).filter (fun a => decide (a.1 = (v : Int)))).map (·.2) = li (nxt E v) := by
  rw [nxt_eq]
  unfold ai li
  rw [List.filter_map, List.map_map, List.map_map]
  congr 1
  refine List.filter_congr (fun e _ => ?_)
  simp [Int.ofNat_inj]
theorem refNext_not {N : Nat} {E : ArG} (hE : inN N E) {v : Int} (h : v < 0 ∨ (N : Int) ≤ v) : ((ai E).filter (fun a => decide (a.1 = v))).map (·.2) = [] := by
  have : (ai E).filter (fun a => decide (a.1 = v)) = [] := by
    rw [List.filter_eq_nil_iff]
    intro a ha
    obtain ⟨e, he, rfl⟩ := List.mem_map.1 ha
    have := (hE e he).1
    simp; omega
  rw [this]; rfl
theorem ai_tn (E : ArG) : (ai E).map (fun a => (a.2, a.1)) = ai (tn E) := by simp [ai, tn]
def inL (N : Nat) (M : List Nat) : List Int := (List.range N).map (fun w => if w ∈ M then (1 : Int) else 0)
theorem ref1 {N : Nat} {E : ArG} (hE : inN N E) (he : E.length ≤ 2000) (M : List Nat) (hM : M.Nodup) :
    ∃ r, loop (fn_ref10_Reach_l1 (ai E)) (inL N M, false, 0) = some r ∧ ∃ more : List Nat, (M ++ more).Nodup ∧ r.1 = inL N (M ++ more) ∧ (∀ w ∈ more, ∃ a ∈ M ++ more, Rch E a w ∧ a ∈ M) ∧ ((r.2 = false ∧ more = [] ∧ ∀ e ∈ E, e.1 ∈ M → e.2 ∈ M) ∨ (r.2 = true ∧ more ≠ [])) := by
  refine loop_inv (fun s => ∃ (k : Nat) (more : List Nat), k ≤ E.length ∧ (M ++ more).Nodup ∧ s.1 = inL N (M ++ more) ∧ s.2.2 = (k : Int) ∧ (∀ w ∈ more, ∃ a ∈ M ++ more, Rch E a w ∧ a ∈ M) ∧ ((s.2.1 = false ∧ more = [] ∧ ∀ e ∈ E.take k, e.1 ∈ M → e.2 ∈ M) ∨ (s.2.1 = true ∧ more ≠ []))) (fun s => E.length - s.2.2.toNat) ?_ ⟨0, [], by omega, by simpa using hM, by simp, rfl, by simp, .inl ⟨rfl, rfl, by simp⟩⟩
  rintro ⟨l, b, i⟩ ⟨k, more, hk, hnd, h1, h2, hr, h3⟩
  dsimp only at h1 h2 h3
  subst h1 h2
  by_cases hlt : k < E.length
  · left
    have hk2 : k < (ai E).length := by rw [ai_len]; exact hlt
    obtain ⟨ha, hb⟩ := hE _ (List.getElem_mem hlt)
    unfold fn_ref10_Reach_l1
    dsimp only
    rw [dlt hk2, cond_true, getI_ai hlt, w64s hk2 (by rw [ai_len]; omega)]
    generalize hA : E[k].1 = a at ha
    generalize hB : E[k].2 = c at hb
    have hmem : (a, c) ∈ E := by rw [← hA, ← hB]; exact List.getElem_mem hlt
    have ga : getI (inL N (M ++ more)) (a : Int) = some (if a ∈ M ++ more then (1 : Int) else 0) := getI_map ha
    have gc : getI (inL N (M ++ more)) (c : Int) = some (if c ∈ M ++ more then (1 : Int) else 0) := getI_map hb
    simp only [Option.bind_some, ga, gc, Int.toNat_natCast]
    by_cases hc : a ∈ M ++ more ∧ c ∉ M ++ more
    · have hset : (inL N (M ++ more)).set c 1 = inL N (M ++ (more ++ [c])) := by
        unfold inL; rw [set_map]
        refine map_congr_range (fun w hw => ?_)
        by_cases hwc : w = c
        · simp [hwc]
        · simp [hwc]
      rw [if_pos hc.1, if_neg hc.2]
      simp only [decide_true, cond_true, Option.bind_some, hset]
      refine ⟨_, rfl, ⟨k + 1, more ++ [c], by omega, ?_, rfl, rfl, ?_, .inr ⟨rfl, by simp⟩⟩, by dsimp only; omega⟩
      · rw [← List.append_assoc, List.nodup_append]
        refine ⟨hnd, by simp, ?_⟩
        intro x hx y hy; simp at hy; subst hy; intro e; subst e; exact hc.2 hx
      · intro w hw
        rcases List.mem_append.1 hw with q | q
        · obtain ⟨x, x1, x2, x3⟩ := hr w q; exact ⟨x, by simp [x3], x2, x3⟩
        · simp at q; subst q
          rcases List.mem_append.1 hc.1 with q | q
          · exact ⟨a, by simp [q], (Rch.refl a).step hmem, q⟩
          · obtain ⟨x, x1, x2, x3⟩ := hr a q; exact ⟨x, by simp [x3], x2.step hmem, x3⟩
    · have hcond : (cond (decide ((if a ∈ M ++ more then (1 : Int) else 0) = 1)) (some (decide ((if c ∈ M ++ more then (1 : Int) else 0) = 0))) (some false)) = some false := by
        by_cases h4 : a ∈ M ++ more
        · have h5 : c ∈ M ++ more := Classical.byContradiction fun h => hc ⟨h4, h⟩
          rw [if_pos h4, if_pos h5]; rfl
        · rw [if_neg h4]; rfl
      rw [hcond]
      simp only [Option.bind_some, cond_false]
      refine ⟨_, rfl, ⟨k + 1, more, by omega, hnd, rfl, rfl, hr, ?_⟩, by dsimp only; omega⟩
      rcases h3 with ⟨rfl, rfl, h5⟩ | h5
      · refine .inl ⟨rfl, rfl, fun e he1 he2 => ?_⟩
        rw [take_snoc hlt] at he1
        rcases List.mem_append.1 he1 with q | q
        · exact h5 e q he2
        · simp at q; subst q
          simp only [List.append_nil] at hc
          rw [hA] at he2; rw [hB]
          exact Classical.byContradiction fun h => hc ⟨he2, h⟩
      · exact .inr h5
  · right
    have hke : k = E.length := by omega
    refine ⟨(inL N (M ++ more), b), ?_, more, hnd, rfl, hr, ?_⟩
    · unfold fn_ref10_Reach_l1; simp [hke, ai_len]
    · rw [hke, List.take_length] at h3; exact h3
theorem ref2 {N : Nat} {E : ArG} (hE : inN N E) (he : E.length ≤ 2000) {v : Nat} (hv : v < N) : loop (fn_ref10_Reach_l2 (ai E)) (inL N [v], true) = some (inL N (rl N E v)) := by
  have key : ∃ r, loop (fn_ref10_Reach_l2 (ai E)) (inL N [v], true) = some r ∧ ∃ M : List Nat, r = inL N M ∧ ∀ w, w ∈ M ↔ Rch E v w := by
    refine loop_inv (fun s => ∃ M : List Nat, s.1 = inL N M ∧ M.Nodup ∧ v ∈ M ∧ (∀ w ∈ M, Rch E v w) ∧ (s.2 = false → ∀ e ∈ E, e.1 ∈ M → e.2 ∈ M) ∧ (s.2 = false ∨ s.2 = true)) (fun s => 2 * (s.1.countP (fun x => decide (x = 0))) + (if s.2 then 1 else 0)) ?_ ⟨[v], rfl, by simp, by simp, by simp; exact .refl v, by simp, .inr rfl⟩
    rintro ⟨l, b⟩ ⟨M, h1, h2, h3, h4, h5, _⟩
    dsimp only at h1 h5
    subst h1
    cases b with
    | true =>
      left
      obtain ⟨r, r1, more, r2, r3, r4, r5⟩ := ref1 hE he M h2
      obtain ⟨r6, r7⟩ := r
      dsimp only at r3 r5
      subst r3
      unfold fn_ref10_Reach_l2
      dsimp only
      rw [cond_true, r1]
      refine ⟨_, rfl, ⟨M ++ more, rfl, r2, by simp [h3], ?_, ?_, ?_⟩, ?_⟩
      · intro w hw
        rcases List.mem_append.1 hw with q | q
        · exact h4 w q
        · obtain ⟨a, a1, a2, a3⟩ := r4 w q; exact (h4 a a3).trans a2
      · intro hf
        rcases r5 with ⟨_, rfl, r5⟩ | ⟨r5, _⟩
        · simpa using r5
        · dsimp only at hf; rw [r5] at hf; cases hf
      · rcases r5 with ⟨r5, _⟩ | ⟨r5, _⟩
        · exact .inl r5
        · exact .inr r5
      · dsimp only
        rcases r5 with ⟨r5, rfl, _⟩ | ⟨r5, r8⟩
        · rw [r5]; simp
        · rw [r5]
          have : (inL N (M ++ more)).countP (fun x => decide (x = 0)) < (inL N M).countP (fun x => decide (x = 0)) := by
            obtain ⟨c, more', rfl⟩ := List.exists_cons_of_ne_nil r8
            have hcM : c ∉ M := fun h => by
              rw [List.nodup_append] at r2
              exact r2.2.2 c h c (by simp) rfl
            have hcN : c < N := by
              obtain ⟨a, a1, a2, a3⟩ := r4 c (by simp); exact ((h4 a a3).trans a2).lt hE hv
            unfold inL
            rw [List.countP_map, List.countP_map]
            have gen : ∀ m, c < m → (List.range m).countP ((fun x : Int => decide (x = 0)) ∘ fun w => if w ∈ M ++ c :: more' then (1 : Int) else 0) < (List.range m).countP ((fun x : Int => decide (x = 0)) ∘ fun w => if w ∈ M then (1 : Int) else 0) := by
              intro m hm
              induction m with
              | zero => omega
              | succ m ih =>
                have mono : (List.range m).countP ((fun x : Int => decide (x = 0)) ∘ fun w => if w ∈ M ++ c :: more' then (1 : Int) else 0) ≤ (List.range m).countP ((fun x : Int => decide (x = 0)) ∘ fun w => if w ∈ M then (1 : Int) else 0) := by
                  apply List.countP_mono_left
                  intro z _ hz
                  by_cases hzM : z ∈ M
                  · simp [hzM] at hz
                  · simp [hzM]
                rw [List.range_succ, List.countP_append, List.countP_append]
                by_cases hcm : c = m
                · subst hcm
                  have a1 : [c].countP ((fun x : Int => decide (x = 0)) ∘ fun w => if w ∈ M ++ c :: more' then (1 : Int) else 0) = 0 := by simp
                  have a2 : [c].countP ((fun x : Int => decide (x = 0)) ∘ fun w => if w ∈ M then (1 : Int) else 0) = 1 := by simp [hcM]
                  rw [a1, a2]; omega
                · have := ih (by omega)
                  have a3 : [m].countP ((fun x : Int => decide (x = 0)) ∘ fun w => if w ∈ M ++ c :: more' then (1 : Int) else 0) ≤ [m].countP ((fun x : Int => decide (x = 0)) ∘ fun w => if w ∈ M then (1 : Int) else 0) := by
                    apply List.countP_mono_left
                    intro z _ hz
                    by_cases hzM : z ∈ M
                    · simp [hzM] at hz
                    · simp [hzM]
                  omega
            exact gen N hcN
          simp; omega
    | false =>
      right
      refine ⟨inL N M, rfl, M, rfl, fun w => ⟨h4 w, fun h => ?_⟩⟩
      exact Rch.closed (p := fun w => w ∈ M) h3 (fun a c e ha => h5 rfl (a, c) e ha) h
  obtain ⟨r, h1, M, rfl, h2⟩ := key
  rw [h1]
  congr 1
  unfold inL
  refine map_congr_range (fun w hw => ?_)
  have := (h2 w).trans (rl_mem hE hv).symm
  by_cases hm : w ∈ M
  · rw [if_pos hm, if_pos (this.1 hm)]
  · rw [if_neg hm, if_neg (fun h => hm (this.2 h))]
theorem refReach_eq {N : Nat} {E : ArG} (hE : inN N E) (hn : N ≤ 1000) (he : E.length ≤ 2000) {v : Nat} (hv : v < N) : fn_ref10_Reach (N : Int) (ai E) (v : Int) = some (inL N (rl N E v)) := by
  unfold fn_ref10_Reach
  have hm : (List.replicate N (0 : Int)).set v 1 = inL N [v] := by
    rw [replicate_map, set_map]; unfold inL
    refine map_congr_range (fun w hw => ?_)
    by_cases h : w = v <;> simp [h]
  have hg : getI (List.replicate N (0 : Int)) (v : Int) = some 0 := by rw [replicate_map]; exact getI_map hv
  rw [mkN (by omega)]
  simp only [Option.bind_some, hg, Int.toNat_natCast, hm]
  rw [ref2 hE he hv]; rfl
theorem rl_filter (N : Nat) (E : ArG) (v : Nat) : (List.range N).filter (fun w => decide (w ∈ rl N E v)) = rl N E v := by
  conv => rhs; unfold rl
  refine List.filter_congr (fun w hw => ?_)
  unfold rl
  simp [List.mem_range.1 hw]
end Go.Proofs.Ytmbdoknljjoejaa
namespace Go.Proofs.Ytmbdoknljjoejaa
open Go.RowKit
set_option linter.unusedVariables false
set_option linter.unnecessarySimpa false
set_option linter.unusedSimpArgs false
set_option maxRecDepth 20000
abbrev Eg := Int × Int × (Int × Int × Int × Int × Bool)
abbrev Bo := Int × Int × List (Int × Int) × List (List (Int × Bool)) × List (Int × Bool) × List (Int × List (Int × Int) × List (List (Int × Bool)) × List (Int × Bool)) × List (List (Int × Int × Int × Int × Bool) × Int × Int × Int × List Int × List Int × List Int)
theorem refBounds_eq (xa xb : List (Int × Int)) (hn : xa.length ≤ 1073741824) : fn_ref17_Bounds xa xb = some (decide (xa = xb)) := by
  unfold fn_ref17_Bounds
  by_cases hl : xa.length = xb.length
  · rw [dlen hl, cond_false, loop_alike (body := fn_ref17_Bounds_l1 xa xb) xa xb (.inr false) (.inl ()) hl ?_ ?_]
    · by_cases h : xa = xb <;> simp [h]
    · intro k hk
      have h2 : k < xb.length := by omega
      unfold fn_ref17_Bounds_l1
      simp only [dlt hk, cond_true, getN hk, getN h2, Option.bind_some, w64s hk (by omega : xa.length ≤ 9223372036854775807)]
      generalize xa[k] = a
      generalize xb[k] = b
      obtain ⟨a1, a2⟩ := a
      obtain ⟨b1, b2⟩ := b
      by_cases q : a1 = b1 <;> by_cases q2 : a2 = b2 <;> simp [q, q2]
    · simp [fn_ref17_Bounds_l1]
  · rw [dlen' hl, cond_true]
    have : ¬ xa = xb := fun h => hl (by rw [h])
    simp [this]
def arcsOf (l : List Eg) : List (Int × Int) := l.map (fun e => (e.1, e.2.1))
theorem refArcs_eq (l : List Eg) (hl : l.length ≤ 1000000) : fn_ref27_Arcs l = some (arcsOf l) := by
  unfold fn_ref27_Arcs
  have := loop_map l (fun e : Eg => (e.1, e.2.1)) [] (by simp; omega) (body := fn_ref27_Arcs_l1 l) (fun c i => by
    unfold fn_ref27_Arcs_l1
    cases hg : getI l i with
    | none => simp [hg]
    | some x => simp [hg])
  rw [this]; simp [arcsOf]
theorem graphArcs_eq (l : List Eg) (hl : l.length ≤ 1000000) : (loop (fn_cons_Graph_l1 l) (List.replicate l.length (0, 0), 0) : Option (List (Int × Int))) = some (arcsOf l) := by
  have h := loop_nat (body := fn_cons_Graph_l1 l) (fun k : Nat => ((arcsOf l).take k ++ List.replicate (l.length - k) ((0 : Int), (0 : Int)), (k : Int))) l.length (b := arcsOf l) ?_ ?_
  · simpa using h
  · intro k hk
    have hA : k < (arcsOf l).length := by simpa [arcsOf] using hk
    have hp : ((arcsOf l).take k).length = k := by simp; omega
    have hr : List.replicate (l.length - k) ((0 : Int), (0 : Int)) = (0, 0) :: List.replicate (l.length - (k + 1)) (0, 0) := by
      rw [show l.length - k = (l.length - (k + 1)) + 1 by omega, List.replicate_succ]
    unfold fn_cons_Graph_l1
    have hq : k < ((arcsOf l).take k ++ List.replicate (l.length - k) ((0 : Int), (0 : Int))).length := by simp; omega
    simp only [dlt hk, cond_true, getN hk, getN hq, Option.bind_some, w64s hk (by omega : l.length ≤ 9223372036854775807)]
    have hs : ((arcsOf l).take k ++ List.replicate (l.length - k) ((0 : Int), (0 : Int))).set (k : Int).toNat (l[k].1, l[k].2.1) = (arcsOf l).take (k + 1) ++ List.replicate (l.length - (k + 1)) (0, 0) := by
      rw [show (k : Int).toNat = k from rfl, List.set_append_right _ _ (by omega), hp, Nat.sub_self, hr, List.set_cons_zero, take_snoc hA, List.append_assoc]
      simp [arcsOf]
    rw [hs]
  · unfold fn_cons_Graph_l1
    have hT : (arcsOf l).take l.length = arcsOf l := by rw [List.take_of_length_le]; simp [arcsOf]
    simp only [dge (show ¬ l.length < l.length by omega), cond_false, hT, Nat.sub_self, List.replicate_zero, List.append_nil]
theorem consGraph_eq (u xa : Int) (l : List Eg) (hl : l.length ≤ 1000000) : fn_cons_Graph (u, xa, [], [], [], [], []) l = (fn_graph_New xa (arcsOf l)).bind fun r => some r.1 := by
  unfold fn_cons_Graph
  rw [mkN (by omega), Option.bind_some, graphArcs_eq l hl, Option.bind_some]
section
variable {N : Nat} {E : ArG}
/-- Those that one outlives, among the first. -/
noncomputable def seg (U N : Nat) (E : ArG) (k : Nat) : List (Int × Int) := ((List.range U).filter (fun w => decide (w ≠ k) && decide (w ∈ rl N E k))).map (fun w : Nat => ((k : Int), (w : Int)))
noncomputable def acc (U N : Nat) (E : ArG) : Nat → List (Int × Int)
  | 0 => []
  | n + 1 => acc U N E n ++ seg U N E n
theorem seg_len (U : Nat) (k : Nat) : (seg U N E k).length ≤ U := by
  unfold seg; rw [List.length_map]
  exact Nat.le_trans (List.length_filter_le ..) (by simp)
theorem acc_len (U : Nat) : ∀ n, (acc U N E n).length ≤ n * U
  | 0 => by simp [acc]
  | n + 1 => by
    have := acc_len U n
    have h2 := seg_len (N := N) (E := E) U n
    simp only [acc, List.length_append, Nat.succ_mul]; omega
theorem range_cut {U N : Nat} (h : U ≤ N) (p : Nat → Bool) : ((List.range N).filter (fun w => p w && decide (w < U))) = (List.range U).filter p := by
  obtain ⟨d, rfl⟩ := Nat.exists_eq_add_of_le h
  rw [List.range_add, List.filter_append]
  have h1 : ((List.range d).map (U + ·)).filter (fun w => p w && decide (w < U)) = [] := by
    rw [List.filter_eq_nil_iff]
    intro w hw
    obtain ⟨x, _, rfl⟩ := List.mem_map.1 hw
    simp
  rw [h1, List.append_nil]
  refine List.filter_congr (fun w hw => ?_)
  simp [List.mem_range.1 hw]
theorem seg_rl {U : Nat} (h : U ≤ N) (k : Nat) : ((rl N E k).filter (fun w => decide (w ≠ k) && decide (w < U))).map (fun w : Nat => ((k : Int), (w : Int))) = seg U N E k := by
  unfold seg
  congr 1
  have h1 : (rl N E k).filter (fun w => decide (w ≠ k) && decide (w < U)) = (List.range N).filter (fun w => (decide (w ≠ k) && decide (w ∈ rl N E k)) && decide (w < U)) := by
    have e : (rl N E k).filter (fun w => decide (w ≠ k) && decide (w < U)) = ((List.range N).filter (fun w => decide (w ∈ rl N E k))).filter (fun w => decide (w ≠ k) && decide (w < U)) := by rw [rl_filter]
    rw [e, List.filter_filter]
    refine List.filter_congr (fun w hw => ?_)
    cases decide (w ≠ k) <;> cases decide (w < U) <;> cases decide (w ∈ rl N E k) <;> rfl
  rw [h1, range_cut h]
theorem seg_none {U : Nat} {k : Nat} (hE : inN N E) (hk : k < N) (h : occ (E.map (·.1)) k = []) : seg U N E k = [] := by
  unfold seg
  rw [List.map_eq_nil_iff, List.filter_eq_nil_iff]
  intro w hw hc
  simp only [Bool.and_eq_true, decide_eq_true_eq] at hc
  obtain ⟨h1, h2⟩ := hc
  have h3 := (rl_mem hE hk).1 h2
  have : w = k := Rch.closed (p := fun w => w = k) rfl (fun a b e ha => by
    subst ha
    exfalso
    obtain ⟨i, hi, e2⟩ := List.getElem_of_mem e
    have : i ∈ occ (E.map (·.1)) a := occ_mem.2 ⟨by simpa using hi, by simp [e2]⟩
    rw [h] at this; cases this) h3
  exact h1 this
theorem outl1 {U : Nat} {u : Int} {k : Nat} (hU : (if (N : Int) < u then (N : Int) else u) = (U : Int)) (hUN : U ≤ N) (L : List Nat) (hL : L.length ≤ 1000) (A : List (Int × Int)) (hA : A.length ≤ 1000000) (b : List (Int × Int) × List (List (Int × Bool)) × List (Int × Bool) × List (Int × List (Int × Int) × List (List (Int × Bool)) × List (Int × Bool)) × List (List (Int × Int × Int × Int × Bool) × Int × Int × Int × List Int × List Int × List Int)) (r : Int) :
    loop (fn_model_Outlives_l1 (u, r, b) (N : Int) (k : Int) (li L)) (A, 0) = some (A ++ (L.filter (fun w => decide (w ≠ k) && decide (w < U))).map (fun w : Nat => ((k : Int), (w : Int)))) := by
  have h := loop_carry (body := fn_model_Outlives_l1 (u, r, b) (N : Int) (k : Int) (li L)) (li L) (fun j => A ++ ((L.take j).filter (fun w => decide (w ≠ k) && decide (w < U))).map (fun w : Nat => ((k : Int), (w : Int)))) (A ++ (L.filter (fun w => decide (w ≠ k) && decide (w < U))).map (fun w : Nat => ((k : Int), (w : Int)))) ?_ ?_
  · simpa using h
  · intro j hj
    have hj2 : j < L.length := by rw [li_len] at hj; exact hj
    have hfl : ((L.take j).filter (fun w => decide (w ≠ k) && decide (w < U))).length ≤ 1000 := by
      have := List.length_filter_le (fun w => decide (w ≠ k) && decide (w < U)) (L.take j)
      have h2 : (L.take j).length ≤ L.length := by simp; omega
      omega
    unfold fn_model_Outlives_l1
    simp only [dlt hj, cond_true, getI_li hj2, Option.bind_some, hU, w64s hj (by rw [li_len]; omega)]
    rw [take_snoc hj2, List.filter_append, List.map_append]
    have e1 : decide (((L[j] : Nat) : Int) = (k : Int)) = decide (L[j] = k) := decide_eq_decide.2 (by omega)
    have e2 : decide (((L[j] : Nat) : Int) < (U : Int)) = decide (L[j] < U) := decide_eq_decide.2 (by omega)
    rw [e1, e2]
    by_cases c : L[j] ≠ k ∧ L[j] < U
    · have c1 : ¬ L[j] = k := c.1
      rw [decide_eq_false c1, decide_eq_true c.2, Bool.not_false, Bool.and_self, cond_true, app_eq (by rw [List.length_append, List.length_map, List.length_singleton]; omega), Option.bind_some]
      simp [c.1, c.2]
    · have : ((!decide (L[j] = k)) && decide (L[j] < U)) = false := by
        by_cases c1 : L[j] = k
        · simp [c1]
        · have : ¬ L[j] < U := fun h => c ⟨c1, h⟩
          simp [this]
      rw [this, cond_false]
      have h2 : [L[j]].filter (fun w => decide (w ≠ k) && decide (w < U)) = [] := by
        rw [List.filter_eq_nil_iff]
        intro w hw hc
        simp at hw; subst hw
        simp at hc
        exact c hc
      rw [h2]; simp
  · rw [li_len, List.take_length]
    unfold fn_model_Outlives_l1
    simp [li_len]
theorem refl1 {U : Nat} {u : Int} {k : Nat} (hU : (if (N : Int) < u then (N : Int) else u) = (U : Int)) (hUN : U ≤ N) (hN : N ≤ 1000) (M : List Nat) (A : List (Int × Int)) (hA : A.length ≤ 1000000) (b : List (Int × Int) × List (List (Int × Bool)) × List (Int × Bool) × List (Int × List (Int × Int) × List (List (Int × Bool)) × List (Int × Bool)) × List (List (Int × Int × Int × Int × Bool) × Int × Int × Int × List Int × List Int × List Int)) :
    loop (fn_ref30_Outlives_l1 (u, (N : Int), b) (k : Int) (inL N M)) (A, 0) = some (A ++ ((List.range U).filter (fun w => decide (w ≠ k) && decide (w ∈ M))).map (fun w : Nat => ((k : Int), (w : Int)))) := by
  have hlt : ∀ j : Nat, (decide ((j : Int) < u) && decide ((j : Int) < (N : Int))) = decide (j < U) := by
    intro j
    rw [← Bool.decide_and]
    refine decide_eq_decide.2 ?_
    split at hU <;> omega
  have h := loop_nat (body := fn_ref30_Outlives_l1 (u, (N : Int), b) (k : Int) (inL N M)) (fun j : Nat => (A ++ ((List.range j).filter (fun w => decide (w ≠ k) && decide (w ∈ M))).map (fun w : Nat => ((k : Int), (w : Int))), (j : Int))) U (b := A ++ ((List.range U).filter (fun w => decide (w ≠ k) && decide (w ∈ M))).map (fun w : Nat => ((k : Int), (w : Int)))) ?_ ?_
  · simpa using h
  · intro j hj
    have hfl : ((List.range j).filter (fun w => decide (w ≠ k) && decide (w ∈ M))).length ≤ j := by
      have := List.length_filter_le (fun w => decide (w ≠ k) && decide (w ∈ M)) (List.range j)
      simpa using this
    have hg : getI (inL N M) (j : Int) = some (if j ∈ M then (1 : Int) else 0) := getI_map (by omega)
    unfold fn_ref30_Outlives_l1
    dsimp only
    rw [hlt, decide_eq_true hj, cond_true, hg]
    simp only [Option.bind_some]
    have e1 : decide ((j : Int) = (k : Int)) = decide (j = k) := decide_eq_decide.2 (by omega)
    rw [e1, List.range_succ, List.filter_append, List.map_append, w64s hj (by omega)]
    by_cases c1 : j = k
    · rw [decide_eq_true c1, Bool.not_true, cond_false, Option.bind_some, cond_false]
      simp [c1]
    · rw [decide_eq_false c1, Bool.not_false, cond_true, Option.bind_some]
      by_cases c2 : j ∈ M
      · rw [if_pos c2, decide_eq_true rfl, cond_true, app_eq (by rw [List.length_append, List.length_map, List.length_singleton]; omega), Option.bind_some]
        simp [c1, c2]
      · rw [if_neg c2, decide_eq_false (by decide), cond_false]
        simp [c1, c2]
  · unfold fn_ref30_Outlives_l1
    dsimp only
    rw [hlt, decide_eq_false (by omega), cond_false]
theorem rl_le (N : Nat) (E : ArG) (k : Nat) : (rl N E k).length ≤ N := by
  rw [← rl_filter N E k]
  have := List.length_filter_le (fun w => decide (w ∈ rl N E k)) (List.range N)
  simpa using this
theorem outlives_eq {U : Nat} {u : Int} {l : List Eg} (hl : l.length ≤ 100) (hN : N ≤ 100) (hu : u ≤ 100) (hE : arcsOf l = ai E) (hin : inN N E) (hnew : fn_graph_New (N : Int) (arcsOf l) = some (some (mkG N E), 0)) (hU : (if (N : Int) < u then (N : Int) else u) = (U : Int)) (hUN : U ≤ N) :
    fn_model_Outlives (u, (N : Int), [], [], [], [], []) l = some (acc U N E U) := by
  have he : E.length ≤ 100 := by have := congrArg List.length hE; rw [ai_len] at this; simp [arcsOf] at this; omega
  unfold fn_model_Outlives
  rw [consGraph_eq u (N : Int) l (by omega), hnew]
  simp only [Option.bind_some, Nodes_eq]
  have h := loop_nat (body := fn_model_Outlives_l2 (u, (N : Int), [], [], [], [], []) (some (mkG N E)) (N : Int)) (fun k : Nat => (acc U N E k, (k : Int))) U (b := acc U N E U) ?_ ?_
  · rw [show loop (fn_model_Outlives_l2 (u, (N : Int), [], [], [], [], []) (some (mkG N E)) (N : Int)) ([], 0) = _ from h]; rfl
  · intro k hk
    have hk2 : k < N := by omega
    have ha := acc_len (N := N) (E := E) U k
    have ha2 : k * U ≤ 100 * 100 := Nat.mul_le_mul (by omega) (by omega)
    have hrl := rl_le N E k
    unfold fn_model_Outlives_l2
    dsimp only
    rw [hU, decide_eq_true (by omega), cond_true, Out_of (by omega) (by omega) hk2]
    simp only [Option.bind_some]
    by_cases q : occ (E.map (·.1)) k = []
    · have : decide ((((((occ (E.map (·.1)) k).map (fun i : Nat => (i : Int))).length : Nat) : Int)) = 0) = true := by simp [q]
      rw [this, cond_true, w64s hk (by omega)]
      simp only [acc, seg_none hin hk2 q, List.append_nil]
    · have : decide ((((((occ (E.map (·.1)) k).map (fun i : Nat => (i : Int))).length : Nat) : Int)) = 0) = false := by
        rw [List.length_map]
        have := List.length_pos_iff.2 q
        exact decide_eq_false (by omega)
      rw [this, cond_false, Reach_of hin (by omega) (by omega) hk2, Option.bind_some, outl1 hU hUN _ (by omega) _ (by omega), Option.bind_some, w64s hk (by omega), seg_rl hUN]
      rfl
  · unfold fn_model_Outlives_l2
    dsimp only
    rw [hU, decide_eq_false (by omega), cond_false]
theorem refOutlives_eq {U : Nat} {u : Int} {l : List Eg} (hl : l.length ≤ 100) (hN : N ≤ 100) (hu : u ≤ 100) (hE : arcsOf l = ai E) (hin : inN N E) (hany : (arcsOf l).any (outA (N : Int)) = false) (hU : (if (N : Int) < u then (N : Int) else u) = (U : Int)) (hUN : U ≤ N) :
    fn_ref30_Outlives (u, (N : Int), [], [], [], [], []) l = some (acc U N E U) := by
  have he : E.length ≤ 100 := by have := congrArg List.length hE; rw [ai_len] at this; simp [arcsOf] at this; omega
  have hlt : ∀ j : Nat, (decide ((j : Int) < u) && decide ((j : Int) < (N : Int))) = decide (j < U) := by
    intro j
    rw [← Bool.decide_and]
    refine decide_eq_decide.2 ?_
    split at hU <;> omega
  unfold fn_ref30_Outlives
  rw [refArcs_eq l (by omega), Option.bind_some]
  dsimp only
  rw [Check_eq _ _ (by simp [arcsOf]; omega), if_neg (by omega), if_neg (by omega), hany]
  simp only [Option.bind_some, Bool.false_eq_true, if_false, decide_true, Bool.not_true, cond_false]
  have h := loop_nat (body := fn_ref30_Outlives_l2 (u, (N : Int), [], [], [], [], []) (arcsOf l)) (fun k : Nat => (acc U N E k, (k : Int))) U (b := acc U N E U) ?_ ?_
  · rw [show loop (fn_ref30_Outlives_l2 (u, (N : Int), [], [], [], [], []) (arcsOf l)) ([], 0) = _ from h]; rfl
  · intro k hk
    have hk2 : k < N := by omega
    have ha := acc_len (N := N) (E := E) U k
    have ha2 : k * U ≤ 100 * 100 := Nat.mul_le_mul (by omega) (by omega)
    unfold fn_ref30_Outlives_l2
    dsimp only
    rw [hlt, decide_eq_true hk, cond_true, hE, refReach_eq hin (by omega) (by omega) hk2, Option.bind_some, refl1 hU hUN (by omega) _ _ (by omega), Option.bind_some, w64s hk (by omega)]
    rfl
  · unfold fn_ref30_Outlives_l2
    dsimp only
    rw [hlt, decide_eq_false (by omega), cond_false]
/-- Named by no arc. -/
def free (E : ArG) (k : Nat) : Bool := E.all (fun e => decide (e.1 ≠ k) && decide (e.2 ≠ k))
theorem free_occ (E : ArG) (k : Nat) : ((occ (E.map (·.1)) k).length + (occ (E.map (·.2)) k).length = 0) ↔ free E k = true := by
  have key : ∀ (f : Nat × Nat → Nat), (occ (E.map f) k).length = 0 ↔ ∀ e ∈ E, f e ≠ k := by
    intro f
    rw [List.length_eq_zero_iff, List.eq_nil_iff_forall_not_mem]
    constructor
    · intro h e he hc
      obtain ⟨i, hi, e2⟩ := List.getElem_of_mem he
      exact h i (occ_mem.2 ⟨by simpa using hi, by simp [e2, hc]⟩)
    · intro h i hi
      obtain ⟨h1, h2⟩ := occ_mem.1 hi
      have h3 : i < E.length := by simpa using h1
      exact h E[i] (List.getElem_mem h3) (by simpa using h2)
  unfold free
  rw [List.all_eq_true, Nat.add_eq_zero_iff, key, key]
  constructor
  · rintro ⟨h1, h2⟩ e he; simp [h1 e he, h2 e he]
  · intro h
    refine ⟨fun e he => ?_, fun e he => ?_⟩
    · have := h e he; simp at this; exact this.1
    · have := h e he; simp at this; exact this.2
def lo30 (E : ArG) (n : Nat) : List Int := li ((List.range n).filter (free E))
theorem lo30_succ (E : ArG) (n : Nat) : lo30 E (n + 1) = lo30 E n ++ if free E n = true then [(n : Int)] else [] := by
  unfold lo30 li
  rw [List.range_succ, List.filter_append, List.map_append]
  congr 1
  by_cases c : free E n = true <;> simp [c]
theorem lo30_len (E : ArG) (n : Nat) : (lo30 E n).length ≤ n := by
  unfold lo30; rw [li_len]
  have := List.length_filter_le (free E) (List.range n)
  simpa using this
theorem loose_eq {u : Int} {l : List Eg} (hl : l.length ≤ 100) (hN : N ≤ 100) (hE : arcsOf l = ai E) (hin : inN N E) (hnew : fn_graph_New (N : Int) (arcsOf l) = some (some (mkG N E), 0)) :
    fn_model_Loose (u, (N : Int), [], [], [], [], []) l = some (lo30 E N) := by
  have he : E.length ≤ 100 := by have := congrArg List.length hE; rw [ai_len] at this; simp [arcsOf] at this; omega
  unfold fn_model_Loose
  rw [consGraph_eq u (N : Int) l (by omega), hnew]
  simp only [Option.bind_some, Nodes_eq]
  have h := loop_nat (body := fn_model_Loose_l1 (some (mkG N E)) (N : Int)) (fun k : Nat => (lo30 E k, (k : Int))) N (b := lo30 E N) ?_ ?_
  · rw [show loop (fn_model_Loose_l1 (some (mkG N E)) (N : Int)) ([], 0) = _ from h]; rfl
  · intro k hk
    have ha := lo30_len E k
    have o1 := occ_bound (E.map (·.1)) k
    have o2 := occ_bound (E.map (·.2)) k
    rw [List.length_map] at o1 o2
    unfold fn_model_Loose_l1
    dsimp only
    rw [dlt hk, cond_true, Out_of (by omega) (by omega) hk, In_of (by omega) (by omega) hk]
    simp only [Option.bind_some, List.length_map]
    rw [w64 (by omega) (by omega), w64s hk (by omega), lo30_succ]
    by_cases c : free E k = true
    · have c2 := (free_occ E k).2 c
      rw [decide_eq_true (by omega), cond_true, app_eq (by simp; omega), Option.bind_some, if_pos c]
    · have c2 : ¬ (occ (E.map (·.1)) k).length + (occ (E.map (·.2)) k).length = 0 := fun h => c ((free_occ E k).1 h)
      rw [decide_eq_false (by omega), cond_false, if_neg c, List.append_nil]
  · unfold fn_model_Loose_l1
    dsimp only
    rw [dge (by omega), cond_false]
theorem refLoose1 {l : List Eg} (hl : l.length ≤ 1000) (hE : arcsOf l = ai E) (k : Nat) : loop (fn_ref30_Loose_l1 l (k : Int)) (false, 0) = some (!free E k) := by
  have hlen : l.length = E.length := by have := congrArg List.length hE; rw [ai_len] at this; simp [arcsOf] at this; omega
  have h := loop_carry (body := fn_ref30_Loose_l1 l (k : Int)) l (fun j => !free (E.take j) k) (!free E k) ?_ ?_
  · simpa [free] using h
  · intro j hj
    have hj2 : j < E.length := by omega
    have hx : (l[j].1, l[j].2.1) = (((E[j].1 : Nat) : Int), ((E[j].2 : Nat) : Int)) := by
      have h1 : (arcsOf l)[j]? = (ai E)[j]? := by rw [hE]
      simpa [arcsOf, ai, hj, hj2] using h1
    have x1 := congrArg Prod.fst hx
    have x2 := congrArg Prod.snd hx
    dsimp only at x1 x2
    have hf : free (E.take (j + 1)) k = (free (E.take j) k && (decide (E[j].1 ≠ k) && decide (E[j].2 ≠ k))) := by
      unfold free; rw [take_snoc hj2, List.all_append]; simp
    unfold fn_ref30_Loose_l1
    simp only [dlt hj, cond_true, getN hj, Option.bind_some, w64s hj (by omega : l.length ≤ 9223372036854775807), x1, x2]
    have e1 : decide (((E[j].1 : Nat) : Int) = (k : Int)) = decide (E[j].1 = k) := decide_eq_decide.2 (by omega)
    have e2 : decide (((E[j].2 : Nat) : Int) = (k : Int)) = decide (E[j].2 = k) := decide_eq_decide.2 (by omega)
    rw [e1, e2, hf]
    cases free (E.take j) k <;> by_cases c1 : E[j].1 = k <;> by_cases c2 : E[j].2 = k <;> simp [c1, c2]
  · rw [hlen, List.take_length]
    unfold fn_ref30_Loose_l1
    simp [hlen]
theorem refLoose_eq {u : Int} {l : List Eg} (hl : l.length ≤ 100) (hN : N ≤ 100) (hE : arcsOf l = ai E) (hin : inN N E) (hany : (arcsOf l).any (outA (N : Int)) = false) :
    fn_ref30_Loose (u, (N : Int), [], [], [], [], []) l = some (lo30 E N) := by
  unfold fn_ref30_Loose
  rw [refArcs_eq l (by omega), Option.bind_some]
  dsimp only
  rw [Check_eq _ _ (by simp [arcsOf]; omega), if_neg (by omega), if_neg (by omega), hany]
  simp only [Option.bind_some, Bool.false_eq_true, if_false, decide_true, Bool.not_true, cond_false]
  have h := loop_nat (body := fn_ref30_Loose_l2 (u, (N : Int), [], [], [], [], []) l) (fun k : Nat => (lo30 E k, (k : Int))) N (b := lo30 E N) ?_ ?_
  · rw [show loop (fn_ref30_Loose_l2 (u, (N : Int), [], [], [], [], []) l) ([], 0) = _ from h]; rfl
  · intro k hk
    have ha := lo30_len E k
    unfold fn_ref30_Loose_l2
    dsimp only
    rw [dlt hk, cond_true, refLoose1 (by omega) hE, Option.bind_some, Bool.not_not, w64s hk (by omega), lo30_succ]
    by_cases c : free E k = true
    · rw [c, cond_true, app_eq (by simp; omega), Option.bind_some, if_pos rfl]
    · rw [Bool.not_eq_true] at c
      rw [c, cond_false, if_neg (by simp), List.append_nil]
  · unfold fn_ref30_Loose_l2
    dsimp only
    rw [dge (by omega), cond_false]
end
theorem awake30 : fn_law30_awake = some true := by
  unfold fn_law30_awake
  have hE1 : inN 3 [(0, 2), (2, 1)] := by intro e he; simp at he; rcases he with rfl | rfl <;> decide
  have hE2 : inN 2 [(1, 1)] := by intro e he; simp at he; subst he; decide
  have n1 : fn_graph_New (3 : Int) [(0, 2), (2, 1)] = some (some (mkG 3 [(0, 2), (2, 1)]), 0) := New_ok hE1 (by decide) (by decide)
  have n2 : fn_graph_New (2 : Int) [(1, 1)] = some (some (mkG 2 [(1, 1)]), 0) := New_ok hE2 (by decide) (by decide)
  have h1 := outlives_eq (N := 3) (E := [(0, 2), (2, 1)]) (U := 2) (u := 2) (l := [(0, 2, (0, 0, 0, 0, false)), (2, 1, (0, 0, 0, 0, false))]) (by decide) (by decide) (by decide) rfl hE1 n1 (by decide) (by decide)
  have h2 := loose_eq (N := 2) (E := [(1, 1)]) (u := 0) (l := [(1, 1, (0, 0, 0, 0, false))]) (by decide) (by decide) rfl hE2 n2
  have s1 : Rch [(0, 2), (2, 1)] 0 2 := (Rch.refl 0).step (by simp)
  have s2 : Rch [(0, 2), (2, 1)] 0 1 := s1.step (by simp)
  have a01 : 1 ∈ rl 3 [(0, 2), (2, 1)] 0 := (rl_mem hE1 (by decide)).2 s2
  have a10 : ¬ 0 ∈ rl 3 [(0, 2), (2, 1)] 1 := fun h => by
    have := Rch.closed (p := fun w => w = 1) rfl (fun a b e ha => by subst ha; simp at e) ((rl_mem hE1 (by decide)).1 h)
    omega
  have hacc : acc 2 3 [(0, 2), (2, 1)] 2 = [(0, 1)] := by
    show ([] ++ seg 2 3 _ 0) ++ seg 2 3 _ 1 = _
    unfold seg
    simp only [show List.range 2 = [0, 1] from rfl, List.filter_cons, List.filter_nil]
    simp [a01, a10]
  rw [show fn_model_Outlives (2, 3, [], [], [], [], []) _ = _ from h1, hacc, Option.bind_some, refBounds_eq _ _ (by decide), Option.bind_some,
    show fn_model_Loose (0, 2, [], [], [], [], []) _ = _ from h2]
  rw [decide_eq_true rfl, cond_true, Option.bind_some, same01_eq _ _ (by decide)]
  rfl
theorem ModelOutlives_true (xa : Int) (xb : Int) (xc : List Eg) (k0 : Tp.Ok (.int .i64) xa) (k1 : Tp.Ok (.int .i64) xb) (k2 : Tp.Ok (.sl (.cons (.int .i64) (.cons (.int .i64) (.one (.cons (.int .i64) (.cons (.int .i64) (.cons (.int .i64) (.cons (.int .i64) (.one .bool))))))))) xc) : fn_law30_ModelOutlives xa xb xc = some true := by
  unfold fn_law30_ModelOutlives
  by_cases hb : ((decide (20 < xa) || decide (20 < xb)) || decide (80 < ((xc.length : Nat) : Int))) = true
  · rw [hb, cond_true, awake30]; rfl
  · have hb' := Bool.eq_false_iff.2 hb
    rw [hb', cond_false]
    have hl : xc.length ≤ 80 := by simp at hb; omega
    have hx : xa ≤ 20 := by simp at hb; omega
    have hx2 : xb ≤ 20 := by simp at hb; omega
    have hal : (arcsOf xc).length = xc.length := by simp [arcsOf]
    have none : fn_graph_New xb (arcsOf xc) = some (none, (if xb < 0 then 2 else if 1048576 < xb then 5 else if (arcsOf xc).any (outA xb) then 7 else 0)) → (if xb < 0 then (2 : Int) else if 1048576 < xb then 5 else if (arcsOf xc).any (outA xb) then 7 else 0) ≠ 0 →
        fn_model_Outlives (xa, xb, [], [], [], [], []) xc = some [] ∧ fn_ref30_Outlives (xa, xb, [], [], [], [], []) xc = some [] ∧ fn_model_Loose (xa, xb, [], [], [], [], []) xc = some [] ∧ fn_ref30_Loose (xa, xb, [], [], [], [], []) xc = some [] := by
      intro hN hc
      refine ⟨?_, ?_, ?_, ?_⟩
      · unfold fn_model_Outlives
        rw [consGraph_eq xa xb xc (by omega), hN]
        simp only [Option.bind_some, Nodes_none]
        have h := loop_nat (body := fn_model_Outlives_l2 (xa, xb, [], [], [], [], []) none 0) (fun k : Nat => ([], (k : Int))) 0 (b := []) (fun k hk => by omega) (by
          unfold fn_model_Outlives_l2
          dsimp only
          rw [decide_eq_false (by split <;> omega), cond_false])
        rw [show loop (fn_model_Outlives_l2 (xa, xb, [], [], [], [], []) Option.none 0) ([], 0) = _ from h]; rfl
      · unfold fn_ref30_Outlives
        rw [refArcs_eq xc (by omega), Option.bind_some]
        dsimp only
        rw [Check_eq _ _ (by omega), Option.bind_some, decide_eq_false hc]; rfl
      · unfold fn_model_Loose
        rw [consGraph_eq xa xb xc (by omega), hN]
        simp only [Option.bind_some, Nodes_none]
        have h := loop_nat (body := fn_model_Loose_l1 none 0) (fun k : Nat => ([], (k : Int))) 0 (b := []) (fun k hk => by omega) (by
          unfold fn_model_Loose_l1
          dsimp only
          rw [decide_eq_false (by omega), cond_false])
        rw [show loop (fn_model_Loose_l1 Option.none 0) ([], 0) = _ from h]; rfl
      · unfold fn_ref30_Loose
        rw [refArcs_eq xc (by omega), Option.bind_some]
        dsimp only
        rw [Check_eq _ _ (by omega), Option.bind_some, decide_eq_false hc]; rfl
    rcases New_eq xb (arcsOf xc) (by omega) with ⟨h0, hN⟩ | ⟨h0, hN⟩ | ⟨h0, h1, h2, hN⟩ | ⟨N, E, hn, h1, hE, hin, h2, hN⟩
    · obtain ⟨e1, e2, e3, e4⟩ := none (by rw [hN, if_pos h0]) (by rw [if_pos h0]; decide)
      rw [e1, e2, e3, e4]
      simp only [Option.bind_some, refBounds_eq [] [] (by simp), same01_eq [] [] (by simp), awake30]
      rfl
    · omega
    · obtain ⟨e1, e2, e3, e4⟩ := none (by rw [hN, if_neg (by omega), if_neg (by omega), if_pos h2]) (by rw [if_neg (by omega), if_neg (by omega), if_pos h2]; decide)
      rw [e1, e2, e3, e4]
      simp only [Option.bind_some, refBounds_eq [] [] (by simp), same01_eq [] [] (by simp), awake30]
      rfl
    · subst hn
      have e3 := loose_eq (u := xa) (by omega) (by omega) hE hin hN
      have e4 := refLoose_eq (u := xa) (by omega) (by omega) hE hin h2
      have key : ∃ o : List (Int × Int), o.length ≤ 1000000 ∧ fn_model_Outlives (xa, (N : Int), [], [], [], [], []) xc = some o ∧ fn_ref30_Outlives (xa, (N : Int), [], [], [], [], []) xc = some o := by
        by_cases hneg : xa < 0
        · refine ⟨[], by simp, ?_, ?_⟩
          · unfold fn_model_Outlives
            rw [consGraph_eq xa (N : Int) xc (by omega), hN]
            simp only [Option.bind_some, Nodes_eq]
            have h := loop_nat (body := fn_model_Outlives_l2 (xa, (N : Int), [], [], [], [], []) (some (mkG N E)) (N : Int)) (fun k : Nat => ([], (k : Int))) 0 (b := []) (fun k hk => by omega) (by
              unfold fn_model_Outlives_l2
              dsimp only
              rw [decide_eq_false (by split <;> omega), cond_false])
            rw [show loop (fn_model_Outlives_l2 (xa, (N : Int), [], [], [], [], []) (some (mkG N E)) (N : Int)) ([], 0) = _ from h]; rfl
          · unfold fn_ref30_Outlives
            rw [refArcs_eq xc (by omega), Option.bind_some]
            dsimp only
            rw [Check_eq _ _ (by omega), if_neg (by omega), if_neg (by omega), h2]
            simp only [Option.bind_some, Bool.false_eq_true, if_false, decide_true, Bool.not_true, cond_false]
            have h := loop_nat (body := fn_ref30_Outlives_l2 (xa, (N : Int), [], [], [], [], []) (arcsOf xc)) (fun k : Nat => ([], (k : Int))) 0 (b := []) (fun k hk => by omega) (by
              unfold fn_ref30_Outlives_l2
              dsimp only
              rw [decide_eq_false (show ¬ ((0 : Nat) : Int) < xa by omega), Bool.false_and, cond_false])
            rw [show loop (fn_ref30_Outlives_l2 (xa, (N : Int), [], [], [], [], []) (arcsOf xc)) ([], 0) = _ from h]; rfl
        · have hU : (if (N : Int) < xa then (N : Int) else xa) = ((min N xa.toNat : Nat) : Int) := by split <;> omega
          have hUN : min N xa.toNat ≤ N := by omega
          have ha := acc_len (N := N) (E := E) (min N xa.toNat) (min N xa.toNat)
          have ha2 : min N xa.toNat * min N xa.toNat ≤ 20 * 20 := Nat.mul_le_mul (by omega) (by omega)
          exact ⟨_, by omega, outlives_eq (by omega) (by omega) (by omega) hE hin hN hU hUN, refOutlives_eq (by omega) (by omega) (by omega) hE hin h2 hU hUN⟩
      obtain ⟨o, ho, e1, e2⟩ := key
      have hlo := lo30_len E N
      rw [e1, e2, e3, e4]
      simp only [Option.bind_some, refBounds_eq o o (by omega), same01_eq _ _ (show (lo30 E N).length ≤ 1073741824 by omega), awake30, decide_true, cond_true]
end Go.Proofs.Ytmbdoknljjoejaa
namespace Go.Proofs.Ytmbdoknljjoejaa
open Go.RowKit
set_option linter.unusedVariables false
set_option linter.unnecessarySimpa false
set_option linter.unusedSimpArgs false
set_option maxRecDepth 20000
theorem ModelOutlives_walk {H : Type} (enc : TypeId × Value → H) (W : World) (base : Nat) {v0 v1 v2 : Value} {d0 d1 d2 : DataW H} {p0 p1 p2 : List MemPlace}
    (h0 : DataW.Trod enc Try.prog W 0 (fun _ => true) true 3 v0 d0 p0) (h1 : DataW.Trod enc Try.prog W 0 (fun _ => true) true 3 v1 d1 p1) (h2 : DataW.Trod enc Try.prog W 0 (fun _ => true) true 22 v2 d2 p2)
    (o0 : Value.okWide Try.prog W .any base 3 v0) (o1 : Value.okWide Try.prog W .any base 3 v1) (o2 : Value.okWide Try.prog W .any base 22 v2) :
    Calls Try.prog 3 #[v0, v1, v2] W fun e W' => e = .returned (.bool true) ∧ Below W.heap.size W W' := by
  obtain ⟨xa, i0, k0⟩ := Tp.arg (.int .i64) (by kernel_rfl) o0 h0
  obtain ⟨xb, i1, k1⟩ := Tp.arg (.int .i64) (by kernel_rfl) o1 h1
  obtain ⟨xc, i2, k2⟩ := Tp.arg (.sl (.cons (.int .i64) (.cons (.int .i64) (.one (.cons (.int .i64) (.cons (.int .i64) (.cons (.int .i64) (.cons (.int .i64) (.one .bool))))))))) (by kernel_rfl) o2 h2
  exact walkX (s := sp_law30_ModelOutlives) (x := (xa, xb, xc)) (args := [v0, v1, v2]) law30_ModelOutlives_is (ModelOutlives_true xa xb xc k0 k1 k2) rfl rfl ⟨_, _, rfl, of_rel _ i0, _, _, rfl, of_rel _ i1, _, _, rfl, of_rel _ i2, rfl⟩
end Go.Proofs.Ytmbdoknljjoejaa
namespace Go.Proofs.Ytmbdoknljjoejaa.modelOutlivesFrame
set_option maxRecDepth 40000
open Go.ChangeShapes Go.WideShapes Go.ChangeAt Go.RowKit
theorem own : ownKnob Try.prog.godebug = none := by kernel_rfl
theorem contract (H : Type) (enc : TypeId × Value → H) (W : World) (base : Nat) (args : Array Value) (ds gs : List (DataW H)) (before : List MemPlace)
    (hval : ∀ (j : Nat) t v, Try.f3.params[j]? = some t → args[j]? = some v → Value.okWide Try.prog W .any base t v)
    (hW : DataW.Whole enc Try.prog Try.f3.params.toList Rows.modelOutlivesSpec.vars false W args.toList ds gs before) :
    Calls Try.prog 3 args W fun e W' => ∃ v, e = .returned v ∧ Rows.modelOutlivesSpec.post enc Try.prog Try.f3 false true false false W args v W' := by
  have hW' := hW
  obtain ⟨p, q, hA0, hV, rfl, hfz, hnd⟩ := hW
  have hA : DataW.TrodAll enc Try.prog W 0 (fun _ => true) true Try.f3.params.toList args.toList ds p := hA0
  rw [Try.params3] at hA hval
  obtain ⟨v0, vs0, d0, ds0, p0, q0, hargs, rfl, rfl, h0, r0⟩ := trodAll_cons hA
  obtain ⟨v1, vs1, d1, ds1, p1, q1, rfl, rfl, rfl, h1, r1⟩ := trodAll_cons r0
  obtain ⟨v2, vs2, d2, ds2, p2, q2, rfl, rfl, rfl, h2, r2⟩ := trodAll_cons r1
  obtain ⟨rfl, rfl, rfl⟩ := trodAll_nil r2
  obtain rfl : args = #[v0, v1, v2] := by cases args; simp_all
  refine (ModelOutlives_walk enc W base h0 h1 h2 (hval 0 _ v0 rfl rfl) (hval 1 _ v1 rfl rfl) (hval 2 _ v2 rfl rfl)).mono fun e W' ⟨he, hb⟩ => ?_
  subst he
  exact ⟨_, rfl, law_post (tb := _) rfl hW' rfl rfl (by kernel_rfl) (by kernel_rfl) (of_decide_eq_true (by kernel_rfl)) hb⟩
noncomputable def world (os : Os) : World := World.holding Try.prog os ⟨#[], #[], []⟩
theorem reads (os : Os) {H : Type} (enc : TypeId × Value → H) : ∃ x, DataW.whole enc Try.prog ((world os).forCall (fun _ _ => 0) ⟨#[], #[.int .i64 0, .int .i64 0, .slice none 0 0], []⟩).memory Try.f3.params.toList Rows.modelOutlivesSpec.vars false (#[.int .i64 0, .int .i64 0, .slice none 0 0] : Array Value).toList 8 = some x :=
  Option.isSome_iff_exists.1 (by kernel_rfl)
set_option maxRecDepth 100000 in
theorem lifted (os : Os) (started : os.Started) (H : Type) (enc : TypeId × Value → H) (F : Stop.Interp) :
    ReturnsInHanded {} Try.checked os 3 .any ((OpenSpec.ofChange Rows.modelOutlivesSpec).preRow enc Try.prog Try.f3 Rows.modelOutlivesRow.domain false Rows.modelOutlivesRow.laid) (((OpenSpec.ofChange Rows.modelOutlivesSpec).at F).post enc Try.prog Try.f3 false true false false) := by
  obtain ⟨x, hx⟩ := reads os enc
  refine returnsInHanded_of_row (C := Try.checked) (s := OpenSpec.ofChange Rows.modelOutlivesSpec) own started (by kernel_rfl) Try.func3
    (witness_row_at (enc := enc) (C := Try.checked) false (world os) #[.int .i64 0, .int .i64 0, .slice none 0 0] rfl (by kernel_rfl) (by kernel_rfl) (by kernel_rfl)
      (OpenSpec.preRow_of_cond 8 hx (by kernel_rfl) (fun k hk => by cases hk) (by kernel_rfl) (laidMet_of_run' 8 (by kernel_rfl) (by kernel_rfl)))) ?_
  intro W base args ds gs before hval hW _ _ _ hL _ _
  exact contract H enc W base args ds gs before hval hW
theorem proved : Rows.ModelOutlivesSaid :=
  OpenClaim.holds_of_cond 3 Try.f3 rfl rfl rfl rfl rfl rfl rfl ⟨rfl, rfl, rfl, rfl, rfl⟩ rfl rfl rfl rfl rfl (by kernel_rfl) Try.func3 (by kernel_rfl)
    (of_decide_eq_true (by kernel_rfl)) (by unfold Func.isWrapper; first | (rw [if_pos (by decide +kernel)]; kernel_rfl) | (rw [if_neg (by decide +kernel)]; exact ⟨rfl, rfl⟩))
    (fun os started H enc _ F => by rw [OpenClaim.pre_eq_preRow]; exact lifted os started H enc F)
end Go.Proofs.Ytmbdoknljjoejaa.modelOutlivesFrame
