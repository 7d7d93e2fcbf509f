/- A part of the proof: what lies ahead of the law. Nothing is claimed here. -/
import Derived.Test.YtpbbaghblhmilaaZ4
import Derived.Test.YtpbbaghblhmilaaRows
import Derived.Lib.RowBridge
namespace Go.Proofs.Ytpbbaghblhmilaa
set_option linter.unusedVariables false
set_option maxRecDepth 100000
set_option maxHeartbeats 4000000
open Go.RowKit
section
instance nob : BldA := ⟨1000000000, fun b _ => Cl b 1000000000 [.pointer none, .slice none 0 0], fun h => h, fun _ => True, fun _ _ => trivial⟩

noncomputable def fn_slices_Clone_graph_Arc_graph_Arc (xa : (List (Int × Int))) : Option ((List (Int × Int))) :=
 nilb xa (some ([])) ((app (([] : List (Int × Int))) xa).bind fun z21 => some (z21))
noncomputable def h_slices_Clone_graph_Arc_graph_Arc : Hn Try.prog := .two 4 (.nil) (.nil)
noncomputable def sp_slices_Clone_graph_Arc_graph_Arc : Spec := ⟨38, ⟨[(0, .dat (.sl (.cons (.int .i64) (.one (.int .i64)))))], []⟩, [⟨[(0, .own 61 (.cons (.int .i64) (.one (.int .i64))))], []⟩], fun x => fn_slices_Clone_graph_Arc_graph_Arc x⟩
theorem slices_Clone_graph_Arc_graph_Arc_is : SpecOk Try.prog sp_slices_Clone_graph_Arc_graph_Arc := fn_is Try.func38 h_slices_Clone_graph_Arc_graph_Arc (by kernel_rfl) (by kernel_rfl)
noncomputable def ok_slices_Clone_graph_Arc_graph_Arc : OkSpec Try.prog := ⟨sp_slices_Clone_graph_Arc_graph_Arc, slices_Clone_graph_Arc_graph_Arc_is, Try.call38⟩

noncomputable def fn_graph_New_1 (xa : (Int × Int)) : Option Int :=
 some (xa.1)
noncomputable def h_graph_New_1 : Hn Try.prog := .nil
noncomputable def sp_graph_New_1 : Spec := ⟨40, ⟨[(0, .dat (.cons (.int .i64) (.one (.int .i64))))], []⟩, [⟨[(0, .dat (.int .i64))], []⟩], fun x => fn_graph_New_1 x⟩
theorem graph_New_1_is : SpecOk Try.prog sp_graph_New_1 := fn_is Try.func40 h_graph_New_1 (by kernel_rfl) (by kernel_rfl)
noncomputable def ok_graph_New_1 : OkSpec Try.prog := ⟨sp_graph_New_1, graph_New_1_is, Try.call40⟩

noncomputable def fn_slices_Clone_int_int (xa : (List Int)) : Option (List Int) :=
 nilb xa (some ([])) ((app ([] : List Int) xa).bind fun z21 => some (z21))
noncomputable def h_slices_Clone_int_int : Hn Try.prog := .two 4 (.nil) (.nil)
noncomputable def sp_slices_Clone_int_int : Spec := ⟨27, ⟨[(0, .dat (.sl (.int .i64)))], []⟩, [⟨[(0, .own 3 (.int .i64))], []⟩], fun x => fn_slices_Clone_int_int x⟩
theorem slices_Clone_int_int_is : SpecOk Try.prog sp_slices_Clone_int_int := fn_is Try.func27 h_slices_Clone_int_int (by kernel_rfl) (by kernel_rfl)
noncomputable def ok_slices_Clone_int_int : OkSpec Try.prog := ⟨sp_slices_Clone_int_int, slices_Clone_int_int_is, Try.call27⟩
noncomputable def fn_graph_indexed_ik_graph_New_1_l1 (xb : (List (Int × Int))) : (Int × (List Int)) → Option ((Int × (List Int)) ⊕ (List Int)) := fun ((i3260, l3261) : (Int × (List Int))) => cond (decide (i3260 < (((xb.length : Nat) : Int)))) ((getI xb i3260).bind fun x3370 => (fn_graph_New_1 (x3370.1, x3370.2)).bind fun i3442 => (getI l3261 (IntKind.wrap .i64 (i3442 + 1))).bind fun x3446 => (getI l3261 (IntKind.wrap .i64 (i3442 + 1))).bind fun x3453 => (some (l3261.set (IntKind.wrap .i64 (i3442 + 1)).toNat (IntKind.wrap .i64 (x3446 + 1)))).bind fun z3460 => some (.inl ((IntKind.wrap .i64 (i3260 + 1), z3460)))) (some (.inr (l3261)))
noncomputable def fn_graph_indexed_ik_graph_New_1_l2 (xa : Int) : (Int × (List Int)) → Option ((Int × (List Int)) ⊕ (List Int)) := fun ((i3855, l3856) : (Int × (List Int))) => cond (decide (i3855 < xa)) ((getI l3856 (IntKind.wrap .i64 (i3855 + 1))).bind fun x4022 => (getI l3856 i3855).bind fun x4029 => (getI l3856 (IntKind.wrap .i64 (i3855 + 1))).bind fun x4036 => (some (l3856.set (IntKind.wrap .i64 (i3855 + 1)).toNat (IntKind.wrap .i64 (x4022 + x4029)))).bind fun z4043 => some (.inl ((IntKind.wrap .i64 (i3855 + 1), z4043)))) (some (.inr (l3856)))
noncomputable def fn_graph_indexed_ik_graph_New_1_l3 (xb : (List (Int × Int))) : ((List Int) × Int × (List Int)) → Option (((List Int) × Int × (List Int)) ⊕ (List Int)) := fun ((l4499, i4504, l4505) : ((List Int) × Int × (List Int))) => cond (decide (i4504 < (((xb.length : Nat) : Int)))) ((getI xb i4504).bind fun x4620 => (fn_graph_New_1 (x4620.1, x4620.2)).bind fun i4632 => (getI l4499 i4632).bind fun x4678 => (getI l4505 x4678).bind fun x4685 => (some (l4505.set x4678.toNat i4504)).bind fun z4692 => (getI l4499 i4632).bind fun x4697 => (getI l4499 i4632).bind fun x4704 => (some (l4499.set i4632.toNat (IntKind.wrap .i64 (x4697 + 1)))).bind fun z4711 => some (.inl ((z4711, IntKind.wrap .i64 (i4504 + 1), z4692)))) (some (.inr (l4505)))
noncomputable def fn_graph_indexed_ik_graph_New_1 (xa : Int) (xb : (List (Int × Int))) : Option (((List Int) × (List Int))) :=
 (((mk (IntKind.wrap .i64 (xa + 1)) (IntKind.wrap .i64 (xa + 1)) 0 : Option (List Int)).bind fun z2781 => ((mk (((xb.length : Nat) : Int)) (((xb.length : Nat) : Int)) 0 : Option (List Int)).bind fun z2786 => some ((z2781, z2786))).bind fun x2798 => ((mk (((xb.length : Nat) : Int)) (((xb.length : Nat) : Int)) 0 : Option (List Int)).bind fun z2793 => some ((z2781, z2793))).bind fun y2799 => agr x2798 y2799 (some x2798)).bind fun x2844 => (((mk (((xb.length : Nat) : Int)) (((xb.length : Nat) : Int)) 0 : Option (List Int)).bind fun z2800 => ((mk (IntKind.wrap .i64 (xa + 1)) (IntKind.wrap .i64 (xa + 1)) 0 : Option (List Int)).bind fun z2805 => some ((z2805, z2800))).bind fun x2817 => ((mk (IntKind.wrap .i64 (xa + 1)) (IntKind.wrap .i64 (xa + 1)) 0 : Option (List Int)).bind fun z2812 => some ((z2812, z2800))).bind fun y2818 => agr x2817 y2818 (some x2817)).bind fun x2842 => (((mk (IntKind.wrap .i64 (xa + 1)) (IntKind.wrap .i64 (xa + 1)) 0 : Option (List Int)).bind fun z2820 => (mk (((xb.length : Nat) : Int)) (((xb.length : Nat) : Int)) 0 : Option (List Int)).bind fun z2825 => some ((z2820, z2825))).bind fun x2840 => ((mk (((xb.length : Nat) : Int)) (((xb.length : Nat) : Int)) 0 : Option (List Int)).bind fun z2830 => (mk (IntKind.wrap .i64 (xa + 1)) (IntKind.wrap .i64 (xa + 1)) 0 : Option (List Int)).bind fun z2835 => some ((z2835, z2830))).bind fun y2841 => agr x2840 y2841 (some x2840)).bind fun y2843 => agr x2842 y2843 (some x2842)).bind fun y2845 => agr x2844 y2845 (some x2844) : Option (((List Int) × (List Int)))).bind fun (l2706, l2711) => (loop (fn_graph_indexed_ik_graph_New_1_l1 xb) (0, l2706) : Option (List Int)).bind fun l3153 => (loop (fn_graph_indexed_ik_graph_New_1_l2 xa) (0, l3153) : Option (List Int)).bind fun l3754 => (fn_slices_Clone_int_int l3754).bind fun l4053 => (loop (fn_graph_indexed_ik_graph_New_1_l3 xb) (l4053, 0, l2711) : Option (List Int)).bind fun l4386 => some ((l3754, l4386))
noncomputable def h_graph_indexed_ik_graph_New_1 : Hn Try.prog := .tr (.still [0, 1, 3, 4] (.alt 2 (.alt 5 (.still [6] (.alt 7 (.alt 8 (.leaf []) .done) .done)) (.alt 7 (.alt 5 (.still [6] (.alt 8 (.leaf []) .done)) .done) .done)) (.alt 5 (.alt 2 (.still [6] (.alt 7 (.alt 8 (.leaf []) .done) .done)) (.alt 7 (.alt 2 (.still [6] (.alt 8 (.leaf []) .done)) .done) .done)) (.alt 7 (.alt 2 (.alt 5 (.still [6] (.alt 8 (.leaf []) .done)) .done) (.alt 5 (.alt 2 (.still [6] (.alt 8 (.leaf []) .done)) .done) .done)) .done)))) ⟨[(7, .ptr 0 0)], [⟨none, 80, [.own 3 (.int .i64), .own 3 (.int .i64)], false, false, none, false⟩]⟩ [] (.two 0 (.two 0 (.nil) (.nil)) (.two 0 (.two 0 (.nil) (.nil)) (.two 0 (.nil) (.nil)))) (.jn [(2, 1)] ⟨[], [⟨(some 2), 80, [.own 3 (.int .i64), .is 1 (.any)], false, false, none, false⟩, ⟨(some 8), 0, [], false, true, none, false⟩]⟩ [2, 3] (.lp ⟨[(24, .dat (.int .i64))], [⟨(some 2), 80, [.own 3 (.int .i64), .is 1 (.any)], false, false, none, false⟩, ⟨(some 8), 0, [], false, true, none, false⟩]⟩ (.tw 25 (.mix [([0, 1, 2, 3], 4)] [5, 6, 7, 8, 9] [10] [] (.cl ok_graph_New_1 [] (.nil))) (.nil))) (.jn [] ⟨[], [⟨(some 2), 80, [.own 3 (.int .i64), .is 1 (.any)], false, false, none, false⟩, ⟨(some 8), 0, [], false, true, none, false⟩]⟩ [2, 9] (.lp ⟨[(40, .dat (.int .i64))], [⟨(some 2), 80, [.own 3 (.int .i64), .is 1 (.any)], false, false, none, false⟩, ⟨(some 8), 0, [], false, true, none, false⟩]⟩ (.tw 41 (.mix [] [0, 1, 2, 3, 4, 5, 6, 7, 8, 9, 10, 11, 12] [13] [] (.nil)) (.nil))) (.per 12 13 (.cl ok_slices_Clone_int_int [] (.jn [(2, 0)] ⟨[(59, .any), (11, .any)], [⟨(some 2), 80, [.is 1 (.any), .own 3 (.int .i64)], false, false, none, false⟩, ⟨(some 17), 0, [], false, true, none, false⟩]⟩ [15, 2, 5] (.lp ⟨[(11, .own 3 (.int .i64)), (62, .dat (.int .i64))], [⟨(some 2), 80, [.is 1 (.any), .own 3 (.int .i64)], false, false, none, false⟩, ⟨(some 17), 0, [], false, true, none, false⟩]⟩ (.tw 63 (.cl ok_graph_New_1 [] (.mix [] [0, 1, 2, 3, 4, 5, 6, 7] [8] [] (.nil))) (.nil))) (.nil))))))
noncomputable def sp_graph_indexed_ik_graph_New_1 : Spec := ⟨39, ⟨[(0, .dat (.int .i64)), (1, .dat (.sl (.cons (.int .i64) (.one (.int .i64))))), (2, .fn 40 [])], []⟩, [⟨[(0, .agg [.dat (.sl (.int .i64)), .own 3 (.int .i64)])], []⟩], fun x => fn_graph_indexed_ik_graph_New_1 x.1 x.2⟩
theorem graph_indexed_ik_graph_New_1_is : SpecOk Try.prog sp_graph_indexed_ik_graph_New_1 := fn_is Try.func39 h_graph_indexed_ik_graph_New_1 (by kernel_rfl) (by kernel_rfl)
noncomputable def ok_graph_indexed_ik_graph_New_1 : OkSpec Try.prog := ⟨sp_graph_indexed_ik_graph_New_1, graph_indexed_ik_graph_New_1_is, Try.call39⟩

noncomputable def fn_graph_New_2 (xa : (Int × Int)) : Option Int :=
 some (xa.2)
noncomputable def h_graph_New_2 : Hn Try.prog := .nil
noncomputable def sp_graph_New_2 : Spec := ⟨41, ⟨[(0, .dat (.cons (.int .i64) (.one (.int .i64))))], []⟩, [⟨[(0, .dat (.int .i64))], []⟩], fun x => fn_graph_New_2 x⟩
theorem graph_New_2_is : SpecOk Try.prog sp_graph_New_2 := fn_is Try.func41 h_graph_New_2 (by kernel_rfl) (by kernel_rfl)
noncomputable def ok_graph_New_2 : OkSpec Try.prog := ⟨sp_graph_New_2, graph_New_2_is, Try.call41⟩
noncomputable def fn_graph_indexed_ik_graph_New_2_l1 (xb : (List (Int × Int))) : (Int × (List Int)) → Option ((Int × (List Int)) ⊕ (List Int)) := fun ((i3260, l3261) : (Int × (List Int))) => cond (decide (i3260 < (((xb.length : Nat) : Int)))) ((getI xb i3260).bind fun x3370 => (fn_graph_New_2 (x3370.1, x3370.2)).bind fun i3442 => (getI l3261 (IntKind.wrap .i64 (i3442 + 1))).bind fun x3446 => (getI l3261 (IntKind.wrap .i64 (i3442 + 1))).bind fun x3453 => (some (l3261.set (IntKind.wrap .i64 (i3442 + 1)).toNat (IntKind.wrap .i64 (x3446 + 1)))).bind fun z3460 => some (.inl ((IntKind.wrap .i64 (i3260 + 1), z3460)))) (some (.inr (l3261)))
noncomputable def fn_graph_indexed_ik_graph_New_2_l2 (xa : Int) : (Int × (List Int)) → Option ((Int × (List Int)) ⊕ (List Int)) := fun ((i3855, l3856) : (Int × (List Int))) => cond (decide (i3855 < xa)) ((getI l3856 (IntKind.wrap .i64 (i3855 + 1))).bind fun x4022 => (getI l3856 i3855).bind fun x4029 => (getI l3856 (IntKind.wrap .i64 (i3855 + 1))).bind fun x4036 => (some (l3856.set (IntKind.wrap .i64 (i3855 + 1)).toNat (IntKind.wrap .i64 (x4022 + x4029)))).bind fun z4043 => some (.inl ((IntKind.wrap .i64 (i3855 + 1), z4043)))) (some (.inr (l3856)))
noncomputable def fn_graph_indexed_ik_graph_New_2_l3 (xb : (List (Int × Int))) : ((List Int) × Int × (List Int)) → Option (((List Int) × Int × (List Int)) ⊕ (List Int)) := fun ((l4499, i4504, l4505) : ((List Int) × Int × (List Int))) => cond (decide (i4504 < (((xb.length : Nat) : Int)))) ((getI xb i4504).bind fun x4620 => (fn_graph_New_2 (x4620.1, x4620.2)).bind fun i4632 => (getI l4499 i4632).bind fun x4678 => (getI l4505 x4678).bind fun x4685 => (some (l4505.set x4678.toNat i4504)).bind fun z4692 => (getI l4499 i4632).bind fun x4697 => (getI l4499 i4632).bind fun x4704 => (some (l4499.set i4632.toNat (IntKind.wrap .i64 (x4697 + 1)))).bind fun z4711 => some (.inl ((z4711, IntKind.wrap .i64 (i4504 + 1), z4692)))) (some (.inr (l4505)))
noncomputable def fn_graph_indexed_ik_graph_New_2 (xa : Int) (xb : (List (Int × Int))) : Option (((List Int) × (List Int))) :=
 (((mk (IntKind.wrap .i64 (xa + 1)) (IntKind.wrap .i64 (xa + 1)) 0 : Option (List Int)).bind fun z2781 => ((mk (((xb.length : Nat) : Int)) (((xb.length : Nat) : Int)) 0 : Option (List Int)).bind fun z2786 => some ((z2781, z2786))).bind fun x2798 => ((mk (((xb.length : Nat) : Int)) (((xb.length : Nat) : Int)) 0 : Option (List Int)).bind fun z2793 => some ((z2781, z2793))).bind fun y2799 => agr x2798 y2799 (some x2798)).bind fun x2844 => (((mk (((xb.length : Nat) : Int)) (((xb.length : Nat) : Int)) 0 : Option (List Int)).bind fun z2800 => ((mk (IntKind.wrap .i64 (xa + 1)) (IntKind.wrap .i64 (xa + 1)) 0 : Option (List Int)).bind fun z2805 => some ((z2805, z2800))).bind fun x2817 => ((mk (IntKind.wrap .i64 (xa + 1)) (IntKind.wrap .i64 (xa + 1)) 0 : Option (List Int)).bind fun z2812 => some ((z2812, z2800))).bind fun y2818 => agr x2817 y2818 (some x2817)).bind fun x2842 => (((mk (IntKind.wrap .i64 (xa + 1)) (IntKind.wrap .i64 (xa + 1)) 0 : Option (List Int)).bind fun z2820 => (mk (((xb.length : Nat) : Int)) (((xb.length : Nat) : Int)) 0 : Option (List Int)).bind fun z2825 => some ((z2820, z2825))).bind fun x2840 => ((mk (((xb.length : Nat) : Int)) (((xb.length : Nat) : Int)) 0 : Option (List Int)).bind fun z2830 => (mk (IntKind.wrap .i64 (xa + 1)) (IntKind.wrap .i64 (xa + 1)) 0 : Option (List Int)).bind fun z2835 => some ((z2835, z2830))).bind fun y2841 => agr x2840 y2841 (some x2840)).bind fun y2843 => agr x2842 y2843 (some x2842)).bind fun y2845 => agr x2844 y2845 (some x2844) : Option (((List Int) × (List Int)))).bind fun (l2706, l2711) => (loop (fn_graph_indexed_ik_graph_New_2_l1 xb) (0, l2706) : Option (List Int)).bind fun l3153 => (loop (fn_graph_indexed_ik_graph_New_2_l2 xa) (0, l3153) : Option (List Int)).bind fun l3754 => (fn_slices_Clone_int_int l3754).bind fun l4053 => (loop (fn_graph_indexed_ik_graph_New_2_l3 xb) (l4053, 0, l2711) : Option (List Int)).bind fun l4386 => some ((l3754, l4386))
noncomputable def h_graph_indexed_ik_graph_New_2 : Hn Try.prog := .tr (.still [0, 1, 3, 4] (.alt 2 (.alt 5 (.still [6] (.alt 7 (.alt 8 (.leaf []) .done) .done)) (.alt 7 (.alt 5 (.still [6] (.alt 8 (.leaf []) .done)) .done) .done)) (.alt 5 (.alt 2 (.still [6] (.alt 7 (.alt 8 (.leaf []) .done) .done)) (.alt 7 (.alt 2 (.still [6] (.alt 8 (.leaf []) .done)) .done) .done)) (.alt 7 (.alt 2 (.alt 5 (.still [6] (.alt 8 (.leaf []) .done)) .done) (.alt 5 (.alt 2 (.still [6] (.alt 8 (.leaf []) .done)) .done) .done)) .done)))) ⟨[(7, .ptr 0 0)], [⟨none, 80, [.own 3 (.int .i64), .own 3 (.int .i64)], false, false, none, false⟩]⟩ [] (.two 0 (.two 0 (.nil) (.nil)) (.two 0 (.two 0 (.nil) (.nil)) (.two 0 (.nil) (.nil)))) (.jn [(2, 1)] ⟨[], [⟨(some 2), 80, [.own 3 (.int .i64), .is 1 (.any)], false, false, none, false⟩, ⟨(some 8), 0, [], false, true, none, false⟩]⟩ [2, 3] (.lp ⟨[(24, .dat (.int .i64))], [⟨(some 2), 80, [.own 3 (.int .i64), .is 1 (.any)], false, false, none, false⟩, ⟨(some 8), 0, [], false, true, none, false⟩]⟩ (.tw 25 (.mix [([0, 1, 2, 3], 4)] [5, 6, 7, 8, 9] [10] [] (.cl ok_graph_New_2 [] (.nil))) (.nil))) (.jn [] ⟨[], [⟨(some 2), 80, [.own 3 (.int .i64), .is 1 (.any)], false, false, none, false⟩, ⟨(some 8), 0, [], false, true, none, false⟩]⟩ [2, 9] (.lp ⟨[(40, .dat (.int .i64))], [⟨(some 2), 80, [.own 3 (.int .i64), .is 1 (.any)], false, false, none, false⟩, ⟨(some 8), 0, [], false, true, none, false⟩]⟩ (.tw 41 (.mix [] [0, 1, 2, 3, 4, 5, 6, 7, 8, 9, 10, 11, 12] [13] [] (.nil)) (.nil))) (.per 12 13 (.cl ok_slices_Clone_int_int [] (.jn [(2, 0)] ⟨[(59, .any), (11, .any)], [⟨(some 2), 80, [.is 1 (.any), .own 3 (.int .i64)], false, false, none, false⟩, ⟨(some 17), 0, [], false, true, none, false⟩]⟩ [15, 2, 5] (.lp ⟨[(11, .own 3 (.int .i64)), (62, .dat (.int .i64))], [⟨(some 2), 80, [.is 1 (.any), .own 3 (.int .i64)], false, false, none, false⟩, ⟨(some 17), 0, [], false, true, none, false⟩]⟩ (.tw 63 (.cl ok_graph_New_2 [] (.mix [] [0, 1, 2, 3, 4, 5, 6, 7] [8] [] (.nil))) (.nil))) (.nil))))))
noncomputable def sp_graph_indexed_ik_graph_New_2 : Spec := ⟨39, ⟨[(0, .dat (.int .i64)), (1, .dat (.sl (.cons (.int .i64) (.one (.int .i64))))), (2, .fn 41 [])], []⟩, [⟨[(0, .agg [.dat (.sl (.int .i64)), .own 3 (.int .i64)])], []⟩], fun x => fn_graph_indexed_ik_graph_New_2 x.1 x.2⟩
theorem graph_indexed_ik_graph_New_2_is : SpecOk Try.prog sp_graph_indexed_ik_graph_New_2 := fn_is Try.func39 h_graph_indexed_ik_graph_New_2 (by kernel_rfl) (by kernel_rfl)
noncomputable def ok_graph_indexed_ik_graph_New_2 : OkSpec Try.prog := ⟨sp_graph_indexed_ik_graph_New_2, graph_indexed_ik_graph_New_2_is, Try.call39⟩
noncomputable def fn_graph_New_l1 (xa : Int) (xb : (List (Int × Int))) : Int → Option (Int ⊕ (Unit ⊕ ((Option (Int × (List (Int × Int)) × ((List Int) × (List Int)) × ((List Int) × (List Int)))) × Int))) := fun (i289 : Int) => cond (decide (i289 < (((xb.length : Nat) : Int)))) ((getI xb i289).bind fun x314 => cond ((((decide (x314.1 < 0)) || (decide (xa ≤ x314.1))) || (decide (x314.2 < 0))) || (decide (xa ≤ x314.2))) (some (.inr ((.inr ((none, 7)))))) (some (.inl (IntKind.wrap .i64 (i289 + 1))))) (some (.inr ((.inl ()))))
noncomputable def fn_graph_New (xa : Int) (xb : (List (Int × Int))) : Option (((Option (Int × (List (Int × Int)) × ((List Int) × (List Int)) × ((List Int) × (List Int)))) × Int)) :=
 cond (decide (xa < 0)) (some ((none, 2))) (cond ((decide (1048576 < xa)) || (decide (67108864 < (((xb.length : Nat) : Int))))) (some ((none, 5))) ((loop (fn_graph_New_l1 xa xb) 0 : Option (Unit ⊕ ((Option (Int × (List (Int × Int)) × ((List Int) × (List Int)) × ((List Int) × (List Int)))) × Int))).bind fun o => match o with | .inr r => some r | .inl () => (fn_slices_Clone_graph_Arc_graph_Arc xb).bind fun l336 => (fn_graph_indexed_ik_graph_New_1 xa l336).bind fun (l350, l351) => (fn_graph_indexed_ik_graph_New_2 xa l336).bind fun (l364, l365) => some (((some ((xa, l336, (l350, l351), (l364, l365)))), 0))))
noncomputable def h_graph_New : Hn Try.prog := .tw 10 (.nil) (.gp 3 (.tw 17 (.nil) (.jx [] ⟨[], []⟩ [] (.lp ⟨[(20, .dat (.int .i64))], []⟩ (.tw 21 (.gp 4 (.wt 33 (.gp 3 (.wt 38 (.gp 4 (.tw 43 (.nil) (.nil))))))) (.nil))) (.cl ok_slices_Clone_graph_Arc_graph_Arc [] (.per 0 1 (.cl ok_graph_indexed_ik_graph_New_1 [] (.cl ok_graph_indexed_ik_graph_New_2 [] (.per 4 5 (.per 7 8 (.perb 2 9 (.cons (.int .i64) (.cons (.sl (.cons (.int .i64) (.one (.int .i64)))) (.cons (.cons (.sl (.int .i64)) (.one (.sl (.int .i64)))) (.one (.cons (.sl (.int .i64)) (.one (.sl (.int .i64)))))))) (.nil)))))))))))
noncomputable def sp_graph_New : Spec := ⟨29, ⟨[(0, .dat (.int .i64)), (1, .dat (.sl (.cons (.int .i64) (.one (.int .i64)))))], []⟩, [⟨[(0, .tup [.dat (.ptr (.cons (.int .i64) (.cons (.sl (.cons (.int .i64) (.one (.int .i64)))) (.cons (.cons (.sl (.int .i64)) (.one (.sl (.int .i64)))) (.one (.cons (.sl (.int .i64)) (.one (.sl (.int .i64))))))))), .dat (.int .i64)])], []⟩], fun x => fn_graph_New x.1 x.2⟩
theorem graph_New_is : SpecOk Try.prog sp_graph_New := fn_is Try.func29 h_graph_New (by kernel_rfl) (by kernel_rfl)
noncomputable def ok_graph_New : OkSpec Try.prog := ⟨sp_graph_New, graph_New_is, Try.call29⟩
noncomputable def fn_law10_Of_l1 (xb : (List (Int × Int))) : ((List (Int × Int)) × Int) → Option (((List (Int × Int)) × Int) ⊕ (List (Int × Int))) := fun ((l1389, i1394) : ((List (Int × Int)) × Int)) => cond (decide (i1394 < (((xb.length : Nat) : Int)))) ((getI xb i1394).bind fun x1557 => (getI xb i1394).bind fun x1566 => (app l1389 (([(x1557.1, x1566.2)] : List (Int × Int)))).bind fun z1578 => some (.inl ((z1578, IntKind.wrap .i64 (i1394 + 1))))) (some (.inr (l1389)))
noncomputable def fn_law10_Of (xa : Int) (xb : (List (Int × Int))) : Option (((Option (Int × (List (Int × Int)) × ((List Int) × (List Int)) × ((List Int) × (List Int)))) × Int)) :=
 (loop (fn_law10_Of_l1 xb) ((([] : List (Int × Int)), 0)) : Option ((List (Int × Int)))).bind fun l1287 => (fn_graph_New xa l1287).bind fun (p1589, i1590) => some ((p1589, i1590))
noncomputable def h_law10_Of : Hn Try.prog := .jn [] ⟨[(6, .own 61 (.cons (.int .i64) (.one (.int .i64)))), (8, .any)], []⟩ [0] (.lp ⟨[(6, .own 61 (.cons (.int .i64) (.one (.int .i64)))), (7, .dat (.int .i64))], []⟩ (.tw 12 (.mix [([0, 1, 2, 3, 4, 5, 6, 7, 8, 9, 10, 11], 12)] [] [13, 14] [] (.nil)) (.nil))) (.per 2 3 (.cl ok_graph_New [] (.nil)))
noncomputable def sp_law10_Of : Spec := ⟨20, ⟨[(0, .dat (.int .i64)), (1, .dat (.sl (.cons (.int .i64) (.one (.int .i64)))))], []⟩, [⟨[(0, .tup [.dat (.ptr (.cons (.int .i64) (.cons (.sl (.cons (.int .i64) (.one (.int .i64)))) (.cons (.cons (.sl (.int .i64)) (.one (.sl (.int .i64)))) (.one (.cons (.sl (.int .i64)) (.one (.sl (.int .i64))))))))), .dat (.int .i64)])], []⟩], fun x => fn_law10_Of x.1 x.2⟩
theorem law10_Of_is : SpecOk Try.prog sp_law10_Of := fn_is Try.func20 h_law10_Of (by kernel_rfl) (by kernel_rfl)
noncomputable def ok_law10_Of : OkSpec Try.prog := ⟨sp_law10_Of, law10_Of_is, Try.call20⟩

noncomputable def fn_graph_Graph_Nodes (xa : (Option (Int × (List (Int × Int)) × ((List Int) × (List Int)) × ((List Int) × (List Int))))) : Option Int :=
 cond (xa.isNone) (some (0)) ((xa : Option (Int × (List (Int × Int)) × ((List Int) × (List Int)) × ((List Int) × (List Int)))).bind fun y11 => some (y11.1))
noncomputable def h_graph_Graph_Nodes : Hn Try.prog := .tw 4 (.nil) (.nil)
noncomputable def sp_graph_Graph_Nodes : Spec := ⟨31, ⟨[(0, .dat (.ptr (.cons (.int .i64) (.cons (.sl (.cons (.int .i64) (.one (.int .i64)))) (.cons (.cons (.sl (.int .i64)) (.one (.sl (.int .i64)))) (.one (.cons (.sl (.int .i64)) (.one (.sl (.int .i64))))))))))], []⟩, [⟨[(0, .dat (.int .i64))], []⟩], fun x => fn_graph_Graph_Nodes x⟩
theorem graph_Graph_Nodes_is : SpecOk Try.prog sp_graph_Graph_Nodes := fn_is Try.func31 h_graph_Graph_Nodes (by kernel_rfl) (by kernel_rfl)
noncomputable def ok_graph_Graph_Nodes : OkSpec Try.prog := ⟨sp_graph_Graph_Nodes, graph_Graph_Nodes_is, Try.call31⟩

noncomputable def fn_graph_Graph_Arcs (xa : (Option (Int × (List (Int × Int)) × ((List Int) × (List Int)) × ((List Int) × (List Int))))) : Option Int :=
 cond (xa.isNone) (some (0)) ((xa : Option (Int × (List (Int × Int)) × ((List Int) × (List Int)) × ((List Int) × (List Int)))).bind fun y14 => some (((y14.2.1.length : Nat) : Int)))
noncomputable def h_graph_Graph_Arcs : Hn Try.prog := .tw 4 (.nil) (.nil)
noncomputable def sp_graph_Graph_Arcs : Spec := ⟨32, ⟨[(0, .dat (.ptr (.cons (.int .i64) (.cons (.sl (.cons (.int .i64) (.one (.int .i64)))) (.cons (.cons (.sl (.int .i64)) (.one (.sl (.int .i64)))) (.one (.cons (.sl (.int .i64)) (.one (.sl (.int .i64))))))))))], []⟩, [⟨[(0, .dat (.int .i64))], []⟩], fun x => fn_graph_Graph_Arcs x⟩
theorem graph_Graph_Arcs_is : SpecOk Try.prog sp_graph_Graph_Arcs := fn_is Try.func32 h_graph_Graph_Arcs (by kernel_rfl) (by kernel_rfl)
noncomputable def ok_graph_Graph_Arcs : OkSpec Try.prog := ⟨sp_graph_Graph_Arcs, graph_Graph_Arcs_is, Try.call32⟩

noncomputable def fn_tick_Counter_Add_zii (xb : Int) (xc : Int) : Option Unit :=
 some (())
noncomputable def h_tick_Counter_Add_zii : Hn Try.prog := .nil
noncomputable def sp_tick_Counter_Add_zii : Spec := ⟨30, ⟨[(0, .nilp), (1, .dat (.int .i64)), (2, .dat (.int .i64))], []⟩, [⟨[], []⟩], fun x => fn_tick_Counter_Add_zii x.1 x.2⟩
theorem tick_Counter_Add_zii_is : SpecOk Try.prog sp_tick_Counter_Add_zii := fn_is Try.func30 h_tick_Counter_Add_zii (by kernel_rfl) (by kernel_rfl)
noncomputable def ok_tick_Counter_Add_zii : OkSpec Try.prog := ⟨sp_tick_Counter_Add_zii, tick_Counter_Add_zii_is, Try.call30⟩

noncomputable def fn_graph_Graph_isNode (xa : (Option (Int × (List (Int × Int)) × ((List Int) × (List Int)) × ((List Int) × (List Int))))) (xb : Int) : Option Bool :=
 (cond (decide (0 ≤ xb)) ((fn_graph_Graph_Nodes xa).bind fun i28 => some (decide (xb < i28))) (some (false))).bind fun t24 => some (t24)
noncomputable def h_graph_Graph_isNode : Hn Try.prog := .gj 4 ⟨[(12, .dat .bool)], []⟩ [] (.two 7 (.cl ok_graph_Graph_Nodes [] (.nil)) (.nil)) (.nil)
noncomputable def sp_graph_Graph_isNode : Spec := ⟨57, ⟨[(0, .dat (.ptr (.cons (.int .i64) (.cons (.sl (.cons (.int .i64) (.one (.int .i64)))) (.cons (.cons (.sl (.int .i64)) (.one (.sl (.int .i64)))) (.one (.cons (.sl (.int .i64)) (.one (.sl (.int .i64)))))))))), (1, .dat (.int .i64))], []⟩, [⟨[(0, .dat .bool)], []⟩], fun x => fn_graph_Graph_isNode x.1 x.2⟩
theorem graph_Graph_isNode_is : SpecOk Try.prog sp_graph_Graph_isNode := fn_is Try.func57 h_graph_Graph_isNode (by kernel_rfl) (by kernel_rfl)
noncomputable def ok_graph_Graph_isNode : OkSpec Try.prog := ⟨sp_graph_Graph_isNode, graph_Graph_isNode_is, Try.call57⟩

noncomputable def fn_graph_index_of (xa : ((List Int) × (List Int))) (xb : Int) : Option (List Int) :=
 (getI xa.1 xb).bind fun x175 => (getI xa.1 (IntKind.wrap .i64 (xb + 1))).bind fun x184 => (subL xa.2 x175 x184).bind fun y193 => some (y193)
noncomputable def h_graph_index_of : Hn Try.prog := .mix [] [0, 1, 2, 3, 4, 5, 6, 7, 8, 9, 10, 11, 12, 13, 14] [] [] (.nil)
noncomputable def sp_graph_index_of : Spec := ⟨58, ⟨[(0, .dat (.cons (.sl (.int .i64)) (.one (.sl (.int .i64))))), (1, .dat (.int .i64))], []⟩, [⟨[(0, .dat (.sl (.int .i64)))], []⟩], fun x => fn_graph_index_of x.1 x.2⟩
theorem graph_index_of_is : SpecOk Try.prog sp_graph_index_of := fn_is Try.func58 h_graph_index_of (by kernel_rfl) (by kernel_rfl)
noncomputable def ok_graph_index_of : OkSpec Try.prog := ⟨sp_graph_index_of, graph_index_of_is, Try.call58⟩

noncomputable def fn_graph_Graph_Out (xa : (Option (Int × (List (Int × Int)) × ((List Int) × (List Int)) × ((List Int) × (List Int))))) (xb : Int) : Option (List Int) :=
 (fn_graph_Graph_isNode xa xb).bind fun t48 => cond (!t48) (some ([])) ((xa : Option (Int × (List (Int × Int)) × ((List Int) × (List Int)) × ((List Int) × (List Int)))).bind fun y54 => (fn_graph_index_of (y54.2.2.1.1, y54.2.2.1.2) xb).bind fun l70 => (fn_slices_Clone_int_int l70).bind fun l79 => some (l79))
noncomputable def h_graph_Graph_Out : Hn Try.prog := .cl ok_graph_Graph_isNode [] (.tw 8 (.nil) (.cl ok_graph_index_of [] (.cl ok_slices_Clone_int_int [] (.nil))))
noncomputable def sp_graph_Graph_Out : Spec := ⟨44, ⟨[(0, .dat (.ptr (.cons (.int .i64) (.cons (.sl (.cons (.int .i64) (.one (.int .i64)))) (.cons (.cons (.sl (.int .i64)) (.one (.sl (.int .i64)))) (.one (.cons (.sl (.int .i64)) (.one (.sl (.int .i64)))))))))), (1, .dat (.int .i64))], []⟩, [⟨[(0, .own 3 (.int .i64))], []⟩], fun x => fn_graph_Graph_Out x.1 x.2⟩
theorem graph_Graph_Out_is : SpecOk Try.prog sp_graph_Graph_Out := fn_is Try.func44 h_graph_Graph_Out (by kernel_rfl) (by kernel_rfl)
noncomputable def ok_graph_Graph_Out : OkSpec Try.prog := ⟨sp_graph_Graph_Out, graph_Graph_Out_is, Try.call44⟩
noncomputable def fn_graph_Graph_Next_l1 (xa : (Option (Int × (List (Int × Int)) × ((List Int) × (List Int)) × ((List Int) × (List Int))))) (l470 : (List Int)) : ((List Int) × Int) → Option (((List Int) × Int) ⊕ (List Int)) := fun ((l664, i669) : ((List Int) × Int)) => cond (decide (i669 < (((l470.length : Nat) : Int)))) ((getI l664 i669).bind fun x717 => (xa : Option (Int × (List (Int × Int)) × ((List Int) × (List Int)) × ((List Int) × (List Int)))).bind fun y724 => (getI y724.2.1 x717).bind fun x734 => (getI l664 i669).bind fun x743 => (some (l664.set i669.toNat x734.2)).bind fun z750 => some (.inl ((z750, IntKind.wrap .i64 (i669 + 1))))) (some (.inr (l664)))
noncomputable def fn_graph_Graph_Next (xa : (Option (Int × (List (Int × Int)) × ((List Int) × (List Int)) × ((List Int) × (List Int))))) (xb : Int) : Option (List Int) :=
 (fn_graph_Graph_Out xa xb).bind fun l470 => (loop (fn_graph_Graph_Next_l1 xa l470) (l470, 0) : Option (List Int)).bind fun l614 => some (l614)
noncomputable def h_graph_Graph_Next : Hn Try.prog := .cl ok_graph_Graph_Out [] (.jn [] ⟨[(5, .own 3 (.int .i64)), (10, .any), (11, .any)], []⟩ [0] (.lp ⟨[(5, .own 3 (.int .i64)), (11, .al 0), (13, .dat (.int .i64))], []⟩ (.tw 14 (.nil) (.nil))) (.nil))
noncomputable def sp_graph_Graph_Next : Spec := ⟨33, ⟨[(0, .dat (.ptr (.cons (.int .i64) (.cons (.sl (.cons (.int .i64) (.one (.int .i64)))) (.cons (.cons (.sl (.int .i64)) (.one (.sl (.int .i64)))) (.one (.cons (.sl (.int .i64)) (.one (.sl (.int .i64)))))))))), (1, .dat (.int .i64))], []⟩, [⟨[(0, .own 3 (.int .i64))], []⟩], fun x => fn_graph_Graph_Next x.1 x.2⟩
theorem graph_Graph_Next_is : SpecOk Try.prog sp_graph_Graph_Next := fn_is Try.func33 h_graph_Graph_Next (by kernel_rfl) (by kernel_rfl)
noncomputable def ok_graph_Graph_Next : OkSpec Try.prog := ⟨sp_graph_Graph_Next, graph_Graph_Next_is, Try.call33⟩

noncomputable def fn_scc_newFinder (xa : (List (List Int))) : Option (((List Int) × (List Int) × (List Int) × (List Int))) :=
 (((mk (((xa.length : Nat) : Int)) (((xa.length : Nat) : Int)) 0 : Option (List Int)).bind fun z2794 => ((mk (((xa.length : Nat) : Int)) (((xa.length : Nat) : Int)) 0 : Option (List Int)).bind fun z2799 => ((mk (((xa.length : Nat) : Int)) (((xa.length : Nat) : Int)) 0 : Option (List Int)).bind fun z2804 => (mk (((xa.length : Nat) : Int)) (((xa.length : Nat) : Int)) 0 : Option (List Int)).bind fun z2809 => some ((z2794, z2799, z2804, z2809))).bind fun x2826 => ((mk (((xa.length : Nat) : Int)) (((xa.length : Nat) : Int)) 0 : Option (List Int)).bind fun z2815 => (mk (((xa.length : Nat) : Int)) (((xa.length : Nat) : Int)) 0 : Option (List Int)).bind fun z2820 => some ((z2794, z2799, z2820, z2815))).bind fun y2827 => agr x2826 y2827 (some x2826)).bind fun x2888 => (((mk (((xa.length : Nat) : Int)) (((xa.length : Nat) : Int)) 0 : Option (List Int)).bind fun z2828 => ((mk (((xa.length : Nat) : Int)) (((xa.length : Nat) : Int)) 0 : Option (List Int)).bind fun z2833 => (mk (((xa.length : Nat) : Int)) (((xa.length : Nat) : Int)) 0 : Option (List Int)).bind fun z2838 => some ((z2794, z2833, z2828, z2838))).bind fun x2855 => ((mk (((xa.length : Nat) : Int)) (((xa.length : Nat) : Int)) 0 : Option (List Int)).bind fun z2844 => (mk (((xa.length : Nat) : Int)) (((xa.length : Nat) : Int)) 0 : Option (List Int)).bind fun z2849 => some ((z2794, z2849, z2828, z2844))).bind fun y2856 => agr x2855 y2856 (some x2855)).bind fun x2886 => ((mk (((xa.length : Nat) : Int)) (((xa.length : Nat) : Int)) 0 : Option (List Int)).bind fun z2857 => ((mk (((xa.length : Nat) : Int)) (((xa.length : Nat) : Int)) 0 : Option (List Int)).bind fun z2862 => (mk (((xa.length : Nat) : Int)) (((xa.length : Nat) : Int)) 0 : Option (List Int)).bind fun z2867 => some ((z2794, z2862, z2867, z2857))).bind fun x2884 => ((mk (((xa.length : Nat) : Int)) (((xa.length : Nat) : Int)) 0 : Option (List Int)).bind fun z2873 => (mk (((xa.length : Nat) : Int)) (((xa.length : Nat) : Int)) 0 : Option (List Int)).bind fun z2878 => some ((z2794, z2878, z2873, z2857))).bind fun y2885 => agr x2884 y2885 (some x2884)).bind fun y2887 => agr x2886 y2887 (some x2886)).bind fun y2889 => agr x2888 y2889 (some x2888)).bind fun x3182 => (((mk (((xa.length : Nat) : Int)) (((xa.length : Nat) : Int)) 0 : Option (List Int)).bind fun z2890 => ((mk (((xa.length : Nat) : Int)) (((xa.length : Nat) : Int)) 0 : Option (List Int)).bind fun z2895 => ((mk (((xa.length : Nat) : Int)) (((xa.length : Nat) : Int)) 0 : Option (List Int)).bind fun z2900 => (mk (((xa.length : Nat) : Int)) (((xa.length : Nat) : Int)) 0 : Option (List Int)).bind fun z2905 => some ((z2895, z2890, z2900, z2905))).bind fun x2922 => ((mk (((xa.length : Nat) : Int)) (((xa.length : Nat) : Int)) 0 : Option (List Int)).bind fun z2911 => (mk (((xa.length : Nat) : Int)) (((xa.length : Nat) : Int)) 0 : Option (List Int)).bind fun z2916 => some ((z2895, z2890, z2916, z2911))).bind fun y2923 => agr x2922 y2923 (some x2922)).bind fun x2984 => (((mk (((xa.length : Nat) : Int)) (((xa.length : Nat) : Int)) 0 : Option (List Int)).bind fun z2924 => ((mk (((xa.length : Nat) : Int)) (((xa.length : Nat) : Int)) 0 : Option (List Int)).bind fun z2929 => (mk (((xa.length : Nat) : Int)) (((xa.length : Nat) : Int)) 0 : Option (List Int)).bind fun z2934 => some ((z2929, z2890, z2924, z2934))).bind fun x2951 => ((mk (((xa.length : Nat) : Int)) (((xa.length : Nat) : Int)) 0 : Option (List Int)).bind fun z2940 => (mk (((xa.length : Nat) : Int)) (((xa.length : Nat) : Int)) 0 : Option (List Int)).bind fun z2945 => some ((z2945, z2890, z2924, z2940))).bind fun y2952 => agr x2951 y2952 (some x2951)).bind fun x2982 => ((mk (((xa.length : Nat) : Int)) (((xa.length : Nat) : Int)) 0 : Option (List Int)).bind fun z2953 => ((mk (((xa.length : Nat) : Int)) (((xa.length : Nat) : Int)) 0 : Option (List Int)).bind fun z2958 => (mk (((xa.length : Nat) : Int)) (((xa.length : Nat) : Int)) 0 : Option (List Int)).bind fun z2963 => some ((z2958, z2890, z2963, z2953))).bind fun x2980 => ((mk (((xa.length : Nat) : Int)) (((xa.length : Nat) : Int)) 0 : Option (List Int)).bind fun z2969 => (mk (((xa.length : Nat) : Int)) (((xa.length : Nat) : Int)) 0 : Option (List Int)).bind fun z2974 => some ((z2974, z2890, z2969, z2953))).bind fun y2981 => agr x2980 y2981 (some x2980)).bind fun y2983 => agr x2982 y2983 (some x2982)).bind fun y2985 => agr x2984 y2985 (some x2984)).bind fun x3180 => (((mk (((xa.length : Nat) : Int)) (((xa.length : Nat) : Int)) 0 : Option (List Int)).bind fun z2986 => ((mk (((xa.length : Nat) : Int)) (((xa.length : Nat) : Int)) 0 : Option (List Int)).bind fun z2991 => ((mk (((xa.length : Nat) : Int)) (((xa.length : Nat) : Int)) 0 : Option (List Int)).bind fun z2996 => (mk (((xa.length : Nat) : Int)) (((xa.length : Nat) : Int)) 0 : Option (List Int)).bind fun z3001 => some ((z2991, z2996, z2986, z3001))).bind fun x3018 => ((mk (((xa.length : Nat) : Int)) (((xa.length : Nat) : Int)) 0 : Option (List Int)).bind fun z3007 => (mk (((xa.length : Nat) : Int)) (((xa.length : Nat) : Int)) 0 : Option (List Int)).bind fun z3012 => some ((z2991, z3012, z2986, z3007))).bind fun y3019 => agr x3018 y3019 (some x3018)).bind fun x3080 => (((mk (((xa.length : Nat) : Int)) (((xa.length : Nat) : Int)) 0 : Option (List Int)).bind fun z3020 => ((mk (((xa.length : Nat) : Int)) (((xa.length : Nat) : Int)) 0 : Option (List Int)).bind fun z3025 => (mk (((xa.length : Nat) : Int)) (((xa.length : Nat) : Int)) 0 : Option (List Int)).bind fun z3030 => some ((z3025, z3020, z2986, z3030))).bind fun x3047 => ((mk (((xa.length : Nat) : Int)) (((xa.length : Nat) : Int)) 0 : Option (List Int)).bind fun z3036 => (mk (((xa.length : Nat) : Int)) (((xa.length : Nat) : Int)) 0 : Option (List Int)).bind fun z3041 => some ((z3041, z3020, z2986, z3036))).bind fun y3048 => agr x3047 y3048 (some x3047)).bind fun x3078 => ((mk (((xa.length : Nat) : Int)) (((xa.length : Nat) : Int)) 0 : Option (List Int)).bind fun z3049 => ((mk (((xa.length : Nat) : Int)) (((xa.length : Nat) : Int)) 0 : Option (List Int)).bind fun z3054 => (mk (((xa.length : Nat) : Int)) (((xa.length : Nat) : Int)) 0 : Option (List Int)).bind fun z3059 => some ((z3054, z3059, z2986, z3049))).bind fun x3076 => ((mk (((xa.length : Nat) : Int)) (((xa.length : Nat) : Int)) 0 : Option (List Int)).bind fun z3065 => (mk (((xa.length : Nat) : Int)) (((xa.length : Nat) : Int)) 0 : Option (List Int)).bind fun z3070 => some ((z3070, z3065, z2986, z3049))).bind fun y3077 => agr x3076 y3077 (some x3076)).bind fun y3079 => agr x3078 y3079 (some x3078)).bind fun y3081 => agr x3080 y3081 (some x3080)).bind fun x3178 => ((mk (((xa.length : Nat) : Int)) (((xa.length : Nat) : Int)) 0 : Option (List Int)).bind fun z3082 => ((mk (((xa.length : Nat) : Int)) (((xa.length : Nat) : Int)) 0 : Option (List Int)).bind fun z3087 => ((mk (((xa.length : Nat) : Int)) (((xa.length : Nat) : Int)) 0 : Option (List Int)).bind fun z3092 => (mk (((xa.length : Nat) : Int)) (((xa.length : Nat) : Int)) 0 : Option (List Int)).bind fun z3097 => some ((z3087, z3092, z3097, z3082))).bind fun x3114 => ((mk (((xa.length : Nat) : Int)) (((xa.length : Nat) : Int)) 0 : Option (List Int)).bind fun z3103 => (mk (((xa.length : Nat) : Int)) (((xa.length : Nat) : Int)) 0 : Option (List Int)).bind fun z3108 => some ((z3087, z3108, z3103, z3082))).bind fun y3115 => agr x3114 y3115 (some x3114)).bind fun x3176 => (((mk (((xa.length : Nat) : Int)) (((xa.length : Nat) : Int)) 0 : Option (List Int)).bind fun z3116 => ((mk (((xa.length : Nat) : Int)) (((xa.length : Nat) : Int)) 0 : Option (List Int)).bind fun z3121 => (mk (((xa.length : Nat) : Int)) (((xa.length : Nat) : Int)) 0 : Option (List Int)).bind fun z3126 => some ((z3121, z3116, z3126, z3082))).bind fun x3143 => ((mk (((xa.length : Nat) : Int)) (((xa.length : Nat) : Int)) 0 : Option (List Int)).bind fun z3132 => (mk (((xa.length : Nat) : Int)) (((xa.length : Nat) : Int)) 0 : Option (List Int)).bind fun z3137 => some ((z3137, z3116, z3132, z3082))).bind fun y3144 => agr x3143 y3144 (some x3143)).bind fun x3174 => ((mk (((xa.length : Nat) : Int)) (((xa.length : Nat) : Int)) 0 : Option (List Int)).bind fun z3145 => ((mk (((xa.length : Nat) : Int)) (((xa.length : Nat) : Int)) 0 : Option (List Int)).bind fun z3150 => (mk (((xa.length : Nat) : Int)) (((xa.length : Nat) : Int)) 0 : Option (List Int)).bind fun z3155 => some ((z3150, z3155, z3145, z3082))).bind fun x3172 => ((mk (((xa.length : Nat) : Int)) (((xa.length : Nat) : Int)) 0 : Option (List Int)).bind fun z3161 => (mk (((xa.length : Nat) : Int)) (((xa.length : Nat) : Int)) 0 : Option (List Int)).bind fun z3166 => some ((z3166, z3161, z3145, z3082))).bind fun y3173 => agr x3172 y3173 (some x3172)).bind fun y3175 => agr x3174 y3175 (some x3174)).bind fun y3177 => agr x3176 y3177 (some x3176)).bind fun y3179 => agr x3178 y3179 (some x3178)).bind fun y3181 => agr x3180 y3181 (some x3180)).bind fun y3183 => agr x3182 y3183 (some x3182) : Option (((List Int) × (List Int) × (List Int) × (List Int)))).bind fun (l2384, l2389, l2394, l2399) => some ((l2384, l2389, l2394, l2399))
noncomputable def h_scc_newFinder : Hn Try.prog := .tr (.still [0, 1, 3, 5, 7] (.alt 2 (.alt 4 (.alt 6 (.alt 8 (.still [9] (.alt 10 (.leaf [11]) .done)) .done) (.alt 8 (.alt 6 (.still [9] (.alt 10 (.leaf [11]) .done)) .done) .done)) (.alt 6 (.alt 4 (.alt 8 (.still [9] (.alt 10 (.leaf [11]) .done)) .done) (.alt 8 (.alt 4 (.still [9] (.alt 10 (.leaf [11]) .done)) .done) .done)) (.alt 8 (.alt 4 (.alt 6 (.still [9] (.alt 10 (.leaf [11]) .done)) .done) (.alt 6 (.alt 4 (.still [9] (.alt 10 (.leaf [11]) .done)) .done) .done)) .done))) (.alt 4 (.alt 2 (.alt 6 (.alt 8 (.still [9] (.alt 10 (.leaf [11]) .done)) .done) (.alt 8 (.alt 6 (.still [9] (.alt 10 (.leaf [11]) .done)) .done) .done)) (.alt 6 (.alt 2 (.alt 8 (.still [9] (.alt 10 (.leaf [11]) .done)) .done) (.alt 8 (.alt 2 (.still [9] (.alt 10 (.leaf [11]) .done)) .done) .done)) (.alt 8 (.alt 2 (.alt 6 (.still [9] (.alt 10 (.leaf [11]) .done)) .done) (.alt 6 (.alt 2 (.still [9] (.alt 10 (.leaf [11]) .done)) .done) .done)) .done))) (.alt 6 (.alt 2 (.alt 4 (.alt 8 (.still [9] (.alt 10 (.leaf [11]) .done)) .done) (.alt 8 (.alt 4 (.still [9] (.alt 10 (.leaf [11]) .done)) .done) .done)) (.alt 4 (.alt 2 (.alt 8 (.still [9] (.alt 10 (.leaf [11]) .done)) .done) (.alt 8 (.alt 2 (.still [9] (.alt 10 (.leaf [11]) .done)) .done) .done)) (.alt 8 (.alt 2 (.alt 4 (.still [9] (.alt 10 (.leaf [11]) .done)) .done) (.alt 4 (.alt 2 (.still [9] (.alt 10 (.leaf [11]) .done)) .done) .done)) .done))) (.alt 8 (.alt 2 (.alt 4 (.alt 6 (.still [9] (.alt 10 (.leaf [11]) .done)) .done) (.alt 6 (.alt 4 (.still [9] (.alt 10 (.leaf [11]) .done)) .done) .done)) (.alt 4 (.alt 2 (.alt 6 (.still [9] (.alt 10 (.leaf [11]) .done)) .done) (.alt 6 (.alt 2 (.still [9] (.alt 10 (.leaf [11]) .done)) .done) .done)) (.alt 6 (.alt 2 (.alt 4 (.still [9] (.alt 10 (.leaf [11]) .done)) .done) (.alt 4 (.alt 2 (.still [9] (.alt 10 (.leaf [11]) .done)) .done) .done)) .done))) .done))))) ⟨[(2, .ptr 0 0)], [⟨none, 70, [.is 1 (.any), .own 3 (.int .i64), .own 3 (.int .i64), .own 3 (.int .i64), .own 3 (.int .i64), .lit (.int .i64 0), .nils, .nils, .nils], false, false, none, false⟩, ⟨(some 0), 0, [], false, true, none, false⟩]⟩ [] (.two 0 (.two 0 (.two 0 (.nil) (.nil)) (.two 0 (.two 0 (.nil) (.nil)) (.two 0 (.nil) (.nil)))) (.two 0 (.two 0 (.two 0 (.nil) (.nil)) (.two 0 (.two 0 (.nil) (.nil)) (.two 0 (.nil) (.nil)))) (.two 0 (.two 0 (.two 0 (.nil) (.nil)) (.two 0 (.two 0 (.nil) (.nil)) (.two 0 (.nil) (.nil)))) (.two 0 (.two 0 (.nil) (.nil)) (.two 0 (.two 0 (.nil) (.nil)) (.two 0 (.nil) (.nil))))))) (.nil)
noncomputable def sp_scc_newFinder : Spec := ⟨34, ⟨[(0, .is 0 (.dat (.sl (.sl (.int .i64)))))], [⟨none, 0, [], false, true, none, false⟩]⟩, [⟨[(0, .ptr 0 0)], [⟨none, 70, [.is 1 (.any), .own 3 (.int .i64), .own 3 (.int .i64), .own 3 (.int .i64), .own 3 (.int .i64), .lit (.int .i64 0), .nils, .nils, .nils], false, false, none, false⟩, ⟨(some 0), 0, [], false, true, none, false⟩]⟩], fun x => fn_scc_newFinder x⟩
theorem scc_newFinder_is : SpecOk Try.prog sp_scc_newFinder := fn_is Try.func34 h_scc_newFinder (by kernel_rfl) (by kernel_rfl)
noncomputable def ok_scc_newFinder : OkSpec Try.prog := ⟨sp_scc_newFinder, scc_newFinder_is, Try.call34⟩

noncomputable def fn_stack_Stack_int_Push_p0o6k_krrrrirrn (xb : (List Int)) (qa0 : (List (List Int))) (qa1 : (List Int)) (qa2 : (List Int)) (qa3 : (List Int)) (qa4 : (List Int)) (qa5 : Int) (qa6 : (List Int)) (qa7 : (List Int)) : Option (((List Int) × (List Int) × (List Int) × (List Int) × (List Int) × (List Int))) :=
 (app qa6 xb).bind fun z37 => some ((qa1, qa2, qa3, qa4, z37, qa7))
noncomputable def h_stack_Stack_int_Push_p0o6k_krrrrirrn : Hn Try.prog := .nil
noncomputable def sp_stack_Stack_int_Push_p0o6k_krrrrirrn : Spec := ⟨59, ⟨[(0, .ptr 0 6), (1, .dat (.sl (.int .i64)))], [⟨none, 70, [.is 1 (.dat (.sl (.sl (.int .i64)))), .own 3 (.int .i64), .own 3 (.int .i64), .own 3 (.int .i64), .own 3 (.int .i64), .is 2 (.dat (.int .i64)), .own 3 (.int .i64), .own 3 (.int .i64), .nils], false, false, none, false⟩, ⟨none, 0, [], false, true, none, false⟩, ⟨none, 0, [], false, true, none, false⟩]⟩, [⟨[], [⟨(some 0), 70, [.is 1 (.any), .own 3 (.int .i64), .own 3 (.int .i64), .own 3 (.int .i64), .own 3 (.int .i64), .is 2 (.any), .own 3 (.int .i64), .own 3 (.int .i64), .nils], false, false, none, false⟩, ⟨(some 1), 0, [], false, true, none, false⟩, ⟨(some 2), 0, [], false, true, none, false⟩]⟩], fun x => fn_stack_Stack_int_Push_p0o6k_krrrrirrn x.1 x.2.1 x.2.2.1 x.2.2.2.1 x.2.2.2.2.1 x.2.2.2.2.2.1 x.2.2.2.2.2.2.1 x.2.2.2.2.2.2.2.1 x.2.2.2.2.2.2.2.2⟩
theorem stack_Stack_int_Push_p0o6k_krrrrirrn_is : SpecOk Try.prog sp_stack_Stack_int_Push_p0o6k_krrrrirrn := fn_is Try.func59 h_stack_Stack_int_Push_p0o6k_krrrrirrn (by kernel_rfl) (by kernel_rfl)
noncomputable def ok_stack_Stack_int_Push_p0o6k_krrrrirrn : OkSpec Try.prog := ⟨sp_stack_Stack_int_Push_p0o6k_krrrrirrn, stack_Stack_int_Push_p0o6k_krrrrirrn_is, Try.call59⟩

noncomputable def fn_stack_Stack_int_Push_p0o7k_krrrrirrn (xb : (List Int)) (qa0 : (List (List Int))) (qa1 : (List Int)) (qa2 : (List Int)) (qa3 : (List Int)) (qa4 : (List Int)) (qa5 : Int) (qa6 : (List Int)) (qa7 : (List Int)) : Option (((List Int) × (List Int) × (List Int) × (List Int) × (List Int) × (List Int))) :=
 (app qa7 xb).bind fun z37 => some ((qa1, qa2, qa3, qa4, qa6, z37))
noncomputable def h_stack_Stack_int_Push_p0o7k_krrrrirrn : Hn Try.prog := .nil
noncomputable def sp_stack_Stack_int_Push_p0o7k_krrrrirrn : Spec := ⟨59, ⟨[(0, .ptr 0 7), (1, .dat (.sl (.int .i64)))], [⟨none, 70, [.is 1 (.dat (.sl (.sl (.int .i64)))), .own 3 (.int .i64), .own 3 (.int .i64), .own 3 (.int .i64), .own 3 (.int .i64), .is 2 (.dat (.int .i64)), .own 3 (.int .i64), .own 3 (.int .i64), .nils], false, false, none, false⟩, ⟨none, 0, [], false, true, none, false⟩, ⟨none, 0, [], false, true, none, false⟩]⟩, [⟨[], [⟨(some 0), 70, [.is 1 (.any), .own 3 (.int .i64), .own 3 (.int .i64), .own 3 (.int .i64), .own 3 (.int .i64), .is 2 (.any), .own 3 (.int .i64), .own 3 (.int .i64), .nils], false, false, none, false⟩, ⟨(some 1), 0, [], false, true, none, false⟩, ⟨(some 2), 0, [], false, true, none, false⟩]⟩], fun x => fn_stack_Stack_int_Push_p0o7k_krrrrirrn x.1 x.2.1 x.2.2.1 x.2.2.2.1 x.2.2.2.2.1 x.2.2.2.2.2.1 x.2.2.2.2.2.2.1 x.2.2.2.2.2.2.2.1 x.2.2.2.2.2.2.2.2⟩
theorem stack_Stack_int_Push_p0o7k_krrrrirrn_is : SpecOk Try.prog sp_stack_Stack_int_Push_p0o7k_krrrrirrn := fn_is Try.func59 h_stack_Stack_int_Push_p0o7k_krrrrirrn (by kernel_rfl) (by kernel_rfl)
noncomputable def ok_stack_Stack_int_Push_p0o7k_krrrrirrn : OkSpec Try.prog := ⟨sp_stack_Stack_int_Push_p0o7k_krrrrirrn, stack_Stack_int_Push_p0o7k_krrrrirrn_is, Try.call59⟩

noncomputable def fn_scc_finder_meet_p0i_krrrrirrn (xb : Int) (qa0 : (List (List Int))) (qa1 : (List Int)) (qa2 : (List Int)) (qa3 : (List Int)) (qa4 : (List Int)) (qa5 : Int) (qa6 : (List Int)) (qa7 : (List Int)) : Option (((List Int) × (List Int) × (List Int) × (List Int) × Int × (List Int) × (List Int))) :=
 (getI qa2 xb).bind fun x264 => (some (qa2.set xb.toNat (IntKind.wrap .i64 (qa5 + 1)))).bind fun z271 => (getI qa3 xb).bind fun x276 => (some (qa3.set xb.toNat (IntKind.wrap .i64 (qa5 + 1)))).bind fun z283 => (fn_stack_Stack_int_Push_p0o6k_krrrrirrn ([xb] : List Int) qa0 qa1 z271 z283 qa4 (IntKind.wrap .i64 (qa5 + 1)) qa6 qa7).bind fun (l296, l297, l298, l299, l300, l301) => (fn_stack_Stack_int_Push_p0o7k_krrrrirrn ([xb] : List Int) qa0 l296 l297 l298 l299 (IntKind.wrap .i64 (qa5 + 1)) l300 l301).bind fun (l343, l344, l345, l346, l347, l348) => some ((l343, l344, l345, l346, IntKind.wrap .i64 (qa5 + 1), l347, l348))
noncomputable def h_scc_finder_meet_p0i_krrrrirrn : Hn Try.prog := .mix [([0, 1, 2, 3, 4, 5, 6, 7, 8, 9, 10, 11, 12, 13, 14, 15, 16, 17, 18], 19)] [20] [21] [4] (.wt 1000020 (.mc 0 5 15 (.cl ok_stack_Stack_int_Push_p0o6k_krrrrirrn [18] (.cl ok_stack_Stack_int_Push_p0o7k_krrrrirrn [47] (.nil)))))
noncomputable def sp_scc_finder_meet_p0i_krrrrirrn : Spec := ⟨45, ⟨[(0, .ptr 0 0), (1, .dat (.int .i64))], [⟨none, 70, [.is 1 (.dat (.sl (.sl (.int .i64)))), .own 3 (.int .i64), .own 3 (.int .i64), .own 3 (.int .i64), .own 3 (.int .i64), .dat (.int .i64), .own 3 (.int .i64), .own 3 (.int .i64), .nils], false, false, none, false⟩, ⟨none, 0, [], false, true, none, false⟩]⟩, [⟨[], [⟨(some 0), 70, [.is 1 (.any), .own 3 (.int .i64), .own 3 (.int .i64), .own 3 (.int .i64), .own 3 (.int .i64), .dat (.int .i64), .own 3 (.int .i64), .own 3 (.int .i64), .nils], false, false, none, false⟩, ⟨(some 1), 0, [], false, true, none, false⟩]⟩], fun x => fn_scc_finder_meet_p0i_krrrrirrn x.1 x.2.1 x.2.2.1 x.2.2.2.1 x.2.2.2.2.1 x.2.2.2.2.2.1 x.2.2.2.2.2.2.1 x.2.2.2.2.2.2.2.1 x.2.2.2.2.2.2.2.2⟩
theorem scc_finder_meet_p0i_krrrrirrn_is : SpecOk Try.prog sp_scc_finder_meet_p0i_krrrrirrn := fn_is Try.func45 h_scc_finder_meet_p0i_krrrrirrn (by kernel_rfl) (by kernel_rfl)
noncomputable def ok_scc_finder_meet_p0i_krrrrirrn : OkSpec Try.prog := ⟨sp_scc_finder_meet_p0i_krrrrirrn, scc_finder_meet_p0i_krrrrirrn_is, Try.call45⟩

noncomputable def fn_stack_Stack_int_Len_a6 (xa : ((List (List Int)) × (List Int) × (List Int) × (List Int) × (List Int) × Int × (List Int) × (List Int) × (List (List Int)))) : Option Int :=
 some (((xa.2.2.2.2.2.2.1.length : Nat) : Int))
noncomputable def h_stack_Stack_int_Len_a6 : Hn Try.prog := .nil
noncomputable def sp_stack_Stack_int_Len_a6 : Spec := ⟨60, ⟨[(0, .kat (.cons (.sl (.sl (.int .i64))) (.cons (.sl (.int .i64)) (.cons (.sl (.int .i64)) (.cons (.sl (.int .i64)) (.cons (.sl (.int .i64)) (.cons (.int .i64) (.cons (.one (.sl (.int .i64))) (.cons (.one (.sl (.int .i64))) (.one (.sl (.sl (.int .i64)))))))))))) 6)], []⟩, [⟨[(0, .dat (.int .i64))], []⟩], fun x => fn_stack_Stack_int_Len_a6 x⟩
theorem stack_Stack_int_Len_a6_is : SpecOk Try.prog sp_stack_Stack_int_Len_a6 := fn_is Try.func60 h_stack_Stack_int_Len_a6 (by kernel_rfl) (by kernel_rfl)
noncomputable def ok_stack_Stack_int_Len_a6 : OkSpec Try.prog := ⟨sp_stack_Stack_int_Len_a6, stack_Stack_int_Len_a6_is, Try.call60⟩

noncomputable def fn_stack_Stack_int_Top_a6 (xa : ((List (List Int)) × (List Int) × (List Int) × (List Int) × (List Int) × Int × (List Int) × (List Int) × (List (List Int)))) : Option (Int × Bool) :=
 (fn_stack_Stack_int_Len_a6 xa).bind fun i88 => cond (decide (i88 = 0)) (some ((0, false))) ((fn_stack_Stack_int_Len_a6 xa).bind fun i156 => (getI xa.2.2.2.2.2.2.1 (IntKind.wrap .i64 (i156 - 1))).bind fun x160 => some ((x160, true)))
noncomputable def h_stack_Stack_int_Top_a6 : Hn Try.prog := .cl ok_stack_Stack_int_Len_a6 [] (.tw 7 (.nil) (.mix [([0, 1, 2, 3, 4], 5)] [6, 7, 8, 9, 10] [] [] (.cl ok_stack_Stack_int_Len_a6 [] (.nil))))
noncomputable def sp_stack_Stack_int_Top_a6 : Spec := ⟨46, ⟨[(0, .kat (.cons (.sl (.sl (.int .i64))) (.cons (.sl (.int .i64)) (.cons (.sl (.int .i64)) (.cons (.sl (.int .i64)) (.cons (.sl (.int .i64)) (.cons (.int .i64) (.cons (.one (.sl (.int .i64))) (.cons (.one (.sl (.int .i64))) (.one (.sl (.sl (.int .i64)))))))))))) 6)], []⟩, [⟨[(0, .tup [.dat (.int .i64), .dat .bool])], []⟩], fun x => fn_stack_Stack_int_Top_a6 x⟩
theorem stack_Stack_int_Top_a6_is : SpecOk Try.prog sp_stack_Stack_int_Top_a6 := fn_is Try.func46 h_stack_Stack_int_Top_a6 (by kernel_rfl) (by kernel_rfl)
noncomputable def ok_stack_Stack_int_Top_a6 : OkSpec Try.prog := ⟨sp_stack_Stack_int_Top_a6, stack_Stack_int_Top_a6_is, Try.call46⟩

noncomputable def fn_stack_Stack_int_Pop_p0o6_krrrrirrn (qa0 : (List (List Int))) (qa1 : (List Int)) (qa2 : (List Int)) (qa3 : (List Int)) (qa4 : (List Int)) (qa5 : Int) (qa6 : (List Int)) (qa7 : (List Int)) : Option ((Int × Bool × (List Int) × (List Int) × (List Int) × (List Int) × (List Int) × (List Int))) :=
 (fn_stack_Stack_int_Top_a6 (qa0, qa1, qa2, qa3, qa4, qa5, qa6, qa7, [])).bind fun (i56, t57) => cond (t57) ((fn_stack_Stack_int_Len_a6 (qa0, qa1, qa2, qa3, qa4, qa5, qa6, qa7, [])).bind fun i65 => (subL qa6 (IntKind.wrap .i64 (i65 - 1)) (((qa6.length : Nat) : Int))).bind fun _ => (some (cpy qa6 (IntKind.wrap .i64 (i65 - 1) : Int).toNat (List.replicate ((((qa6.length : Nat) : Int) : Int).toNat - (IntKind.wrap .i64 (i65 - 1) : Int).toNat) 0))).bind fun z69 => (subL z69 0 (IntKind.wrap .i64 (i65 - 1))).bind fun y71 => some ((i56, t57, qa1, qa2, qa3, qa4, y71, qa7))) (some ((i56, t57, qa1, qa2, qa3, qa4, qa6, qa7)))
noncomputable def h_stack_Stack_int_Pop_p0o6_krrrrirrn : Hn Try.prog := .cl ok_stack_Stack_int_Top_a6 [3, 5, 7, 9, 11, 13, 0] (.tw 12 (.cl ok_stack_Stack_int_Len_a6 [3, 5, 7, 9, 11, 13, 0] (.tru  (.nil))) (.nil))
noncomputable def sp_stack_Stack_int_Pop_p0o6_krrrrirrn : Spec := ⟨61, ⟨[(0, .ptr 0 6)], [⟨none, 70, [.is 1 (.dat (.sl (.sl (.int .i64)))), .own 3 (.int .i64), .own 3 (.int .i64), .own 3 (.int .i64), .own 3 (.int .i64), .is 2 (.dat (.int .i64)), .own 3 (.int .i64), .own 3 (.int .i64), .nils], false, false, none, false⟩, ⟨none, 0, [], false, true, none, false⟩, ⟨none, 0, [], false, true, none, false⟩]⟩, [⟨[(0, .tup [.dat (.int .i64), .dat .bool])], [⟨(some 0), 70, [.is 1 (.any), .own 3 (.int .i64), .own 3 (.int .i64), .own 3 (.int .i64), .own 3 (.int .i64), .is 2 (.any), .own 3 (.int .i64), .own 3 (.int .i64), .nils], false, false, none, false⟩, ⟨(some 1), 0, [], false, true, none, false⟩, ⟨(some 2), 0, [], false, true, none, false⟩]⟩], fun x => fn_stack_Stack_int_Pop_p0o6_krrrrirrn x.1 x.2.1 x.2.2.1 x.2.2.2.1 x.2.2.2.2.1 x.2.2.2.2.2.1 x.2.2.2.2.2.2.1 x.2.2.2.2.2.2.2⟩
theorem stack_Stack_int_Pop_p0o6_krrrrirrn_is : SpecOk Try.prog sp_stack_Stack_int_Pop_p0o6_krrrrirrn := fn_is Try.func61 h_stack_Stack_int_Pop_p0o6_krrrrirrn (by kernel_rfl) (by kernel_rfl)
noncomputable def ok_stack_Stack_int_Pop_p0o6_krrrrirrn : OkSpec Try.prog := ⟨sp_stack_Stack_int_Pop_p0o6_krrrrirrn, stack_Stack_int_Pop_p0o6_krrrrirrn_is, Try.call61⟩

noncomputable def fn_stack_Stack_int_Len_a7 (xa : ((List (List Int)) × (List Int) × (List Int) × (List Int) × (List Int) × Int × (List Int) × (List Int) × (List (List Int)))) : Option Int :=
 some (((xa.2.2.2.2.2.2.2.1.length : Nat) : Int))
noncomputable def h_stack_Stack_int_Len_a7 : Hn Try.prog := .nil
noncomputable def sp_stack_Stack_int_Len_a7 : Spec := ⟨60, ⟨[(0, .kat (.cons (.sl (.sl (.int .i64))) (.cons (.sl (.int .i64)) (.cons (.sl (.int .i64)) (.cons (.sl (.int .i64)) (.cons (.sl (.int .i64)) (.cons (.int .i64) (.cons (.one (.sl (.int .i64))) (.cons (.one (.sl (.int .i64))) (.one (.sl (.sl (.int .i64)))))))))))) 7)], []⟩, [⟨[(0, .dat (.int .i64))], []⟩], fun x => fn_stack_Stack_int_Len_a7 x⟩
theorem stack_Stack_int_Len_a7_is : SpecOk Try.prog sp_stack_Stack_int_Len_a7 := fn_is Try.func60 h_stack_Stack_int_Len_a7 (by kernel_rfl) (by kernel_rfl)
noncomputable def ok_stack_Stack_int_Len_a7 : OkSpec Try.prog := ⟨sp_stack_Stack_int_Len_a7, stack_Stack_int_Len_a7_is, Try.call60⟩

noncomputable def fn_stack_Stack_int_Top_a7 (xa : ((List (List Int)) × (List Int) × (List Int) × (List Int) × (List Int) × Int × (List Int) × (List Int) × (List (List Int)))) : Option (Int × Bool) :=
 (fn_stack_Stack_int_Len_a7 xa).bind fun i88 => cond (decide (i88 = 0)) (some ((0, false))) ((fn_stack_Stack_int_Len_a7 xa).bind fun i156 => (getI xa.2.2.2.2.2.2.2.1 (IntKind.wrap .i64 (i156 - 1))).bind fun x160 => some ((x160, true)))
noncomputable def h_stack_Stack_int_Top_a7 : Hn Try.prog := .cl ok_stack_Stack_int_Len_a7 [] (.tw 7 (.nil) (.mix [([0, 1, 2, 3, 4], 5)] [6, 7, 8, 9, 10] [] [] (.cl ok_stack_Stack_int_Len_a7 [] (.nil))))
noncomputable def sp_stack_Stack_int_Top_a7 : Spec := ⟨46, ⟨[(0, .kat (.cons (.sl (.sl (.int .i64))) (.cons (.sl (.int .i64)) (.cons (.sl (.int .i64)) (.cons (.sl (.int .i64)) (.cons (.sl (.int .i64)) (.cons (.int .i64) (.cons (.one (.sl (.int .i64))) (.cons (.one (.sl (.int .i64))) (.one (.sl (.sl (.int .i64)))))))))))) 7)], []⟩, [⟨[(0, .tup [.dat (.int .i64), .dat .bool])], []⟩], fun x => fn_stack_Stack_int_Top_a7 x⟩
theorem stack_Stack_int_Top_a7_is : SpecOk Try.prog sp_stack_Stack_int_Top_a7 := fn_is Try.func46 h_stack_Stack_int_Top_a7 (by kernel_rfl) (by kernel_rfl)
noncomputable def ok_stack_Stack_int_Top_a7 : OkSpec Try.prog := ⟨sp_stack_Stack_int_Top_a7, stack_Stack_int_Top_a7_is, Try.call46⟩

noncomputable def fn_stack_Stack_int_Pop_p0o7_krrrrirrn (qa0 : (List (List Int))) (qa1 : (List Int)) (qa2 : (List Int)) (qa3 : (List Int)) (qa4 : (List Int)) (qa5 : Int) (qa6 : (List Int)) (qa7 : (List Int)) : Option ((Int × Bool × (List Int) × (List Int) × (List Int) × (List Int) × (List Int) × (List Int))) :=
 (fn_stack_Stack_int_Top_a7 (qa0, qa1, qa2, qa3, qa4, qa5, qa6, qa7, [])).bind fun (i56, t57) => cond (t57) ((fn_stack_Stack_int_Len_a7 (qa0, qa1, qa2, qa3, qa4, qa5, qa6, qa7, [])).bind fun i65 => (subL qa7 (IntKind.wrap .i64 (i65 - 1)) (((qa7.length : Nat) : Int))).bind fun _ => (some (cpy qa7 (IntKind.wrap .i64 (i65 - 1) : Int).toNat (List.replicate ((((qa7.length : Nat) : Int) : Int).toNat - (IntKind.wrap .i64 (i65 - 1) : Int).toNat) 0))).bind fun z69 => (subL z69 0 (IntKind.wrap .i64 (i65 - 1))).bind fun y71 => some ((i56, t57, qa1, qa2, qa3, qa4, qa6, y71))) (some ((i56, t57, qa1, qa2, qa3, qa4, qa6, qa7)))
noncomputable def h_stack_Stack_int_Pop_p0o7_krrrrirrn : Hn Try.prog := .cl ok_stack_Stack_int_Top_a7 [3, 5, 7, 9, 11, 13, 0] (.tw 12 (.cl ok_stack_Stack_int_Len_a7 [3, 5, 7, 9, 11, 13, 0] (.tru  (.nil))) (.nil))
noncomputable def sp_stack_Stack_int_Pop_p0o7_krrrrirrn : Spec := ⟨61, ⟨[(0, .ptr 0 7)], [⟨none, 70, [.is 1 (.dat (.sl (.sl (.int .i64)))), .own 3 (.int .i64), .own 3 (.int .i64), .own 3 (.int .i64), .own 3 (.int .i64), .is 2 (.dat (.int .i64)), .own 3 (.int .i64), .own 3 (.int .i64), .nils], false, false, none, false⟩, ⟨none, 0, [], false, true, none, false⟩, ⟨none, 0, [], false, true, none, false⟩]⟩, [⟨[(0, .tup [.dat (.int .i64), .dat .bool])], [⟨(some 0), 70, [.is 1 (.any), .own 3 (.int .i64), .own 3 (.int .i64), .own 3 (.int .i64), .own 3 (.int .i64), .is 2 (.any), .own 3 (.int .i64), .own 3 (.int .i64), .nils], false, false, none, false⟩, ⟨(some 1), 0, [], false, true, none, false⟩, ⟨(some 2), 0, [], false, true, none, false⟩]⟩], fun x => fn_stack_Stack_int_Pop_p0o7_krrrrirrn x.1 x.2.1 x.2.2.1 x.2.2.2.1 x.2.2.2.2.1 x.2.2.2.2.2.1 x.2.2.2.2.2.2.1 x.2.2.2.2.2.2.2⟩
theorem stack_Stack_int_Pop_p0o7_krrrrirrn_is : SpecOk Try.prog sp_stack_Stack_int_Pop_p0o7_krrrrirrn := fn_is Try.func61 h_stack_Stack_int_Pop_p0o7_krrrrirrn (by kernel_rfl) (by kernel_rfl)
noncomputable def ok_stack_Stack_int_Pop_p0o7_krrrrirrn : OkSpec Try.prog := ⟨sp_stack_Stack_int_Pop_p0o7_krrrrirrn, stack_Stack_int_Pop_p0o7_krrrrirrn_is, Try.call61⟩
noncomputable def fn_scc_finder_take_p0i_krrrrirrn_l1 (xb : Int) (qa0 : (List (List Int))) (qa5 : Int) : ((List Int) × (List Int) × (List Int) × (List Int) × (List Int) × (List Int) × (List Int)) → Option (((List Int) × (List Int) × (List Int) × (List Int) × (List Int) × (List Int) × (List Int)) ⊕ ((List Int) × (List Int) × (List Int) × (List Int) × (List Int) × (List Int) × (List Int))) := fun ((l1191, l1196, l1201, l1206, l1211, l1216, l1221) : ((List Int) × (List Int) × (List Int) × (List Int) × (List Int) × (List Int) × (List Int))) => (getI l1211 xb).bind fun x1335 => cond (decide (x1335 = 0)) ((fn_stack_Stack_int_Pop_p0o7_krrrrirrn qa0 l1196 l1201 l1206 l1211 qa5 l1216 l1221).bind fun (i1345, t1346, l1347, l1348, l1349, l1350, l1351, l1352) => (getI l1350 i1345).bind fun x1386 => (some (l1350.set i1345.toNat 1)).bind fun z1393 => (app l1191 ([i1345] : List Int)).bind fun z1401 => some (.inl (z1401, l1347, l1348, l1349, z1393, l1351, l1352))) (some (.inr (((l1191, l1196, l1201, l1206, l1211, l1216, l1221)))))
noncomputable def fn_scc_finder_take_p0i_krrrrirrn (xb : Int) (qa0 : (List (List Int))) (qa1 : (List Int)) (qa2 : (List Int)) (qa3 : (List Int)) (qa4 : (List Int)) (qa5 : Int) (qa6 : (List Int)) (qa7 : (List Int)) : Option (((List Int) × (List Int) × (List Int) × (List Int) × (List Int) × (List Int) × (List (List Int)))) :=
 (loop (fn_scc_finder_take_p0i_krrrrirrn_l1 xb qa0 qa5) ([], qa1, qa2, qa3, qa4, qa6, qa7) : Option (((List Int) × (List Int) × (List Int) × (List Int) × (List Int) × (List Int) × (List Int)))).bind fun (l1047, l1052, l1057, l1062, l1067, l1072, l1077) => (srt l1047).bind fun l1407 => (app ([] : List (List Int)) (([l1407] : List (List Int)) : List (List Int))).bind fun z1409 => some ((l1052, l1057, l1062, l1067, l1072, l1077, z1409))
noncomputable def h_scc_finder_take_p0i_krrrrirrn : Hn Try.prog := .jn [] ⟨[(4, .own 3 (.int .i64))], [⟨(some 0), 70, [.is 1 (.any), .own 3 (.int .i64), .own 3 (.int .i64), .own 3 (.int .i64), .own 3 (.int .i64), .is 2 (.any), .own 3 (.int .i64), .own 3 (.int .i64), .nils], false, false, none, false⟩, ⟨(some 1), 0, [], false, true, none, false⟩, ⟨(some 2), 0, [], false, true, none, false⟩]⟩ [13, 11, 9, 7, 5, 3, 0] (.lp ⟨[(4, .own 3 (.int .i64))], [⟨(some 0), 70, [.is 1 (.any), .own 3 (.int .i64), .own 3 (.int .i64), .own 3 (.int .i64), .own 3 (.int .i64), .is 2 (.any), .own 3 (.int .i64), .own 3 (.int .i64), .nils], false, false, none, false⟩, ⟨(some 1), 0, [], false, true, none, false⟩, ⟨(some 2), 0, [], false, true, none, false⟩]⟩ (.tw 14 (.cl ok_stack_Stack_int_Pop_p0o7_krrrrirrn [] (.nil)) (.nil))) (.cl ok_Sort [] (.ot (.row 3 (.dat (.int .i64))) (.ot (.row 3 (.dat (.int .i64))) (.nil))))
noncomputable def sp_scc_finder_take_p0i_krrrrirrn : Spec := ⟨62, ⟨[(0, .ptr 0 0), (1, .dat (.int .i64))], [⟨none, 70, [.is 1 (.dat (.sl (.sl (.int .i64)))), .own 3 (.int .i64), .own 3 (.int .i64), .own 3 (.int .i64), .own 3 (.int .i64), .is 2 (.dat (.int .i64)), .own 3 (.int .i64), .own 3 (.int .i64), .nils], false, false, none, false⟩, ⟨none, 0, [], false, true, none, false⟩, ⟨none, 0, [], false, true, none, false⟩]⟩, [⟨[], [⟨(some 0), 70, [.is 1 (.any), .own 3 (.int .i64), .own 3 (.int .i64), .own 3 (.int .i64), .own 3 (.int .i64), .is 2 (.any), .own 3 (.int .i64), .own 3 (.int .i64), .od (.row 28 (.row 3 (.dat (.int .i64))))], false, false, none, false⟩, ⟨(some 1), 0, [], false, true, none, false⟩, ⟨(some 2), 0, [], false, true, none, false⟩]⟩], fun x => fn_scc_finder_take_p0i_krrrrirrn x.1 x.2.1 x.2.2.1 x.2.2.2.1 x.2.2.2.2.1 x.2.2.2.2.2.1 x.2.2.2.2.2.2.1 x.2.2.2.2.2.2.2.1 x.2.2.2.2.2.2.2.2⟩
theorem scc_finder_take_p0i_krrrrirrn_is : SpecOk Try.prog sp_scc_finder_take_p0i_krrrrirrn := fn_is Try.func62 h_scc_finder_take_p0i_krrrrirrn (by kernel_rfl) (by kernel_rfl)
noncomputable def ok_scc_finder_take_p0i_krrrrirrn : OkSpec Try.prog := ⟨sp_scc_finder_take_p0i_krrrrirrn, scc_finder_take_p0i_krrrrirrn_is, Try.call62⟩

noncomputable def fn_scc_finder_leave_p0i_krrrrirrn (xb : Int) (qa0 : (List (List Int))) (qa1 : (List Int)) (qa2 : (List Int)) (qa3 : (List Int)) (qa4 : (List Int)) (qa5 : Int) (qa6 : (List Int)) (qa7 : (List Int)) : Option (((List Int) × (List Int) × (List Int) × (List Int) × (List Int) × (List Int) × (List (List Int)))) :=
 (fn_stack_Stack_int_Pop_p0o6_krrrrirrn qa0 qa1 qa2 qa3 qa4 qa5 qa6 qa7).bind fun (i440, t441, l442, l443, l444, l445, l446, l447) => ((getI l444 xb).bind fun x655 => (getI l443 xb).bind fun x662 => cond (decide (x655 = x662)) ((fn_scc_finder_take_p0i_krrrrirrn xb qa0 l442 l443 l444 l445 qa5 l446 l447).bind fun (l672, l673, l674, l675, l676, l677, l678) => some ((l672, l673, l674, l675, l676, l677, l678))) (some ((l442, l443, l444, l445, l446, l447, []))) : Option (((List Int) × (List Int) × (List Int) × (List Int) × (List Int) × (List Int) × (List (List Int))))).bind fun (l581, l586, l591, l596, l601, l606, l611) => (fn_stack_Stack_int_Top_a6 (qa0, l581, l586, l591, l596, qa5, l601, l606, l611)).bind fun (i722, t723) => cond (t723) ((getI l591 i722).bind fun x817 => (getI l591 xb).bind fun x824 => (getI l591 i722).bind fun x831 => (some (l591.set i722.toNat (if x824 < x817 then x824 else x817))).bind fun z838 => some ((l581, l586, z838, l596, l601, l606, l611))) (some ((l581, l586, l591, l596, l601, l606, l611)))
noncomputable def h_scc_finder_leave_p0i_krrrrirrn : Hn Try.prog := .cl ok_stack_Stack_int_Pop_p0o6_krrrrirrn [] (.sq [] ⟨[], [⟨(some 0), 70, [.is 1 (.any), .own 3 (.int .i64), .own 3 (.int .i64), .own 3 (.int .i64), .own 3 (.int .i64), .is 2 (.any), .own 3 (.int .i64), .own 3 (.int .i64), .od (.row 28 (.row 3 (.dat (.int .i64))))], false, false, none, false⟩, ⟨(some 1), 0, [], false, true, none, false⟩, ⟨(some 2), 0, [], false, true, none, false⟩]⟩ [39, 37, 35, 33, 31, 29, 0] (.mix [] [0, 1, 2, 3, 4, 5, 6, 7, 8, 9, 10, 11, 12, 13, 14] [] [] (.tw 24 (.cl ok_scc_finder_take_p0i_krrrrirrn [] (.nil)) (.nil))) (.cl ok_stack_Stack_int_Top_a6 [42, 44, 46, 48, 50, 52, 54, 0] (.tw 35 (.mix [([0, 1, 2, 3, 4, 5, 6, 7, 8, 9, 10, 11, 12, 13, 14, 15, 16, 17, 18], 19)] [20] [21] [] (.nil)) (.nil))))
noncomputable def sp_scc_finder_leave_p0i_krrrrirrn : Spec := ⟨47, ⟨[(0, .ptr 0 0), (1, .dat (.int .i64))], [⟨none, 70, [.is 1 (.dat (.sl (.sl (.int .i64)))), .own 3 (.int .i64), .own 3 (.int .i64), .own 3 (.int .i64), .own 3 (.int .i64), .is 2 (.dat (.int .i64)), .own 3 (.int .i64), .own 3 (.int .i64), .nils], false, false, none, false⟩, ⟨none, 0, [], false, true, none, false⟩, ⟨none, 0, [], false, true, none, false⟩]⟩, [⟨[], [⟨(some 0), 70, [.is 1 (.any), .own 3 (.int .i64), .own 3 (.int .i64), .own 3 (.int .i64), .own 3 (.int .i64), .is 2 (.any), .own 3 (.int .i64), .own 3 (.int .i64), .od (.row 28 (.row 3 (.dat (.int .i64))))], false, false, none, false⟩, ⟨(some 1), 0, [], false, true, none, false⟩, ⟨(some 2), 0, [], false, true, none, false⟩]⟩], fun x => fn_scc_finder_leave_p0i_krrrrirrn x.1 x.2.1 x.2.2.1 x.2.2.2.1 x.2.2.2.2.1 x.2.2.2.2.2.1 x.2.2.2.2.2.2.1 x.2.2.2.2.2.2.2.1 x.2.2.2.2.2.2.2.2⟩
theorem scc_finder_leave_p0i_krrrrirrn_is : SpecOk Try.prog sp_scc_finder_leave_p0i_krrrrirrn := fn_is Try.func47 h_scc_finder_leave_p0i_krrrrirrn (by kernel_rfl) (by kernel_rfl)
noncomputable def ok_scc_finder_leave_p0i_krrrrirrn : OkSpec Try.prog := ⟨sp_scc_finder_leave_p0i_krrrrirrn, scc_finder_leave_p0i_krrrrirrn_is, Try.call47⟩

noncomputable def fn_stack_Stack_int_Push_p0o6k_krrrrirrod (xb : (List Int)) (qa0 : (List (List Int))) (qa1 : (List Int)) (qa2 : (List Int)) (qa3 : (List Int)) (qa4 : (List Int)) (qa5 : Int) (qa6 : (List Int)) (qa7 : (List Int)) (qa8 : (List (List Int))) : Option (((List Int) × (List Int) × (List Int) × (List Int) × (List Int) × (List Int) × (List (List Int)))) :=
 (app qa6 xb).bind fun z51 => some ((qa1, qa2, qa3, qa4, z51, qa7, qa8))
noncomputable def h_stack_Stack_int_Push_p0o6k_krrrrirrod : Hn Try.prog := .nil
noncomputable def sp_stack_Stack_int_Push_p0o6k_krrrrirrod : Spec := ⟨59, ⟨[(0, .ptr 0 6), (1, .dat (.sl (.int .i64)))], [⟨none, 70, [.is 1 (.dat (.sl (.sl (.int .i64)))), .own 3 (.int .i64), .own 3 (.int .i64), .own 3 (.int .i64), .own 3 (.int .i64), .is 2 (.dat (.int .i64)), .own 3 (.int .i64), .own 3 (.int .i64), .od (.row 28 (.row 3 (.dat (.int .i64))))], false, false, none, false⟩, ⟨none, 0, [], false, true, none, false⟩, ⟨none, 0, [], false, true, none, false⟩]⟩, [⟨[], [⟨(some 0), 70, [.is 1 (.any), .own 3 (.int .i64), .own 3 (.int .i64), .own 3 (.int .i64), .own 3 (.int .i64), .is 2 (.any), .own 3 (.int .i64), .own 3 (.int .i64), .od (.row 28 (.row 3 (.dat (.int .i64))))], false, false, none, false⟩, ⟨(some 1), 0, [], false, true, none, false⟩, ⟨(some 2), 0, [], false, true, none, false⟩]⟩], fun x => fn_stack_Stack_int_Push_p0o6k_krrrrirrod x.1 x.2.1 x.2.2.1 x.2.2.2.1 x.2.2.2.2.1 x.2.2.2.2.2.1 x.2.2.2.2.2.2.1 x.2.2.2.2.2.2.2.1 x.2.2.2.2.2.2.2.2.1 x.2.2.2.2.2.2.2.2.2⟩
theorem stack_Stack_int_Push_p0o6k_krrrrirrod_is : SpecOk Try.prog sp_stack_Stack_int_Push_p0o6k_krrrrirrod := fn_is Try.func59 h_stack_Stack_int_Push_p0o6k_krrrrirrod (by kernel_rfl) (by kernel_rfl)
noncomputable def ok_stack_Stack_int_Push_p0o6k_krrrrirrod : OkSpec Try.prog := ⟨sp_stack_Stack_int_Push_p0o6k_krrrrirrod, stack_Stack_int_Push_p0o6k_krrrrirrod_is, Try.call59⟩

noncomputable def fn_stack_Stack_int_Push_p0o7k_krrrrirrod (xb : (List Int)) (qa0 : (List (List Int))) (qa1 : (List Int)) (qa2 : (List Int)) (qa3 : (List Int)) (qa4 : (List Int)) (qa5 : Int) (qa6 : (List Int)) (qa7 : (List Int)) (qa8 : (List (List Int))) : Option (((List Int) × (List Int) × (List Int) × (List Int) × (List Int) × (List Int) × (List (List Int)))) :=
 (app qa7 xb).bind fun z51 => some ((qa1, qa2, qa3, qa4, qa6, z51, qa8))
noncomputable def h_stack_Stack_int_Push_p0o7k_krrrrirrod : Hn Try.prog := .nil
noncomputable def sp_stack_Stack_int_Push_p0o7k_krrrrirrod : Spec := ⟨59, ⟨[(0, .ptr 0 7), (1, .dat (.sl (.int .i64)))], [⟨none, 70, [.is 1 (.dat (.sl (.sl (.int .i64)))), .own 3 (.int .i64), .own 3 (.int .i64), .own 3 (.int .i64), .own 3 (.int .i64), .is 2 (.dat (.int .i64)), .own 3 (.int .i64), .own 3 (.int .i64), .od (.row 28 (.row 3 (.dat (.int .i64))))], false, false, none, false⟩, ⟨none, 0, [], false, true, none, false⟩, ⟨none, 0, [], false, true, none, false⟩]⟩, [⟨[], [⟨(some 0), 70, [.is 1 (.any), .own 3 (.int .i64), .own 3 (.int .i64), .own 3 (.int .i64), .own 3 (.int .i64), .is 2 (.any), .own 3 (.int .i64), .own 3 (.int .i64), .od (.row 28 (.row 3 (.dat (.int .i64))))], false, false, none, false⟩, ⟨(some 1), 0, [], false, true, none, false⟩, ⟨(some 2), 0, [], false, true, none, false⟩]⟩], fun x => fn_stack_Stack_int_Push_p0o7k_krrrrirrod x.1 x.2.1 x.2.2.1 x.2.2.2.1 x.2.2.2.2.1 x.2.2.2.2.2.1 x.2.2.2.2.2.2.1 x.2.2.2.2.2.2.2.1 x.2.2.2.2.2.2.2.2.1 x.2.2.2.2.2.2.2.2.2⟩
theorem stack_Stack_int_Push_p0o7k_krrrrirrod_is : SpecOk Try.prog sp_stack_Stack_int_Push_p0o7k_krrrrirrod := fn_is Try.func59 h_stack_Stack_int_Push_p0o7k_krrrrirrod (by kernel_rfl) (by kernel_rfl)
noncomputable def ok_stack_Stack_int_Push_p0o7k_krrrrirrod : OkSpec Try.prog := ⟨sp_stack_Stack_int_Push_p0o7k_krrrrirrod, stack_Stack_int_Push_p0o7k_krrrrirrod_is, Try.call59⟩

noncomputable def fn_scc_finder_meet_p0i_krrrrirrod (xb : Int) (qa0 : (List (List Int))) (qa1 : (List Int)) (qa2 : (List Int)) (qa3 : (List Int)) (qa4 : (List Int)) (qa5 : Int) (qa6 : (List Int)) (qa7 : (List Int)) (qa8 : (List (List Int))) : Option (((List Int) × (List Int) × (List Int) × (List Int) × Int × (List Int) × (List Int) × (List (List Int)))) :=
 (getI qa2 xb).bind fun x416 => (some (qa2.set xb.toNat (IntKind.wrap .i64 (qa5 + 1)))).bind fun z423 => (getI qa3 xb).bind fun x428 => (some (qa3.set xb.toNat (IntKind.wrap .i64 (qa5 + 1)))).bind fun z435 => (fn_stack_Stack_int_Push_p0o6k_krrrrirrod ([xb] : List Int) qa0 qa1 z423 z435 qa4 (IntKind.wrap .i64 (qa5 + 1)) qa6 qa7 qa8).bind fun (l497, l498, l499, l500, l501, l502, l503) => (fn_stack_Stack_int_Push_p0o7k_krrrrirrod ([xb] : List Int) qa0 l497 l498 l499 l500 (IntKind.wrap .i64 (qa5 + 1)) l501 l502 l503).bind fun (l595, l596, l597, l598, l599, l600, l601) => some ((l595, l596, l597, l598, IntKind.wrap .i64 (qa5 + 1), l599, l600, l601))
noncomputable def h_scc_finder_meet_p0i_krrrrirrod : Hn Try.prog := .mix [([0, 1, 2, 3, 4, 5, 6, 7, 8, 9, 10, 11, 12, 13, 14, 15, 16, 17, 18], 19)] [20] [21] [4] (.wt 1000022 (.mc 0 5 17 (.cl ok_stack_Stack_int_Push_p0o6k_krrrrirrod [20] (.cl ok_stack_Stack_int_Push_p0o7k_krrrrirrod [53] (.nil)))))
noncomputable def sp_scc_finder_meet_p0i_krrrrirrod : Spec := ⟨45, ⟨[(0, .ptr 0 0), (1, .dat (.int .i64))], [⟨none, 70, [.is 1 (.dat (.sl (.sl (.int .i64)))), .own 3 (.int .i64), .own 3 (.int .i64), .own 3 (.int .i64), .own 3 (.int .i64), .dat (.int .i64), .own 3 (.int .i64), .own 3 (.int .i64), .od (.row 28 (.row 3 (.dat (.int .i64))))], false, false, none, false⟩, ⟨none, 0, [], false, true, none, false⟩]⟩, [⟨[], [⟨(some 0), 70, [.is 1 (.any), .own 3 (.int .i64), .own 3 (.int .i64), .own 3 (.int .i64), .own 3 (.int .i64), .dat (.int .i64), .own 3 (.int .i64), .own 3 (.int .i64), .od (.row 28 (.row 3 (.dat (.int .i64))))], false, false, none, false⟩, ⟨(some 1), 0, [], false, true, none, false⟩]⟩], fun x => fn_scc_finder_meet_p0i_krrrrirrod x.1 x.2.1 x.2.2.1 x.2.2.2.1 x.2.2.2.2.1 x.2.2.2.2.2.1 x.2.2.2.2.2.2.1 x.2.2.2.2.2.2.2.1 x.2.2.2.2.2.2.2.2.1 x.2.2.2.2.2.2.2.2.2⟩
theorem scc_finder_meet_p0i_krrrrirrod_is : SpecOk Try.prog sp_scc_finder_meet_p0i_krrrrirrod := fn_is Try.func45 h_scc_finder_meet_p0i_krrrrirrod (by kernel_rfl) (by kernel_rfl)
noncomputable def ok_scc_finder_meet_p0i_krrrrirrod : OkSpec Try.prog := ⟨sp_scc_finder_meet_p0i_krrrrirrod, scc_finder_meet_p0i_krrrrirrod_is, Try.call45⟩

noncomputable def fn_stack_Stack_int_Pop_p0o6_krrrrirrod (qa0 : (List (List Int))) (qa1 : (List Int)) (qa2 : (List Int)) (qa3 : (List Int)) (qa4 : (List Int)) (qa5 : Int) (qa6 : (List Int)) (qa7 : (List Int)) (qa8 : (List (List Int))) : Option ((Int × Bool × (List Int) × (List Int) × (List Int) × (List Int) × (List Int) × (List Int) × (List (List Int)))) :=
 (fn_stack_Stack_int_Top_a6 (qa0, qa1, qa2, qa3, qa4, qa5, qa6, qa7, qa8)).bind fun (i85, t86) => cond (t86) ((fn_stack_Stack_int_Len_a6 (qa0, qa1, qa2, qa3, qa4, qa5, qa6, qa7, qa8)).bind fun i99 => (subL qa6 (IntKind.wrap .i64 (i99 - 1)) (((qa6.length : Nat) : Int))).bind fun _ => (some (cpy qa6 (IntKind.wrap .i64 (i99 - 1) : Int).toNat (List.replicate ((((qa6.length : Nat) : Int) : Int).toNat - (IntKind.wrap .i64 (i99 - 1) : Int).toNat) 0))).bind fun z105 => (subL z105 0 (IntKind.wrap .i64 (i99 - 1))).bind fun y112 => some ((i85, t86, qa1, qa2, qa3, qa4, y112, qa7, qa8))) (some ((i85, t86, qa1, qa2, qa3, qa4, qa6, qa7, qa8)))
noncomputable def h_stack_Stack_int_Pop_p0o6_krrrrirrod : Hn Try.prog := .cl ok_stack_Stack_int_Top_a6 [3, 5, 7, 9, 11, 13, 15, 0] (.tw 12 (.cl ok_stack_Stack_int_Len_a6 [3, 5, 7, 9, 11, 13, 15, 0] (.tru  (.nil))) (.nil))
noncomputable def sp_stack_Stack_int_Pop_p0o6_krrrrirrod : Spec := ⟨61, ⟨[(0, .ptr 0 6)], [⟨none, 70, [.is 1 (.dat (.sl (.sl (.int .i64)))), .own 3 (.int .i64), .own 3 (.int .i64), .own 3 (.int .i64), .own 3 (.int .i64), .is 2 (.dat (.int .i64)), .own 3 (.int .i64), .own 3 (.int .i64), .od (.row 28 (.row 3 (.dat (.int .i64))))], false, false, none, false⟩, ⟨none, 0, [], false, true, none, false⟩, ⟨none, 0, [], false, true, none, false⟩]⟩, [⟨[(0, .tup [.dat (.int .i64), .dat .bool])], [⟨(some 0), 70, [.is 1 (.any), .own 3 (.int .i64), .own 3 (.int .i64), .own 3 (.int .i64), .own 3 (.int .i64), .is 2 (.any), .own 3 (.int .i64), .own 3 (.int .i64), .od (.row 28 (.row 3 (.dat (.int .i64))))], false, false, none, false⟩, ⟨(some 1), 0, [], false, true, none, false⟩, ⟨(some 2), 0, [], false, true, none, false⟩]⟩], fun x => fn_stack_Stack_int_Pop_p0o6_krrrrirrod x.1 x.2.1 x.2.2.1 x.2.2.2.1 x.2.2.2.2.1 x.2.2.2.2.2.1 x.2.2.2.2.2.2.1 x.2.2.2.2.2.2.2.1 x.2.2.2.2.2.2.2.2⟩
theorem stack_Stack_int_Pop_p0o6_krrrrirrod_is : SpecOk Try.prog sp_stack_Stack_int_Pop_p0o6_krrrrirrod := fn_is Try.func61 h_stack_Stack_int_Pop_p0o6_krrrrirrod (by kernel_rfl) (by kernel_rfl)
noncomputable def ok_stack_Stack_int_Pop_p0o6_krrrrirrod : OkSpec Try.prog := ⟨sp_stack_Stack_int_Pop_p0o6_krrrrirrod, stack_Stack_int_Pop_p0o6_krrrrirrod_is, Try.call61⟩

noncomputable def fn_stack_Stack_int_Pop_p0o7_krrrrirrod (qa0 : (List (List Int))) (qa1 : (List Int)) (qa2 : (List Int)) (qa3 : (List Int)) (qa4 : (List Int)) (qa5 : Int) (qa6 : (List Int)) (qa7 : (List Int)) (qa8 : (List (List Int))) : Option ((Int × Bool × (List Int) × (List Int) × (List Int) × (List Int) × (List Int) × (List Int) × (List (List Int)))) :=
 (fn_stack_Stack_int_Top_a7 (qa0, qa1, qa2, qa3, qa4, qa5, qa6, qa7, qa8)).bind fun (i85, t86) => cond (t86) ((fn_stack_Stack_int_Len_a7 (qa0, qa1, qa2, qa3, qa4, qa5, qa6, qa7, qa8)).bind fun i99 => (subL qa7 (IntKind.wrap .i64 (i99 - 1)) (((qa7.length : Nat) : Int))).bind fun _ => (some (cpy qa7 (IntKind.wrap .i64 (i99 - 1) : Int).toNat (List.replicate ((((qa7.length : Nat) : Int) : Int).toNat - (IntKind.wrap .i64 (i99 - 1) : Int).toNat) 0))).bind fun z105 => (subL z105 0 (IntKind.wrap .i64 (i99 - 1))).bind fun y112 => some ((i85, t86, qa1, qa2, qa3, qa4, qa6, y112, qa8))) (some ((i85, t86, qa1, qa2, qa3, qa4, qa6, qa7, qa8)))
noncomputable def h_stack_Stack_int_Pop_p0o7_krrrrirrod : Hn Try.prog := .cl ok_stack_Stack_int_Top_a7 [3, 5, 7, 9, 11, 13, 15, 0] (.tw 12 (.cl ok_stack_Stack_int_Len_a7 [3, 5, 7, 9, 11, 13, 15, 0] (.tru  (.nil))) (.nil))
noncomputable def sp_stack_Stack_int_Pop_p0o7_krrrrirrod : Spec := ⟨61, ⟨[(0, .ptr 0 7)], [⟨none, 70, [.is 1 (.dat (.sl (.sl (.int .i64)))), .own 3 (.int .i64), .own 3 (.int .i64), .own 3 (.int .i64), .own 3 (.int .i64), .is 2 (.dat (.int .i64)), .own 3 (.int .i64), .own 3 (.int .i64), .od (.row 28 (.row 3 (.dat (.int .i64))))], false, false, none, false⟩, ⟨none, 0, [], false, true, none, false⟩, ⟨none, 0, [], false, true, none, false⟩]⟩, [⟨[(0, .tup [.dat (.int .i64), .dat .bool])], [⟨(some 0), 70, [.is 1 (.any), .own 3 (.int .i64), .own 3 (.int .i64), .own 3 (.int .i64), .own 3 (.int .i64), .is 2 (.any), .own 3 (.int .i64), .own 3 (.int .i64), .od (.row 28 (.row 3 (.dat (.int .i64))))], false, false, none, false⟩, ⟨(some 1), 0, [], false, true, none, false⟩, ⟨(some 2), 0, [], false, true, none, false⟩]⟩], fun x => fn_stack_Stack_int_Pop_p0o7_krrrrirrod x.1 x.2.1 x.2.2.1 x.2.2.2.1 x.2.2.2.2.1 x.2.2.2.2.2.1 x.2.2.2.2.2.2.1 x.2.2.2.2.2.2.2.1 x.2.2.2.2.2.2.2.2⟩
theorem stack_Stack_int_Pop_p0o7_krrrrirrod_is : SpecOk Try.prog sp_stack_Stack_int_Pop_p0o7_krrrrirrod := fn_is Try.func61 h_stack_Stack_int_Pop_p0o7_krrrrirrod (by kernel_rfl) (by kernel_rfl)
noncomputable def ok_stack_Stack_int_Pop_p0o7_krrrrirrod : OkSpec Try.prog := ⟨sp_stack_Stack_int_Pop_p0o7_krrrrirrod, stack_Stack_int_Pop_p0o7_krrrrirrod_is, Try.call61⟩
noncomputable def fn_scc_finder_take_p0i_krrrrirrod_l1 (xb : Int) (qa0 : (List (List Int))) (qa5 : Int) : ((List Int) × (List Int) × (List Int) × (List Int) × (List Int) × (List Int) × (List Int) × (List (List Int))) → Option (((List Int) × (List Int) × (List Int) × (List Int) × (List Int) × (List Int) × (List Int) × (List (List Int))) ⊕ ((List Int) × (List Int) × (List Int) × (List Int) × (List Int) × (List Int) × (List Int) × (List (List Int)))) := fun ((l1977, l1982, l1987, l1992, l1997, l2002, l2007, l2012) : ((List Int) × (List Int) × (List Int) × (List Int) × (List Int) × (List Int) × (List Int) × (List (List Int)))) => (getI l1997 xb).bind fun x2207 => cond (decide (x2207 = 0)) ((fn_stack_Stack_int_Pop_p0o7_krrrrirrod qa0 l1982 l1987 l1992 l1997 qa5 l2002 l2007 l2012).bind fun (i2262, t2263, l2264, l2265, l2266, l2267, l2268, l2269, l2270) => (getI l2267 i2262).bind fun x2317 => (some (l2267.set i2262.toNat 1)).bind fun z2324 => (app l1977 ([i2262] : List Int)).bind fun z2341 => some (.inl (z2341, l2264, l2265, l2266, z2324, l2268, l2269, l2270))) (some (.inr (((l1977, l1982, l1987, l1992, l1997, l2002, l2007, l2012)))))
noncomputable def fn_scc_finder_take_p0i_krrrrirrod (xb : Int) (qa0 : (List (List Int))) (qa1 : (List Int)) (qa2 : (List Int)) (qa3 : (List Int)) (qa4 : (List Int)) (qa5 : Int) (qa6 : (List Int)) (qa7 : (List Int)) (qa8 : (List (List Int))) : Option (((List Int) × (List Int) × (List Int) × (List Int) × (List Int) × (List Int) × (List (List Int)))) :=
 (loop (fn_scc_finder_take_p0i_krrrrirrod_l1 xb qa0 qa5) ([], qa1, qa2, qa3, qa4, qa6, qa7, qa8) : Option (((List Int) × (List Int) × (List Int) × (List Int) × (List Int) × (List Int) × (List Int) × (List (List Int))))).bind fun (l1752, l1757, l1762, l1767, l1772, l1777, l1782, l1787) => (srt l1752).bind fun l2348 => (app (l1787 : List (List Int)) (([l2348] : List (List Int)) : List (List Int))).bind fun z2353 => some ((l1757, l1762, l1767, l1772, l1777, l1782, z2353))
noncomputable def h_scc_finder_take_p0i_krrrrirrod : Hn Try.prog := .jn [] ⟨[(4, .own 3 (.int .i64))], [⟨(some 0), 70, [.is 1 (.any), .own 3 (.int .i64), .own 3 (.int .i64), .own 3 (.int .i64), .own 3 (.int .i64), .is 2 (.any), .own 3 (.int .i64), .own 3 (.int .i64), .od (.row 28 (.row 3 (.dat (.int .i64))))], false, false, none, false⟩, ⟨(some 1), 0, [], false, true, none, false⟩, ⟨(some 2), 0, [], false, true, none, false⟩]⟩ [13, 11, 9, 7, 5, 3, 0, 15] (.lp ⟨[(4, .own 3 (.int .i64))], [⟨(some 0), 70, [.is 1 (.any), .own 3 (.int .i64), .own 3 (.int .i64), .own 3 (.int .i64), .own 3 (.int .i64), .is 2 (.any), .own 3 (.int .i64), .own 3 (.int .i64), .od (.row 28 (.row 3 (.dat (.int .i64))))], false, false, none, false⟩, ⟨(some 1), 0, [], false, true, none, false⟩, ⟨(some 2), 0, [], false, true, none, false⟩]⟩ (.tw 14 (.cl ok_stack_Stack_int_Pop_p0o7_krrrrirrod [] (.nil)) (.nil))) (.cl ok_Sort [] (.ot (.row 3 (.dat (.int .i64))) (.ot (.row 3 (.dat (.int .i64))) (.nil))))
noncomputable def sp_scc_finder_take_p0i_krrrrirrod : Spec := ⟨62, ⟨[(0, .ptr 0 0), (1, .dat (.int .i64))], [⟨none, 70, [.is 1 (.dat (.sl (.sl (.int .i64)))), .own 3 (.int .i64), .own 3 (.int .i64), .own 3 (.int .i64), .own 3 (.int .i64), .is 2 (.dat (.int .i64)), .own 3 (.int .i64), .own 3 (.int .i64), .od (.row 28 (.row 3 (.dat (.int .i64))))], false, false, none, false⟩, ⟨none, 0, [], false, true, none, false⟩, ⟨none, 0, [], false, true, none, false⟩]⟩, [⟨[], [⟨(some 0), 70, [.is 1 (.any), .own 3 (.int .i64), .own 3 (.int .i64), .own 3 (.int .i64), .own 3 (.int .i64), .is 2 (.any), .own 3 (.int .i64), .own 3 (.int .i64), .od (.row 28 (.row 3 (.dat (.int .i64))))], false, false, none, false⟩, ⟨(some 1), 0, [], false, true, none, false⟩, ⟨(some 2), 0, [], false, true, none, false⟩]⟩], fun x => fn_scc_finder_take_p0i_krrrrirrod x.1 x.2.1 x.2.2.1 x.2.2.2.1 x.2.2.2.2.1 x.2.2.2.2.2.1 x.2.2.2.2.2.2.1 x.2.2.2.2.2.2.2.1 x.2.2.2.2.2.2.2.2.1 x.2.2.2.2.2.2.2.2.2⟩
theorem scc_finder_take_p0i_krrrrirrod_is : SpecOk Try.prog sp_scc_finder_take_p0i_krrrrirrod := fn_is Try.func62 h_scc_finder_take_p0i_krrrrirrod (by kernel_rfl) (by kernel_rfl)
noncomputable def ok_scc_finder_take_p0i_krrrrirrod : OkSpec Try.prog := ⟨sp_scc_finder_take_p0i_krrrrirrod, scc_finder_take_p0i_krrrrirrod_is, Try.call62⟩

noncomputable def fn_scc_finder_leave_p0i_krrrrirrod (xb : Int) (qa0 : (List (List Int))) (qa1 : (List Int)) (qa2 : (List Int)) (qa3 : (List Int)) (qa4 : (List Int)) (qa5 : Int) (qa6 : (List Int)) (qa7 : (List Int)) (qa8 : (List (List Int))) : Option (((List Int) × (List Int) × (List Int) × (List Int) × (List Int) × (List Int) × (List (List Int)))) :=
 (fn_stack_Stack_int_Pop_p0o6_krrrrirrod qa0 qa1 qa2 qa3 qa4 qa5 qa6 qa7 qa8).bind fun (i646, t647, l648, l649, l650, l651, l652, l653, l654) => ((getI l650 xb).bind fun x934 => (getI l649 xb).bind fun x941 => cond (decide (x934 = x941)) ((fn_scc_finder_take_p0i_krrrrirrod xb qa0 l648 l649 l650 l651 qa5 l652 l653 l654).bind fun (l994, l995, l996, l997, l998, l999, l1000) => some ((l994, l995, l996, l997, l998, l999, l1000))) (some ((l648, l649, l650, l651, l652, l653, l654))) : Option (((List Int) × (List Int) × (List Int) × (List Int) × (List Int) × (List Int) × (List (List Int))))).bind fun (l846, l851, l856, l861, l866, l871, l876) => (fn_stack_Stack_int_Top_a6 (qa0, l846, l851, l856, l861, qa5, l866, l871, l876)).bind fun (i1044, t1045) => cond (t1045) ((getI l856 i1044).bind fun x1139 => (getI l856 xb).bind fun x1146 => (getI l856 i1044).bind fun x1153 => (some (l856.set i1044.toNat (if x1146 < x1139 then x1146 else x1139))).bind fun z1160 => some ((l846, l851, z1160, l861, l866, l871, l876))) (some ((l846, l851, l856, l861, l866, l871, l876)))
noncomputable def h_scc_finder_leave_p0i_krrrrirrod : Hn Try.prog := .cl ok_stack_Stack_int_Pop_p0o6_krrrrirrod [] (.sq [] ⟨[], [⟨(some 0), 70, [.is 1 (.any), .own 3 (.int .i64), .own 3 (.int .i64), .own 3 (.int .i64), .own 3 (.int .i64), .is 2 (.any), .own 3 (.int .i64), .own 3 (.int .i64), .od (.row 28 (.row 3 (.dat (.int .i64))))], false, false, none, false⟩, ⟨(some 1), 0, [], false, true, none, false⟩, ⟨(some 2), 0, [], false, true, none, false⟩]⟩ [43, 41, 39, 37, 35, 33, 0, 45] (.mix [] [0, 1, 2, 3, 4, 5, 6, 7, 8, 9, 10, 11, 12, 13, 14] [] [] (.tw 24 (.cl ok_scc_finder_take_p0i_krrrrirrod [] (.nil)) (.nil))) (.cl ok_stack_Stack_int_Top_a6 [48, 50, 52, 54, 56, 58, 60, 0] (.tw 35 (.mix [([0, 1, 2, 3, 4, 5, 6, 7, 8, 9, 10, 11, 12, 13, 14, 15, 16, 17, 18], 19)] [20] [21] [] (.nil)) (.nil))))
noncomputable def sp_scc_finder_leave_p0i_krrrrirrod : Spec := ⟨47, ⟨[(0, .ptr 0 0), (1, .dat (.int .i64))], [⟨none, 70, [.is 1 (.dat (.sl (.sl (.int .i64)))), .own 3 (.int .i64), .own 3 (.int .i64), .own 3 (.int .i64), .own 3 (.int .i64), .is 2 (.dat (.int .i64)), .own 3 (.int .i64), .own 3 (.int .i64), .od (.row 28 (.row 3 (.dat (.int .i64))))], false, false, none, false⟩, ⟨none, 0, [], false, true, none, false⟩, ⟨none, 0, [], false, true, none, false⟩]⟩, [⟨[], [⟨(some 0), 70, [.is 1 (.any), .own 3 (.int .i64), .own 3 (.int .i64), .own 3 (.int .i64), .own 3 (.int .i64), .is 2 (.any), .own 3 (.int .i64), .own 3 (.int .i64), .od (.row 28 (.row 3 (.dat (.int .i64))))], false, false, none, false⟩, ⟨(some 1), 0, [], false, true, none, false⟩, ⟨(some 2), 0, [], false, true, none, false⟩]⟩], fun x => fn_scc_finder_leave_p0i_krrrrirrod x.1 x.2.1 x.2.2.1 x.2.2.2.1 x.2.2.2.2.1 x.2.2.2.2.2.1 x.2.2.2.2.2.2.1 x.2.2.2.2.2.2.2.1 x.2.2.2.2.2.2.2.2.1 x.2.2.2.2.2.2.2.2.2⟩
theorem scc_finder_leave_p0i_krrrrirrod_is : SpecOk Try.prog sp_scc_finder_leave_p0i_krrrrirrod := fn_is Try.func47 h_scc_finder_leave_p0i_krrrrirrod (by kernel_rfl) (by kernel_rfl)
noncomputable def ok_scc_finder_leave_p0i_krrrrirrod : OkSpec Try.prog := ⟨sp_scc_finder_leave_p0i_krrrrirrod, scc_finder_leave_p0i_krrrrirrod_is, Try.call47⟩
noncomputable def fn_scc_finder_walk_p0i_krrrrirrn_l1 (qa0 : (List (List Int))) (i60386 : Int) (i69431 : Int) : ((List Int) × (List Int) × (List Int) × (List Int) × (List Int) × (List Int) × (List (List Int))) → Option (((List Int) × (List Int) × (List Int) × (List Int) × (List Int) × (List Int) × (List (List Int))) ⊕ (((List Int) × (List Int) × (List Int) × (List Int) × (List Int) × (List Int) × (List (List Int))) ⊕ (((List Int) × (List Int) × (List Int) × (List Int) × Int × (List Int) × (List Int) × (List (List Int))) ⊕ ((List Int) × (List Int) × (List Int) × (List Int) × Int × (List Int) × (List Int) × (List (List Int)))))) := fun ((l71703, l71708, l71713, l71718, l71723, l71728, l71733) : ((List Int) × (List Int) × (List Int) × (List Int) × (List Int) × (List Int) × (List (List Int)))) => (getI l71703 i69431).bind fun x72363 => (getI qa0 i69431).bind fun x72370 => cond (decide (x72363 < (((x72370.length : Nat) : Int)))) ((getI qa0 i69431).bind fun x72500 => (getI l71703 i69431).bind fun x72513 => (getI x72500 x72513).bind fun x72520 => (getI l71703 i69431).bind fun x72548 => (getI l71703 i69431).bind fun x72555 => (some (l71703.set i69431.toNat (IntKind.wrap .i64 (x72548 + 1)))).bind fun z72562 => (getI l71708 x72520).bind fun x72574 => cond (decide (x72574 = 0)) ((fn_scc_finder_meet_p0i_krrrrirrod x72520 qa0 z72562 l71708 l71713 l71718 i60386 l71723 l71728 l71733).bind fun (l72628, l72629, l72630, l72631, i72632, l72633, l72634, l72635) => some (.inr ((.inr (.inl (l72628, l72629, l72630, l72631, i72632, l72633, l72634, l72635)))))) ((getI l71718 x72520).bind fun x72677 => cond (decide (x72677 = 0)) ((getI l71713 i69431).bind fun x72774 => (getI l71708 x72520).bind fun x72781 => (getI l71713 i69431).bind fun x72788 => (some (l71713.set i69431.toNat (if x72781 < x72774 then x72781 else x72774))).bind fun z72795 => some (.inl (z72562, l71708, z72795, l71718, l71723, l71728, l71733))) (some (.inl (z72562, l71708, l71713, l71718, l71723, l71728, l71733))))) (some (.inr ((.inl (l71703, l71708, l71713, l71718, l71723, l71728, l71733)))))
noncomputable def fn_scc_finder_walk_p0i_krrrrirrn_l2 (qa0 : (List (List Int))) : ((List Int) × (List Int) × (List Int) × (List Int) × Int × (List Int) × (List Int) × (List (List Int))) → Option (((List Int) × (List Int) × (List Int) × (List Int) × Int × (List Int) × (List Int) × (List (List Int))) ⊕ ((List Int) × (List Int) × (List Int) × (List Int) × Int × (List Int) × (List Int) × (List (List Int)))) := fun ((l60366, l60371, l60376, l60381, i60386, l60387, l60392, l60397) : ((List Int) × (List Int) × (List Int) × (List Int) × Int × (List Int) × (List Int) × (List (List Int)))) => (fn_stack_Stack_int_Top_a6 (qa0, l60366, l60371, l60376, l60381, i60386, l60387, l60392, l60397)).bind fun (i69431, t69432) => cond (!t69432) (some (.inr (((l60366, l60371, l60376, l60381, i60386, l60387, l60392, l60397))))) ((loop (fn_scc_finder_walk_p0i_krrrrirrn_l1 qa0 i60386 i69431) (l60366, l60371, l60376, l60381, l60387, l60392, l60397) : Option (((List Int) × (List Int) × (List Int) × (List Int) × (List Int) × (List Int) × (List (List Int))) ⊕ (((List Int) × (List Int) × (List Int) × (List Int) × Int × (List Int) × (List Int) × (List (List Int))) ⊕ ((List Int) × (List Int) × (List Int) × (List Int) × Int × (List Int) × (List Int) × (List (List Int)))))).bind fun o => match o with | .inr r => some r | .inl (l71103, l71108, l71113, l71118, l71123, l71128, l71133) => (fn_scc_finder_leave_p0i_krrrrirrod i69431 qa0 l71103 l71108 l71113 l71118 i60386 l71123 l71128 l71133).bind fun (l72845, l72846, l72847, l72848, l72849, l72850, l72851) => some (.inl (l72845, l72846, l72847, l72848, i60386, l72849, l72850, l72851)))
noncomputable def fn_scc_finder_walk_p0i_krrrrirrn (xb : Int) (qa0 : (List (List Int))) (qa1 : (List Int)) (qa2 : (List Int)) (qa3 : (List Int)) (qa4 : (List Int)) (qa5 : Int) (qa6 : (List Int)) (qa7 : (List Int)) : Option (((List Int) × (List Int) × (List Int) × (List Int) × Int × (List Int) × (List Int) × (List (List Int)))) :=
 (fn_scc_finder_meet_p0i_krrrrirrn xb qa0 qa1 qa2 qa3 qa4 qa5 qa6 qa7).bind fun (l36462, l36463, l36464, l36465, i36466, l36467, l36468) => loop (fn_scc_finder_walk_p0i_krrrrirrn_l2 qa0) (l36462, l36463, l36464, l36465, i36466, l36467, l36468, [])
noncomputable def h_scc_finder_walk_p0i_krrrrirrn : Hn Try.prog := .cl ok_scc_finder_meet_p0i_krrrrirrn [] (.lp ⟨[], [⟨(some 0), 70, [.is 1 (.any), .own 3 (.int .i64), .own 3 (.int .i64), .own 3 (.int .i64), .own 3 (.int .i64), .dat (.int .i64), .own 3 (.int .i64), .own 3 (.int .i64), .od (.row 28 (.row 3 (.dat (.int .i64))))], false, false, none, false⟩, ⟨(some 1), 0, [], false, true, none, false⟩]⟩ (.cl ok_stack_Stack_int_Top_a6 [41, 43, 45, 47, 49, 51, 53, 0] (.tw 18 (.nil) (.jx [(0, 5)] ⟨[], [⟨(some 0), 70, [.is 2 (.any), .own 3 (.int .i64), .own 3 (.int .i64), .own 3 (.int .i64), .own 3 (.int .i64), .is 3 (.any), .own 3 (.int .i64), .own 3 (.int .i64), .rp 1], false, false, none, false⟩, ⟨(some 53), 0, [], false, false, some (.row 28 (.row 3 (.dat (.int .i64)))), false⟩, ⟨(some 1), 0, [], false, true, none, false⟩, ⟨(some 56), 0, [], false, true, none, false⟩]⟩ [0, 41, 43, 45, 47, 49, 51, 53] (.lp ⟨[], [⟨(some 0), 70, [.is 2 (.any), .own 3 (.int .i64), .own 3 (.int .i64), .own 3 (.int .i64), .own 3 (.int .i64), .is 3 (.any), .own 3 (.int .i64), .own 3 (.int .i64), .rp 1], false, false, none, false⟩, ⟨(some 53), 0, [], false, false, some (.row 28 (.row 3 (.dat (.int .i64)))), false⟩, ⟨(some 1), 0, [], false, true, none, false⟩, ⟨(some 56), 0, [], false, true, none, false⟩]⟩ (.mix [] [0, 1, 2, 3, 4, 5, 6, 7, 8, 9, 10, 11, 12, 13, 14, 15] [] [] (.tw 34 (.mix [] [0, 1, 2, 3, 4, 5, 6, 7, 8, 9, 10, 11, 12, 13, 14, 15, 16] [] [] (.tw 67 (.cl ok_scc_finder_meet_p0i_krrrrirrod [] (.nil)) (.tw 78 (.mix [([0, 1, 2, 3, 4, 5, 6, 7, 8, 9, 10, 11, 12, 13, 14, 15, 16, 17, 18], 19)] [20] [21] [] (.nil)) (.nil)))) (.nil)))) (.cl ok_scc_finder_leave_p0i_krrrrirrod [] (.nil))))))
noncomputable def sp_scc_finder_walk_p0i_krrrrirrn : Spec := ⟨35, ⟨[(0, .ptr 0 0), (1, .dat (.int .i64))], [⟨none, 70, [.is 1 (.dat (.sl (.sl (.int .i64)))), .own 3 (.int .i64), .own 3 (.int .i64), .own 3 (.int .i64), .own 3 (.int .i64), .dat (.int .i64), .own 3 (.int .i64), .own 3 (.int .i64), .nils], false, false, none, false⟩, ⟨none, 0, [], false, true, none, false⟩]⟩, [⟨[], [⟨(some 0), 70, [.is 1 (.any), .own 3 (.int .i64), .own 3 (.int .i64), .own 3 (.int .i64), .own 3 (.int .i64), .dat (.int .i64), .own 3 (.int .i64), .own 3 (.int .i64), .od (.row 28 (.row 3 (.dat (.int .i64))))], false, false, none, false⟩, ⟨(some 1), 0, [], false, true, none, false⟩]⟩], fun x => fn_scc_finder_walk_p0i_krrrrirrn x.1 x.2.1 x.2.2.1 x.2.2.2.1 x.2.2.2.2.1 x.2.2.2.2.2.1 x.2.2.2.2.2.2.1 x.2.2.2.2.2.2.2.1 x.2.2.2.2.2.2.2.2⟩
theorem scc_finder_walk_p0i_krrrrirrn_is : SpecOk Try.prog sp_scc_finder_walk_p0i_krrrrirrn := fn_is Try.func35 h_scc_finder_walk_p0i_krrrrirrn (by kernel_rfl) (by kernel_rfl)
noncomputable def ok_scc_finder_walk_p0i_krrrrirrn : OkSpec Try.prog := ⟨sp_scc_finder_walk_p0i_krrrrirrn, scc_finder_walk_p0i_krrrrirrn_is, Try.call35⟩
noncomputable def fn_scc_finder_walk_p0i_krrrrirrod_l1 (qa0 : (List (List Int))) (i71662 : Int) (i80707 : Int) : ((List Int) × (List Int) × (List Int) × (List Int) × (List Int) × (List Int) × (List (List Int))) → Option (((List Int) × (List Int) × (List Int) × (List Int) × (List Int) × (List Int) × (List (List Int))) ⊕ (((List Int) × (List Int) × (List Int) × (List Int) × (List Int) × (List Int) × (List (List Int))) ⊕ (((List Int) × (List Int) × (List Int) × (List Int) × Int × (List Int) × (List Int) × (List (List Int))) ⊕ ((List Int) × (List Int) × (List Int) × (List Int) × Int × (List Int) × (List Int) × (List (List Int)))))) := fun ((l82979, l82984, l82989, l82994, l82999, l83004, l83009) : ((List Int) × (List Int) × (List Int) × (List Int) × (List Int) × (List Int) × (List (List Int)))) => (getI l82979 i80707).bind fun x83639 => (getI qa0 i80707).bind fun x83646 => cond (decide (x83639 < (((x83646.length : Nat) : Int)))) ((getI qa0 i80707).bind fun x83776 => (getI l82979 i80707).bind fun x83789 => (getI x83776 x83789).bind fun x83796 => (getI l82979 i80707).bind fun x83824 => (getI l82979 i80707).bind fun x83831 => (some (l82979.set i80707.toNat (IntKind.wrap .i64 (x83824 + 1)))).bind fun z83838 => (getI l82984 x83796).bind fun x83850 => cond (decide (x83850 = 0)) ((fn_scc_finder_meet_p0i_krrrrirrod x83796 qa0 z83838 l82984 l82989 l82994 i71662 l82999 l83004 l83009).bind fun (l83904, l83905, l83906, l83907, i83908, l83909, l83910, l83911) => some (.inr ((.inr (.inl (l83904, l83905, l83906, l83907, i83908, l83909, l83910, l83911)))))) ((getI l82994 x83796).bind fun x83953 => cond (decide (x83953 = 0)) ((getI l82989 i80707).bind fun x84050 => (getI l82984 x83796).bind fun x84057 => (getI l82989 i80707).bind fun x84064 => (some (l82989.set i80707.toNat (if x84057 < x84050 then x84057 else x84050))).bind fun z84071 => some (.inl (z83838, l82984, z84071, l82994, l82999, l83004, l83009))) (some (.inl (z83838, l82984, l82989, l82994, l82999, l83004, l83009))))) (some (.inr ((.inl (l82979, l82984, l82989, l82994, l82999, l83004, l83009)))))
noncomputable def fn_scc_finder_walk_p0i_krrrrirrod_l2 (qa0 : (List (List Int))) : ((List Int) × (List Int) × (List Int) × (List Int) × Int × (List Int) × (List Int) × (List (List Int))) → Option (((List Int) × (List Int) × (List Int) × (List Int) × Int × (List Int) × (List Int) × (List (List Int))) ⊕ ((List Int) × (List Int) × (List Int) × (List Int) × Int × (List Int) × (List Int) × (List (List Int)))) := fun ((l71642, l71647, l71652, l71657, i71662, l71663, l71668, l71673) : ((List Int) × (List Int) × (List Int) × (List Int) × Int × (List Int) × (List Int) × (List (List Int)))) => (fn_stack_Stack_int_Top_a6 (qa0, l71642, l71647, l71652, l71657, i71662, l71663, l71668, l71673)).bind fun (i80707, t80708) => cond (!t80708) (some (.inr (((l71642, l71647, l71652, l71657, i71662, l71663, l71668, l71673))))) ((loop (fn_scc_finder_walk_p0i_krrrrirrod_l1 qa0 i71662 i80707) (l71642, l71647, l71652, l71657, l71663, l71668, l71673) : Option (((List Int) × (List Int) × (List Int) × (List Int) × (List Int) × (List Int) × (List (List Int))) ⊕ (((List Int) × (List Int) × (List Int) × (List Int) × Int × (List Int) × (List Int) × (List (List Int))) ⊕ ((List Int) × (List Int) × (List Int) × (List Int) × Int × (List Int) × (List Int) × (List (List Int)))))).bind fun o => match o with | .inr r => some r | .inl (l82379, l82384, l82389, l82394, l82399, l82404, l82409) => (fn_scc_finder_leave_p0i_krrrrirrod i80707 qa0 l82379 l82384 l82389 l82394 i71662 l82399 l82404 l82409).bind fun (l84121, l84122, l84123, l84124, l84125, l84126, l84127) => some (.inl (l84121, l84122, l84123, l84124, i71662, l84125, l84126, l84127)))
noncomputable def fn_scc_finder_walk_p0i_krrrrirrod (xb : Int) (qa0 : (List (List Int))) (qa1 : (List Int)) (qa2 : (List Int)) (qa3 : (List Int)) (qa4 : (List Int)) (qa5 : Int) (qa6 : (List Int)) (qa7 : (List Int)) (qa8 : (List (List Int))) : Option (((List Int) × (List Int) × (List Int) × (List Int) × Int × (List Int) × (List Int) × (List (List Int)))) :=
 (fn_scc_finder_meet_p0i_krrrrirrod xb qa0 qa1 qa2 qa3 qa4 qa5 qa6 qa7 qa8).bind fun (l42144, l42145, l42146, l42147, i42148, l42149, l42150, l42151) => loop (fn_scc_finder_walk_p0i_krrrrirrod_l2 qa0) (l42144, l42145, l42146, l42147, i42148, l42149, l42150, l42151)
noncomputable def h_scc_finder_walk_p0i_krrrrirrod : Hn Try.prog := .cl ok_scc_finder_meet_p0i_krrrrirrod [] (.lp ⟨[], [⟨(some 0), 70, [.is 1 (.any), .own 3 (.int .i64), .own 3 (.int .i64), .own 3 (.int .i64), .own 3 (.int .i64), .dat (.int .i64), .own 3 (.int .i64), .own 3 (.int .i64), .od (.row 28 (.row 3 (.dat (.int .i64))))], false, false, none, false⟩, ⟨(some 1), 0, [], false, true, none, false⟩]⟩ (.cl ok_stack_Stack_int_Top_a6 [47, 49, 51, 53, 55, 57, 59, 0] (.tw 18 (.nil) (.jx [(0, 5)] ⟨[], [⟨(some 0), 70, [.is 2 (.any), .own 3 (.int .i64), .own 3 (.int .i64), .own 3 (.int .i64), .own 3 (.int .i64), .is 3 (.any), .own 3 (.int .i64), .own 3 (.int .i64), .rp 1], false, false, none, false⟩, ⟨(some 59), 0, [], false, false, some (.row 28 (.row 3 (.dat (.int .i64)))), false⟩, ⟨(some 1), 0, [], false, true, none, false⟩, ⟨(some 62), 0, [], false, true, none, false⟩]⟩ [0, 47, 49, 51, 53, 55, 57, 59] (.lp ⟨[], [⟨(some 0), 70, [.is 2 (.any), .own 3 (.int .i64), .own 3 (.int .i64), .own 3 (.int .i64), .own 3 (.int .i64), .is 3 (.any), .own 3 (.int .i64), .own 3 (.int .i64), .rp 1], false, false, none, false⟩, ⟨(some 59), 0, [], false, false, some (.row 28 (.row 3 (.dat (.int .i64)))), false⟩, ⟨(some 1), 0, [], false, true, none, false⟩, ⟨(some 62), 0, [], false, true, none, false⟩]⟩ (.mix [] [0, 1, 2, 3, 4, 5, 6, 7, 8, 9, 10, 11, 12, 13, 14, 15] [] [] (.tw 34 (.mix [] [0, 1, 2, 3, 4, 5, 6, 7, 8, 9, 10, 11, 12, 13, 14, 15, 16] [] [] (.tw 67 (.cl ok_scc_finder_meet_p0i_krrrrirrod [] (.nil)) (.tw 78 (.mix [([0, 1, 2, 3, 4, 5, 6, 7, 8, 9, 10, 11, 12, 13, 14, 15, 16, 17, 18], 19)] [20] [21] [] (.nil)) (.nil)))) (.nil)))) (.cl ok_scc_finder_leave_p0i_krrrrirrod [] (.nil))))))
noncomputable def sp_scc_finder_walk_p0i_krrrrirrod : Spec := ⟨35, ⟨[(0, .ptr 0 0), (1, .dat (.int .i64))], [⟨none, 70, [.is 1 (.dat (.sl (.sl (.int .i64)))), .own 3 (.int .i64), .own 3 (.int .i64), .own 3 (.int .i64), .own 3 (.int .i64), .dat (.int .i64), .own 3 (.int .i64), .own 3 (.int .i64), .od (.row 28 (.row 3 (.dat (.int .i64))))], false, false, none, false⟩, ⟨none, 0, [], false, true, none, false⟩]⟩, [⟨[], [⟨(some 0), 70, [.is 1 (.any), .own 3 (.int .i64), .own 3 (.int .i64), .own 3 (.int .i64), .own 3 (.int .i64), .dat (.int .i64), .own 3 (.int .i64), .own 3 (.int .i64), .od (.row 28 (.row 3 (.dat (.int .i64))))], false, false, none, false⟩, ⟨(some 1), 0, [], false, true, none, false⟩]⟩], fun x => fn_scc_finder_walk_p0i_krrrrirrod x.1 x.2.1 x.2.2.1 x.2.2.2.1 x.2.2.2.2.1 x.2.2.2.2.2.1 x.2.2.2.2.2.2.1 x.2.2.2.2.2.2.2.1 x.2.2.2.2.2.2.2.2.1 x.2.2.2.2.2.2.2.2.2⟩
theorem scc_finder_walk_p0i_krrrrirrod_is : SpecOk Try.prog sp_scc_finder_walk_p0i_krrrrirrod := fn_is Try.func35 h_scc_finder_walk_p0i_krrrrirrod (by kernel_rfl) (by kernel_rfl)
noncomputable def ok_scc_finder_walk_p0i_krrrrirrod : OkSpec Try.prog := ⟨sp_scc_finder_walk_p0i_krrrrirrod, scc_finder_walk_p0i_krrrrirrod_is, Try.call35⟩
noncomputable def fn_scc_homes_l1 (i2866 : Int) (x3064 : (List Int)) : ((List Int) × Int) → Option (((List Int) × Int) ⊕ (List Int)) := fun ((l3195, i3200) : ((List Int) × Int)) => cond (decide (i3200 < (((x3064.length : Nat) : Int)))) ((getI x3064 i3200).bind fun x3231 => (getI l3195 x3231).bind fun x3240 => (some (l3195.set x3231.toNat i2866)).bind fun z3247 => some (.inl ((z3247, IntKind.wrap .i64 (i3200 + 1))))) (some (.inr (l3195)))
noncomputable def fn_scc_homes_l2 (xb : (List (List Int))) : ((List Int) × Int) → Option (((List Int) × Int) ⊕ (List Int)) := fun ((l2861, i2866) : ((List Int) × Int)) => cond (decide (i2866 < (((xb.length : Nat) : Int)))) ((getI xb i2866).bind fun x3064 => (loop (fn_scc_homes_l1 i2866 x3064) (l2861, 0) : Option (List Int)).bind fun l3162 => some (.inl ((l3162, IntKind.wrap .i64 (i2866 + 1))))) (some (.inr (l2861)))
noncomputable def fn_scc_homes (xa : Int) (xb : (List (List Int))) : Option (List Int) :=
 (mk xa xa 0 : Option (List Int)).bind fun z2070 => (loop (fn_scc_homes_l2 xb) (z2070, 0) : Option (List Int)).bind fun l2661 => some (l2661)
noncomputable def h_scc_homes : Hn Try.prog := .jn [] ⟨[(5, .own 3 (.int .i64)), (11, .any)], []⟩ [0] (.lp ⟨[(5, .own 3 (.int .i64)), (14, .dat (.int .i64))], []⟩ (.tw 15 (.pl (.pl (.jn [] ⟨[(5, .own 3 (.int .i64))], []⟩ [2] (.lp ⟨[(5, .own 3 (.int .i64)), (21, .dat (.int .i64))], []⟩ (.tw 22 (.nil) (.nil))) (.nil)))) (.nil))) (.nil)
noncomputable def sp_scc_homes : Spec := ⟨48, ⟨[(0, .dat (.int .i64)), (1, .dat (.sl (.sl (.int .i64))))], []⟩, [⟨[(0, .own 3 (.int .i64))], []⟩], fun x => fn_scc_homes x.1 x.2⟩
theorem scc_homes_is : SpecOk Try.prog sp_scc_homes := fn_is Try.func48 h_scc_homes (by kernel_rfl) (by kernel_rfl)
noncomputable def ok_scc_homes : OkSpec Try.prog := ⟨sp_scc_homes, scc_homes_is, Try.call48⟩
noncomputable def fn_scc_between_l1 (xb : (List Int)) (i34554 : Int) (x36917 : (List Int)) : ((List Int) × Int × (List (List Int))) → Option (((List Int) × Int × (List (List Int))) ⊕ ((List Int) × (List (List Int)))) := fun ((l38473, i38478, l38479) : ((List Int) × Int × (List (List Int)))) => cond (decide (i38478 < (((x36917.length : Nat) : Int)))) ((getI x36917 i38478).bind fun x38875 => (getI xb i34554).bind fun x38956 => (getI xb x38875).bind fun x38965 => cond (!decide (x38956 = x38965)) ((getI xb x38875).bind fun x38993 => (getI l38479 x38993).bind fun x39002 => (getI xb x38875).bind fun x39150 => (getI xb x38875).bind fun x39159 => (getI l38479 x39159).bind fun _ => (chkI x39159 x38993).bind fun _ => (getI xb i34554).bind fun x39168 => (app x39002 ([x39168] : List Int)).bind fun z39180 => (getI l38479 x39150).bind fun _ => (chkI x39150 x38993).bind fun _ => (getI xb i34554).bind fun x39214 => (getI l38473 x39214).bind fun x39223 => (getI l38473 x39214).bind fun x39230 => (some (l38473.set x39214.toNat (IntKind.wrap .i64 (x39223 + 1)))).bind fun z39237 => some (.inl ((z39237, IntKind.wrap .i64 (i38478 + 1), l38479.set x38993.toNat z39180)))) (some (.inl ((l38473, IntKind.wrap .i64 (i38478 + 1), l38479))))) (some (.inr (((l38473, l38479)))))
noncomputable def fn_scc_between_l2 (xa : (List (List Int))) (xb : (List Int)) : ((List Int) × Int × (List (List Int))) → Option (((List Int) × Int × (List (List Int))) ⊕ ((List Int) × (List (List Int)))) := fun ((l34549, i34554, l34555) : ((List Int) × Int × (List (List Int)))) => cond (decide (i34554 < (((xa.length : Nat) : Int)))) ((getI xa i34554).bind fun x36917 => (loop (fn_scc_between_l1 xb i34554 x36917) (l34549, 0, l34555) : Option (((List Int) × (List (List Int))))).bind fun (l38083, l38088) => some (.inl ((l38083, IntKind.wrap .i64 (i34554 + 1), l38088)))) (some (.inr (((l34549, l34555)))))
noncomputable def fn_scc_between (xa : (List (List Int))) (xb : (List Int)) (xc : Int) : Option (((List (List Int)) × (List Int))) :=
 (((mk xc xc ([]) : Option (List (List Int))).bind fun z25140 => (mk xc xc 0 : Option (List Int)).bind fun z25143 => some ((z25140, z25143))).bind fun x25156 => ((mk xc xc 0 : Option (List Int)).bind fun z25148 => (mk xc xc ([]) : Option (List (List Int))).bind fun z25153 => some ((z25153, z25148))).bind fun y25157 => agr x25156 y25157 (some x25156) : Option (((List (List Int)) × (List Int)))).bind fun (l25115, l25117) => (loop (fn_scc_between_l2 xa xb) (l25117, 0, l25115) : Option (((List Int) × (List (List Int))))).bind fun (l32197, l32202) => some ((l32202, l32197))
noncomputable def h_scc_between : Hn Try.prog := .tr (.still [0, 2] (.alt 1 (.still [4] (.alt 3 (.leaf [5]) .done)) (.alt 3 (.alt 1 (.leaf [4, 5]) .done) .done))) ⟨[(8, .od (.row 28 (.row 3 (.dat (.int .i64))))), (9, .own 3 (.int .i64))], []⟩ [] (.two 0 (.ot (.row 3 (.dat (.int .i64))) (.nil)) (.ot (.row 3 (.dat (.int .i64))) (.nil))) (.jn [] ⟨[(9, .own 3 (.int .i64))], [⟨(some 0), 0, [], false, false, some (.row 28 (.row 3 (.dat (.int .i64)))), false⟩]⟩ [2, 0] (.lp ⟨[(9, .own 3 (.int .i64)), (20, .dat (.int .i64))], [⟨(some 0), 0, [], false, false, some (.row 28 (.row 3 (.dat (.int .i64)))), false⟩]⟩ (.tw 21 (.pl (.pl (.jn [] ⟨[(9, .own 3 (.int .i64))], [⟨(some 0), 0, [], false, false, some (.row 28 (.row 3 (.dat (.int .i64)))), false⟩]⟩ [0, 4] (.lp ⟨[(9, .own 3 (.int .i64)), (27, .dat (.int .i64))], [⟨(some 0), 0, [], false, false, some (.row 28 (.row 3 (.dat (.int .i64)))), false⟩]⟩ (.tw 28 (.mix [] [0, 1, 2, 3, 4, 5, 6, 7, 8] [] [] (.tw 39 (.opp [6, 7, 8, 9] 0 49 (.mix [([0, 1, 2, 3, 4, 5, 6, 7, 8, 9, 10, 11, 12, 13, 14, 15], 16), ([], 17)] [18] [19] [11] (.cls 0 17 (.nil)))) (.nil))) (.nil))) (.nil)))) (.nil))) (.nil))
noncomputable def sp_scc_between : Spec := ⟨49, ⟨[(0, .dat (.sl (.sl (.int .i64)))), (1, .dat (.sl (.int .i64))), (2, .dat (.int .i64))], []⟩, [⟨[(0, .tup [.od (.row 28 (.row 3 (.dat (.int .i64)))), .own 3 (.int .i64)])], []⟩], fun x => fn_scc_between x.1 x.2.1 x.2.2⟩
theorem scc_between_is : SpecOk Try.prog sp_scc_between := fn_is Try.func49 h_scc_between (by kernel_rfl) (by kernel_rfl)
noncomputable def ok_scc_between : OkSpec Try.prog := ⟨sp_scc_between, scc_between_is, Try.call49⟩

noncomputable def fn_scc_ready_Len (xa : (List Int)) : Option Int :=
 some (((xa.length : Nat) : Int))
noncomputable def h_scc_ready_Len : Hn Try.prog := .nil
noncomputable def sp_scc_ready_Len : Spec := ⟨51, ⟨[(0, .dat (.sl (.int .i64)))], []⟩, [⟨[(0, .dat (.int .i64))], []⟩], fun x => fn_scc_ready_Len x⟩
theorem scc_ready_Len_is : SpecOk Try.prog sp_scc_ready_Len := fn_is Try.func51 h_scc_ready_Len (by kernel_rfl) (by kernel_rfl)
noncomputable def ok_scc_ready_Len : OkSpec Try.prog := ⟨sp_scc_ready_Len, scc_ready_Len_is, Try.call51⟩

noncomputable def fn_scc_ready_Less (xa : (List Int)) (xb : Int) (xc : Int) : Option Bool :=
 (getI xa xb).bind fun x128 => (getI xa xc).bind fun x137 => some (decide (x128 < x137))
noncomputable def h_scc_ready_Less : Hn Try.prog := .mix [] [0, 1, 2, 3, 4, 5, 6, 7, 8, 9] [] [] (.nil)
noncomputable def sp_scc_ready_Less : Spec := ⟨103, ⟨[(0, .dat (.sl (.int .i64))), (1, .dat (.int .i64)), (2, .dat (.int .i64))], []⟩, [⟨[(0, .dat .bool)], []⟩], fun x => fn_scc_ready_Less x.1 x.2.1 x.2.2⟩
theorem scc_ready_Less_is : SpecOk Try.prog sp_scc_ready_Less := fn_is Try.func103 h_scc_ready_Less (by kernel_rfl) (by kernel_rfl)
noncomputable def ok_scc_ready_Less : OkSpec Try.prog := ⟨sp_scc_ready_Less, scc_ready_Less_is, Try.call103⟩

noncomputable def fn_scc_ready_Swap_rpii (xb : Int) (xc : Int) (wxa : (List Int)) : Option (List Int) :=
 ((getI wxa xc).bind fun x733 => (getI wxa xb).bind fun x740 => ((getI wxa xb).bind fun x747 => (some (wxa.set xb.toNat x733)).bind fun z754 => (getI z754 xc).bind fun x759 => (some (z754.set xc.toNat x740)).bind fun z766 => some (z766)).bind fun x795 => ((getI wxa xb).bind fun x771 => (some (wxa.set xb.toNat x733)).bind fun z778 => (getI z778 xc).bind fun x783 => (some (z778.set xc.toNat x740)).bind fun z790 => some (z790)).bind fun y796 => agr x795 y796 (some x795) : Option (List Int)).bind fun l668 => some (l668)
noncomputable def h_scc_ready_Swap_rpii : Hn Try.prog := .tr (.still [0, 1, 2, 3, 4, 5, 6, 8, 9, 10] (.alt 7 (.alt 11 (.still [12] (.alt 13 (.still [14] (.alt 15 (.leaf []) .done)) .done)) .done) (.alt 11 (.alt 7 (.still [12] (.alt 13 (.still [14] (.alt 15 (.leaf []) .done)) .done)) .done) .done))) ⟨[(0, .any)], [⟨(some 0), 0, [], false, false, some (.row 3 (.dat (.int .i64))), false⟩]⟩ [0] (.two 0 (.nil) (.nil)) (.nil)
noncomputable def sp_scc_ready_Swap_rpii : Spec := ⟨104, ⟨[(0, .rp 0), (1, .dat (.int .i64)), (2, .dat (.int .i64))], [⟨none, 0, [], false, false, some (.row 3 (.dat (.int .i64))), false⟩]⟩, [⟨[], [⟨(some 0), 0, [], false, false, some (.row 3 (.dat (.int .i64))), false⟩]⟩], fun x => fn_scc_ready_Swap_rpii x.1 x.2.1 x.2.2⟩
theorem scc_ready_Swap_rpii_is : SpecOk Try.prog sp_scc_ready_Swap_rpii := fn_is Try.func104 h_scc_ready_Swap_rpii (by kernel_rfl) (by kernel_rfl)
noncomputable def ok_scc_ready_Swap_rpii : OkSpec Try.prog := ⟨sp_scc_ready_Swap_rpii, scc_ready_Swap_rpii_is, Try.call104⟩
noncomputable def fn_container_heap_down_jp0ii_r_l1 (xc : Int) : (Int × (List Int)) → Option ((Int × (List Int)) ⊕ (Int × (List Int))) := fun ((i723, l724) : (Int × (List Int))) => cond ((decide (xc ≤ (IntKind.wrap .i64 ((IntKind.wrap .i64 (2 * i723)) + 1)))) || (decide ((IntKind.wrap .i64 ((IntKind.wrap .i64 (2 * i723)) + 1)) < 0))) (some (.inr (((i723, l724))))) (((cond (decide ((IntKind.wrap .i64 ((IntKind.wrap .i64 ((IntKind.wrap .i64 (2 * i723)) + 1)) + 1)) < xc)) ((fn_scc_ready_Less l724 (IntKind.wrap .i64 ((IntKind.wrap .i64 ((IntKind.wrap .i64 (2 * i723)) + 1)) + 1)) (IntKind.wrap .i64 ((IntKind.wrap .i64 (2 * i723)) + 1))).bind fun t843 => some (t843)) (some (false))).bind fun t836 => cond (t836) (some (IntKind.wrap .i64 ((IntKind.wrap .i64 ((IntKind.wrap .i64 (2 * i723)) + 1)) + 1))) (some (IntKind.wrap .i64 ((IntKind.wrap .i64 (2 * i723)) + 1))) : Option Int).bind fun i825 => (fn_scc_ready_Less l724 i825 i723).bind fun t853 => cond (!t853) (some (.inr (((i723, l724))))) ((fn_scc_ready_Swap_rpii i723 i825 l724).bind fun l860 => some (.inl (i825, l860))))
noncomputable def fn_container_heap_down_jp0ii_r (xb : Int) (xc : Int) (qa0 : (List Int)) : Option ((Bool × (List Int))) :=
 (loop (fn_container_heap_down_jp0ii_r_l1 xc) (xb, qa0) : Option ((Int × (List Int)))).bind fun (i647, l648) => some ((decide (xb < i647), l648))
noncomputable def h_container_heap_down_jp0ii_r : Hn Try.prog := .jn [] ⟨[(7, .dat (.int .i64))], [⟨(some 0), 94, [.own 3 (.int .i64)], false, false, none, false⟩]⟩ [1, 0] (.lp ⟨[(7, .dat (.int .i64))], [⟨(some 0), 94, [.own 3 (.int .i64)], false, false, none, false⟩]⟩ (.gp 2 (.tw 21 (.nil) (.pl (.sq [] ⟨[(9, .dat (.int .i64))], []⟩ [] (.gj 4 ⟨[(33, .dat .bool)], []⟩ [] (.two 28 (.cl ok_scc_ready_Less [4] (.nil)) (.nil)) (.tw 33 (.nil) (.nil))) (.cl ok_scc_ready_Less [4] (.tw 39 (.nil) (.cl ok_scc_ready_Swap_rpii [] (.nil))))))))) (.nil)
noncomputable def sp_container_heap_down_jp0ii_r : Spec := ⟨63, ⟨[(0, .ifc 96 (.ptr 0 0)), (1, .dat (.int .i64)), (2, .dat (.int .i64))], [⟨none, 94, [.own 3 (.int .i64)], false, false, none, false⟩]⟩, [⟨[(0, .dat .bool)], [⟨(some 0), 94, [.own 3 (.int .i64)], false, false, none, false⟩]⟩], fun x => fn_container_heap_down_jp0ii_r x.1 x.2.1 x.2.2⟩
theorem container_heap_down_jp0ii_r_is : SpecOk Try.prog sp_container_heap_down_jp0ii_r := fn_is Try.func63 h_container_heap_down_jp0ii_r (by kernel_rfl) (by kernel_rfl)
noncomputable def ok_container_heap_down_jp0ii_r : OkSpec Try.prog := ⟨sp_container_heap_down_jp0ii_r, container_heap_down_jp0ii_r_is, Try.call63⟩
noncomputable def fn_container_heap_Init_jp0_r_l1 (i141 : Int) : (Int × (List Int)) → Option ((Int × (List Int)) ⊕ (List Int)) := fun ((i227, l228) : (Int × (List Int))) => cond (decide (0 ≤ i227)) ((fn_container_heap_down_jp0ii_r i227 i141 l228).bind fun (t256, l257) => some (.inl ((IntKind.wrap .i64 (i227 - 1), l257)))) (some (.inr (l228)))
noncomputable def fn_container_heap_Init_jp0_r (qa0 : (List Int)) : Option (List Int) :=
 (fn_scc_ready_Len qa0).bind fun i141 => (loop (fn_container_heap_Init_jp0_r_l1 i141) ((IntKind.wrap .i64 ((IntKind.wrap .i64 (Int.tdiv i141 2)) - 1), qa0)) : Option (List Int)).bind fun l203 => some (l203)
noncomputable def h_container_heap_Init_jp0_r : Hn Try.prog := .cl ok_scc_ready_Len [1] (.jn [] ⟨[], [⟨(some 0), 94, [.own 3 (.int .i64)], false, false, none, false⟩]⟩ [1, 0] (.lp ⟨[(3, .dat (.int .i64))], [⟨(some 0), 94, [.own 3 (.int .i64)], false, false, none, false⟩]⟩ (.tw 10 (.cl ok_container_heap_down_jp0ii_r [] (.nil)) (.nil))) (.nil))
noncomputable def sp_container_heap_Init_jp0_r : Spec := ⟨50, ⟨[(0, .ifc 96 (.ptr 0 0))], [⟨none, 94, [.own 3 (.int .i64)], false, false, none, false⟩]⟩, [⟨[], [⟨(some 0), 94, [.own 3 (.int .i64)], false, false, none, false⟩]⟩], fun x => fn_container_heap_Init_jp0_r x⟩
theorem container_heap_Init_jp0_r_is : SpecOk Try.prog sp_container_heap_Init_jp0_r := fn_is Try.func50 h_container_heap_Init_jp0_r (by kernel_rfl) (by kernel_rfl)
noncomputable def ok_container_heap_Init_jp0_r : OkSpec Try.prog := ⟨sp_container_heap_Init_jp0_r, container_heap_Init_jp0_r_is, Try.call50⟩

noncomputable def fn_scc_ready_Pop_p0_r (qa0 : (List Int)) : Option ((Int × (List Int))) :=
 (getI qa0 (IntKind.wrap .i64 ((((qa0.length : Nat) : Int)) - 1))).bind fun x19 => (subL qa0 0 (IntKind.wrap .i64 ((((qa0.length : Nat) : Int)) - 1))).bind fun y26 => some ((x19, y26))
noncomputable def h_scc_ready_Pop_p0_r : Hn Try.prog := .tru  (.nil)
noncomputable def sp_scc_ready_Pop_p0_r : Spec := ⟨105, ⟨[(0, .ptr 0 0)], [⟨none, 94, [.own 3 (.int .i64)], false, false, none, false⟩]⟩, [⟨[(0, .ifc 3 (.dat (.int .i64)))], [⟨(some 0), 94, [.own 3 (.int .i64)], false, false, none, false⟩]⟩], fun x => fn_scc_ready_Pop_p0_r x⟩
theorem scc_ready_Pop_p0_r_is : SpecOk Try.prog sp_scc_ready_Pop_p0_r := fn_is Try.func105 h_scc_ready_Pop_p0_r (by kernel_rfl) (by kernel_rfl)
noncomputable def ok_scc_ready_Pop_p0_r : OkSpec Try.prog := ⟨sp_scc_ready_Pop_p0_r, scc_ready_Pop_p0_r_is, Try.call105⟩

noncomputable def fn_container_heap_Pop_jp0_r (qa0 : (List Int)) : Option ((Int × (List Int))) :=
 (fn_scc_ready_Len qa0).bind fun i51 => (fn_scc_ready_Swap_rpii 0 (IntKind.wrap .i64 (i51 - 1)) qa0).bind fun l57 => (fn_container_heap_down_jp0ii_r 0 (IntKind.wrap .i64 (i51 - 1)) l57).bind fun (t63, l64) => (fn_scc_ready_Pop_p0_r l64).bind fun (i75, l76) => some ((i75, l76))
noncomputable def h_container_heap_Pop_jp0_r : Hn Try.prog := .cl ok_scc_ready_Len [1] (.cl ok_scc_ready_Swap_rpii [] (.cl ok_container_heap_down_jp0ii_r [] (.cl ok_scc_ready_Pop_p0_r [] (.nil))))
noncomputable def sp_container_heap_Pop_jp0_r : Spec := ⟨52, ⟨[(0, .ifc 96 (.ptr 0 0))], [⟨none, 94, [.own 3 (.int .i64)], false, false, none, false⟩]⟩, [⟨[(0, .ifc 3 (.dat (.int .i64)))], [⟨(some 0), 94, [.own 3 (.int .i64)], false, false, none, false⟩]⟩], fun x => fn_container_heap_Pop_jp0_r x⟩
theorem container_heap_Pop_jp0_r_is : SpecOk Try.prog sp_container_heap_Pop_jp0_r := fn_is Try.func52 h_container_heap_Pop_jp0_r (by kernel_rfl) (by kernel_rfl)
noncomputable def ok_container_heap_Pop_jp0_r : OkSpec Try.prog := ⟨sp_container_heap_Pop_jp0_r, container_heap_Pop_jp0_r_is, Try.call52⟩

noncomputable def fn_scc_ready_Push_p0ji_r (qxb : Int) (qa0 : (List Int)) : Option (List Int) :=
 (app qa0 ([qxb] : List Int)).bind fun z18 => some (z18)
noncomputable def h_scc_ready_Push_p0ji_r : Hn Try.prog := .nil
noncomputable def sp_scc_ready_Push_p0ji_r : Spec := ⟨106, ⟨[(0, .ptr 0 0), (1, .ifc 3 (.dat (.int .i64)))], [⟨none, 94, [.own 3 (.int .i64)], false, false, none, false⟩]⟩, [⟨[], [⟨(some 0), 94, [.own 3 (.int .i64)], false, false, none, false⟩]⟩], fun x => fn_scc_ready_Push_p0ji_r x.1 x.2⟩
theorem scc_ready_Push_p0ji_r_is : SpecOk Try.prog sp_scc_ready_Push_p0ji_r := fn_is Try.func106 h_scc_ready_Push_p0ji_r (by kernel_rfl) (by kernel_rfl)
noncomputable def ok_scc_ready_Push_p0ji_r : OkSpec Try.prog := ⟨sp_scc_ready_Push_p0ji_r, scc_ready_Push_p0ji_r_is, Try.call106⟩
noncomputable def fn_container_heap_up_jp0i_r_l1  : (Int × (List Int)) → Option ((Int × (List Int)) ⊕ (List Int)) := fun ((i359, l360) : (Int × (List Int))) => (cond (decide ((IntKind.wrap .i64 (Int.tdiv (IntKind.wrap .i64 (i359 - 1)) 2)) = i359)) (some (true)) ((fn_scc_ready_Less l360 i359 (IntKind.wrap .i64 (Int.tdiv (IntKind.wrap .i64 (i359 - 1)) 2))).bind fun t417 => some (!t417))).bind fun t410 => cond (t410) (some (.inr (l360))) ((fn_scc_ready_Swap_rpii (IntKind.wrap .i64 (Int.tdiv (IntKind.wrap .i64 (i359 - 1)) 2)) i359 l360).bind fun l424 => some (.inl ((IntKind.wrap .i64 (Int.tdiv (IntKind.wrap .i64 (i359 - 1)) 2), l424))))
noncomputable def fn_container_heap_up_jp0i_r (xb : Int) (qa0 : (List Int)) : Option (List Int) :=
 (loop (fn_container_heap_up_jp0i_r_l1) (xb, qa0) : Option (List Int)).bind fun l320 => some (l320)
noncomputable def h_container_heap_up_jp0i_r : Hn Try.prog := .jn [] ⟨[], [⟨(some 0), 94, [.own 3 (.int .i64)], false, false, none, false⟩]⟩ [1, 0] (.lp ⟨[(1, .dat (.int .i64))], [⟨(some 0), 94, [.own 3 (.int .i64)], false, false, none, false⟩]⟩ (.gj 5 ⟨[(17, .dat .bool)], []⟩ [] (.two 11 (.nil) (.cl ok_scc_ready_Less [4] (.nil))) (.tw 17 (.nil) (.cl ok_scc_ready_Swap_rpii [] (.nil))))) (.nil)
noncomputable def sp_container_heap_up_jp0i_r : Spec := ⟨64, ⟨[(0, .ifc 96 (.ptr 0 0)), (1, .dat (.int .i64))], [⟨none, 94, [.own 3 (.int .i64)], false, false, none, false⟩]⟩, [⟨[], [⟨(some 0), 94, [.own 3 (.int .i64)], false, false, none, false⟩]⟩], fun x => fn_container_heap_up_jp0i_r x.1 x.2⟩
theorem container_heap_up_jp0i_r_is : SpecOk Try.prog sp_container_heap_up_jp0i_r := fn_is Try.func64 h_container_heap_up_jp0i_r (by kernel_rfl) (by kernel_rfl)
noncomputable def ok_container_heap_up_jp0i_r : OkSpec Try.prog := ⟨sp_container_heap_up_jp0i_r, container_heap_up_jp0i_r_is, Try.call64⟩

noncomputable def fn_container_heap_Push_jp0ji_r (qxb : Int) (qa0 : (List Int)) : Option (List Int) :=
 (fn_scc_ready_Push_p0ji_r qxb qa0).bind fun l40 => (fn_scc_ready_Len l40).bind fun i54 => (fn_container_heap_up_jp0i_r (IntKind.wrap .i64 (i54 - 1)) l40).bind fun l60 => some (l60)
noncomputable def h_container_heap_Push_jp0ji_r : Hn Try.prog := .cl ok_scc_ready_Push_p0ji_r [] (.cl ok_scc_ready_Len [7] (.cl ok_container_heap_up_jp0i_r [] (.nil)))
noncomputable def sp_container_heap_Push_jp0ji_r : Spec := ⟨53, ⟨[(0, .ifc 96 (.ptr 0 0)), (1, .ifc 3 (.dat (.int .i64)))], [⟨none, 94, [.own 3 (.int .i64)], false, false, none, false⟩]⟩, [⟨[], [⟨(some 0), 94, [.own 3 (.int .i64)], false, false, none, false⟩]⟩], fun x => fn_container_heap_Push_jp0ji_r x.1 x.2⟩
theorem container_heap_Push_jp0ji_r_is : SpecOk Try.prog sp_container_heap_Push_jp0ji_r := fn_is Try.func53 h_container_heap_Push_jp0ji_r (by kernel_rfl) (by kernel_rfl)
noncomputable def ok_container_heap_Push_jp0ji_r : OkSpec Try.prog := ⟨sp_container_heap_Push_jp0ji_r, container_heap_Push_jp0ji_r_is, Try.call53⟩
noncomputable def fn_scc_number_l1 (xb : (List (List Int))) (l11396 : (List Int)) : (Int × (List Int)) → Option ((Int × (List Int)) ⊕ (List Int)) := fun ((i11749, l11750) : (Int × (List Int))) => cond (decide (i11749 < (((xb.length : Nat) : Int)))) ((getI xb i11749).bind fun x11840 => (getI l11396 i11749).bind fun x11853 => cond (decide (x11853 = 0)) ((getI x11840 0).bind fun x11897 => (app l11750 ([x11897] : List Int)).bind fun z11909 => some (.inl ((IntKind.wrap .i64 (i11749 + 1), z11909)))) (some (.inl ((IntKind.wrap .i64 (i11749 + 1), l11750))))) (some (.inr (l11750)))
noncomputable def fn_scc_number_l2 (l15831 : (List (List Int))) (x16833 : (List Int)) : (Int × (List Int)) → Option ((Int × (List Int)) ⊕ (List Int)) := fun ((i17048, l17049) : (Int × (List Int))) => cond (decide (i17048 < (((x16833.length : Nat) : Int)))) ((getI x16833 i17048).bind fun x17105 => (getI l17049 x17105).bind fun x17135 => (some (l17049.set x17105.toNat (((l15831.length : Nat) : Int)))).bind fun z17142 => some (.inl ((IntKind.wrap .i64 (i17048 + 1), z17142)))) (some (.inr (l17049)))
noncomputable def fn_scc_number_l3 (xb : (List (List Int))) (x17235 : (List Int)) : ((List Int) × Int × (List Int)) → Option (((List Int) × Int × (List Int)) ⊕ ((List Int) × (List Int))) := fun ((l17583, i17588, l17589) : ((List Int) × Int × (List Int))) => cond (decide (i17588 < (((x17235.length : Nat) : Int)))) ((getI x17235 i17588).bind fun x17677 => (getI l17583 x17677).bind fun x17686 => (getI l17583 x17677).bind fun x17693 => (some (l17583.set x17677.toNat (IntKind.wrap .i64 (x17686 - 1)))).bind fun z17700 => (getI z17700 x17677).bind fun x17705 => cond (decide (x17705 = 0)) ((getI xb x17677).bind fun x17713 => (getI x17713 0).bind fun x17726 => (fn_container_heap_Push_jp0ji_r x17726 l17589).bind fun l17737 => some (.inl ((z17700, IntKind.wrap .i64 (i17588 + 1), l17737)))) (some (.inl ((z17700, IntKind.wrap .i64 (i17588 + 1), l17589))))) (some (.inr (((l17583, l17589)))))
noncomputable def fn_scc_number_l4 (xb : (List (List Int))) (l11382 : (List Int)) (l11395 : (List (List Int))) : ((List Int) × (List Int) × (List Int) × (List (List Int))) → Option (((List Int) × (List Int) × (List Int) × (List (List Int))) ⊕ ((List Int) × (List (List Int)))) := fun ((l15816, l15821, l15826, l15831) : ((List Int) × (List Int) × (List Int) × (List (List Int)))) => (fn_scc_ready_Len l15821).bind fun i16807 => cond (decide (0 < i16807)) ((fn_container_heap_Pop_jp0_r l15821).bind fun (i16814, l16815) => (getI l11382 i16814).bind fun x16824 => (getI xb x16824).bind fun x16833 => (loop (fn_scc_number_l2 l15831 x16833) (0, l15826) : Option (List Int)).bind fun l16994 => (getI xb x16824).bind fun x17213 => (app l15831 (([x17213] : List (List Int)))).bind fun z17229 => (getI l11395 x16824).bind fun x17235 => (loop (fn_scc_number_l3 xb x17235) (l15816, 0, l16815) : Option (((List Int) × (List Int)))).bind fun (l17492, l17497) => some (.inl (l17492, l17497, l16994, z17229))) (some (.inr (((l15826, l15831)))))
noncomputable def fn_scc_number (xa : (List (List Int))) (xb : (List (List Int))) : Option ((Option ((List Int) × (List (List Int))))) :=
 (fn_scc_homes (((xa.length : Nat) : Int)) xb).bind fun l11382 => (fn_scc_between xa l11382 (((xb.length : Nat) : Int))).bind fun (l11395, l11396) => (loop (fn_scc_number_l1 xb l11396) (0, []) : Option (List Int)).bind fun l11660 => (fn_container_heap_Init_jp0_r l11660).bind fun l11917 => (mk (((xa.length : Nat) : Int)) (((xa.length : Nat) : Int)) 0 : Option (List Int)).bind fun z11926 => (loop (fn_scc_number_l4 xb l11382 l11395) (l11396, l11917, z11926, []) : Option (((List Int) × (List (List Int))))).bind fun (l14834, l14839) => some ((some (l14834, l14839)))
noncomputable def h_scc_number : Hn Try.prog := .cl ok_scc_homes [] (.per 0 1 (.cl ok_scc_between [] (.per 2 3 (.jn [] ⟨[], [⟨(some 6), 94, [.own 3 (.int .i64)], false, false, none, false⟩]⟩ [6] (.lp ⟨[(33, .dat (.int .i64))], [⟨(some 6), 94, [.own 3 (.int .i64)], false, false, none, false⟩]⟩ (.tw 34 (.tw 42 (.mix [([0, 1, 2, 3], 4)] [] [5, 6] [] (.nil)) (.nil)) (.nil))) (.cl ok_container_heap_Init_jp0_r [] (.jn [] ⟨[(7, .any), (54, .any), (55, .any)], [⟨(some 19), 77, [.own 3 (.int .i64), .own 28 (.sl (.int .i64))], false, false, none, false⟩]⟩ [19, 17, 14, 6, 4] (.lp ⟨[(7, .own 3 (.int .i64))], [⟨(some 6), 94, [.own 3 (.int .i64)], false, false, none, false⟩, ⟨(some 19), 77, [.own 3 (.int .i64), .own 28 (.sl (.int .i64))], false, false, none, false⟩]⟩ (.cl ok_scc_ready_Len [23] (.tw 59 (.cl ok_container_heap_Pop_jp0_r [] (.jn [(19, 1)] ⟨[], [⟨(some 19), 77, [.own 3 (.int .i64), .is 1 (.any)], false, false, none, false⟩, ⟨(some 37), 0, [], false, true, none, false⟩]⟩ [19, 26] (.lp ⟨[(75, .dat (.int .i64))], [⟨(some 19), 77, [.own 3 (.int .i64), .is 1 (.any)], false, false, none, false⟩, ⟨(some 37), 0, [], false, true, none, false⟩]⟩ (.tw 76 (.mix [] [0, 1, 2, 3, 4, 5, 6, 7, 8, 9, 10] [11] [] (.nil)) (.nil))) (.mix [([0, 1, 2, 3, 4, 5, 6, 7, 8], 9), ([], 10)] [11, 12] [13] [28] (.jn [] ⟨[(7, .own 3 (.int .i64))], [⟨(some 6), 94, [.own 3 (.int .i64)], false, false, none, false⟩]⟩ [6, 21, 34] (.lp ⟨[(7, .own 3 (.int .i64)), (109, .dat (.int .i64))], [⟨(some 6), 94, [.own 3 (.int .i64)], false, false, none, false⟩]⟩ (.tw 110 (.tw 123 (.cl ok_container_heap_Push_jp0ji_r [] (.nil)) (.nil)) (.nil))) (.nil))))) (.nil)))) (.per 21 22 (.per 23 24 (.perb 19 25 (.cons (.sl (.int .i64)) (.one (.sl (.sl (.int .i64))))) (.nil))))))))))
noncomputable def sp_scc_number : Spec := ⟨36, ⟨[(0, .dat (.sl (.sl (.int .i64)))), (1, .dat (.sl (.sl (.int .i64))))], []⟩, [⟨[(0, .dat (.ptr (.cons (.sl (.int .i64)) (.one (.sl (.sl (.int .i64)))))))], []⟩], fun x => fn_scc_number x.1 x.2⟩
theorem scc_number_is : SpecOk Try.prog sp_scc_number := fn_is Try.func36 h_scc_number (by kernel_rfl) (by kernel_rfl)
noncomputable def ok_scc_number : OkSpec Try.prog := ⟨sp_scc_number, scc_number_is, Try.call36⟩
noncomputable def fn_scc_Of_kpz_l1 (xa : (Option (Int × (List (Int × Int)) × ((List Int) × (List Int)) × ((List Int) × (List Int))))) (z1286 : List (List Int)) : (Int × (List (List Int))) → Option ((Int × (List (List Int))) ⊕ (List (List Int))) := fun ((i1439, l1440) : (Int × (List (List Int)))) => cond (decide (i1439 < (((z1286.length : Nat) : Int)))) ((getI l1440 i1439).bind fun x1490 => (fn_graph_Graph_Next xa i1439).bind fun l1506 => (getI l1440 i1439).bind fun _ => (chkI i1439 i1439).bind fun _ => some (.inl ((IntKind.wrap .i64 (i1439 + 1), l1440.set i1439.toNat l1506)))) (some (.inr (l1440)))
noncomputable def fn_scc_Of_kpz_l2 (l1401 : (List (List Int))) : (Int × (List Int) × (List Int) × (List Int) × (List Int) × Int × (List Int) × (List Int) × (List (List Int))) → Option ((Int × (List Int) × (List Int) × (List Int) × (List Int) × Int × (List Int) × (List Int) × (List (List Int))) ⊕ ((List Int) × (List Int) × (List Int) × (List Int) × Int × (List Int) × (List Int) × (List (List Int)))) := fun ((i2072, l2073, l2078, l2083, l2088, i2093, l2094, l2099, l2104) : (Int × (List Int) × (List Int) × (List Int) × (List Int) × Int × (List Int) × (List Int) × (List (List Int)))) => cond (decide (i2072 < (((l1401.length : Nat) : Int)))) ((getI l2078 i2072).bind fun x2255 => cond (decide (x2255 = 0)) ((fn_scc_finder_walk_p0i_krrrrirrod i2072 l1401 l2073 l2078 l2083 l2088 i2093 l2094 l2099 l2104).bind fun (l2309, l2310, l2311, l2312, i2313, l2314, l2315, l2316) => some (.inl ((IntKind.wrap .i64 (i2072 + 1), l2309, l2310, l2311, l2312, i2313, l2314, l2315, l2316)))) (some (.inl ((IntKind.wrap .i64 (i2072 + 1), l2073, l2078, l2083, l2088, i2093, l2094, l2099, l2104))))) (some (.inr (((l2073, l2078, l2083, l2088, i2093, l2094, l2099, l2104)))))
noncomputable def fn_scc_Of_kpz (xa : (Option (Int × (List (Int × Int)) × ((List Int) × (List Int)) × ((List Int) × (List Int))))) : Option ((Option ((List Int) × (List (List Int))))) :=
 (fn_graph_Graph_Nodes xa).bind fun i1265 => (fn_graph_Graph_Arcs xa).bind fun i1271 => (fn_tick_Counter_Add_zii 4 (IntKind.wrap .i64 (i1265 + i1271))).bind fun _ => (fn_graph_Graph_Nodes xa).bind fun i1282 => (mk i1282 i1282 ([]) : Option (List (List Int))).bind fun z1286 => (loop (fn_scc_Of_kpz_l1 xa z1286) (0, z1286) : Option ((List (List Int)))).bind fun l1401 => (fn_scc_newFinder l1401).bind fun (l1550, l1551, l1552, l1553) => (loop (fn_scc_Of_kpz_l2 l1401) (0, l1550, l1551, l1552, l1553, 0, [], [], []) : Option (((List Int) × (List Int) × (List Int) × (List Int) × Int × (List Int) × (List Int) × (List (List Int))))).bind fun (l1946, l1951, l1956, l1961, i1966, l1967, l1972, l1977) => (fn_scc_number l1401 l1977).bind fun p2369 => some (p2369)
noncomputable def h_scc_Of_kpz : Hn Try.prog := .cl ok_graph_Graph_Nodes [] (.cl ok_graph_Graph_Arcs [] (.cl ok_tick_Counter_Add_zii [] (.cl ok_graph_Graph_Nodes [] (.ot (.row 3 (.dat (.int .i64))) (.jn [] ⟨[], [⟨(some 0), 0, [], false, false, some (.row 28 (.row 3 (.dat (.int .i64)))), false⟩]⟩ [0] (.lp ⟨[(21, .dat (.int .i64))], [⟨(some 0), 0, [], false, false, some (.row 28 (.row 3 (.dat (.int .i64)))), false⟩]⟩ (.tw 22 (.opn 0 25 (.cl ok_graph_Graph_Next [] (.cls 0 8 (.nil)))) (.nil))) (.per 0 2 (.ms 31 (.cl ok_scc_newFinder [] (.jn [] ⟨[], [⟨(some 4), 70, [.is 1 (.any), .own 3 (.int .i64), .own 3 (.int .i64), .own 3 (.int .i64), .own 3 (.int .i64), .dat (.int .i64), .own 3 (.int .i64), .own 3 (.int .i64), .od (.row 28 (.row 3 (.dat (.int .i64))))], false, false, none, false⟩, ⟨(some 3), 0, [], false, true, none, false⟩]⟩ [11, 9, 7, 5, 4] (.lp ⟨[(35, .dat (.int .i64))], [⟨(some 4), 70, [.is 1 (.any), .own 3 (.int .i64), .own 3 (.int .i64), .own 3 (.int .i64), .own 3 (.int .i64), .dat (.int .i64), .own 3 (.int .i64), .own 3 (.int .i64), .od (.row 28 (.row 3 (.dat (.int .i64))))], false, false, none, false⟩, ⟨(some 3), 0, [], false, true, none, false⟩]⟩ (.tw 36 (.tw 45 (.cl ok_scc_finder_walk_p0i_krrrrirrod [] (.nil)) (.nil)) (.nil))) (.per 26 27 (.cl ok_scc_number [] (.nil))))))))))))
noncomputable def sp_scc_Of_kpz : Spec := ⟨21, ⟨[(0, .dat (.ptr (.cons (.int .i64) (.cons (.sl (.cons (.int .i64) (.one (.int .i64)))) (.cons (.cons (.sl (.int .i64)) (.one (.sl (.int .i64)))) (.one (.cons (.sl (.int .i64)) (.one (.sl (.int .i64)))))))))), (1, .nilp)], []⟩, [⟨[(0, .dat (.ptr (.cons (.sl (.int .i64)) (.one (.sl (.sl (.int .i64)))))))], []⟩], fun x => fn_scc_Of_kpz x⟩
theorem scc_Of_kpz_is : SpecOk Try.prog sp_scc_Of_kpz := fn_is Try.func21 h_scc_Of_kpz (by kernel_rfl) (by kernel_rfl)
noncomputable def ok_scc_Of_kpz : OkSpec Try.prog := ⟨sp_scc_Of_kpz, scc_Of_kpz_is, Try.call21⟩

noncomputable def fn_scc_Parts_Len (xa : (Option ((List Int) × (List (List Int))))) : Option Int :=
 cond (xa.isNone) (some (0)) ((xa : Option ((List Int) × (List (List Int)))).bind fun y14 => some (((y14.2.length : Nat) : Int)))
noncomputable def h_scc_Parts_Len : Hn Try.prog := .tw 4 (.nil) (.nil)
noncomputable def sp_scc_Parts_Len : Spec := ⟨24, ⟨[(0, .dat (.ptr (.cons (.sl (.int .i64)) (.one (.sl (.sl (.int .i64)))))))], []⟩, [⟨[(0, .dat (.int .i64))], []⟩], fun x => fn_scc_Parts_Len x⟩
theorem scc_Parts_Len_is : SpecOk Try.prog sp_scc_Parts_Len := fn_is Try.func24 h_scc_Parts_Len (by kernel_rfl) (by kernel_rfl)
noncomputable def ok_scc_Parts_Len : OkSpec Try.prog := ⟨sp_scc_Parts_Len, scc_Parts_Len_is, Try.call24⟩

noncomputable def fn_scc_Parts_Members (xa : (Option ((List Int) × (List (List Int))))) (xb : Int) : Option (List Int) :=
 (cond (decide (xb < 0)) (some (true)) ((fn_scc_Parts_Len xa).bind fun i66 => some (decide (i66 ≤ xb)))).bind fun t62 => cond (t62) (some ([])) ((xa : Option ((List Int) × (List (List Int)))).bind fun y72 => (getI y72.2 xb).bind fun x82 => (fn_slices_Clone_int_int x82).bind fun l97 => some (l97))
noncomputable def h_scc_Parts_Members : Hn Try.prog := .gj 4 ⟨[(12, .dat .bool)], []⟩ [] (.two 7 (.nil) (.cl ok_scc_Parts_Len [] (.nil))) (.tw 12 (.nil) (.cl ok_slices_Clone_int_int [] (.nil)))
noncomputable def sp_scc_Parts_Members : Spec := ⟨23, ⟨[(0, .dat (.ptr (.cons (.sl (.int .i64)) (.one (.sl (.sl (.int .i64))))))), (1, .dat (.int .i64))], []⟩, [⟨[(0, .own 3 (.int .i64))], []⟩], fun x => fn_scc_Parts_Members x.1 x.2⟩
theorem scc_Parts_Members_is : SpecOk Try.prog sp_scc_Parts_Members := fn_is Try.func23 h_scc_Parts_Members (by kernel_rfl) (by kernel_rfl)
noncomputable def ok_scc_Parts_Members : OkSpec Try.prog := ⟨sp_scc_Parts_Members, scc_Parts_Members_is, Try.call23⟩

noncomputable def fn_scc_Parts_Of (xa : (Option ((List Int) × (List (List Int))))) (xb : Int) : Option (Int × Bool) :=
 (cond (xa.isNone || (decide (xb < 0))) (some (true)) ((xa : Option ((List Int) × (List (List Int)))).bind fun y63 => some (decide ((((y63.1.length : Nat) : Int)) ≤ xb)))).bind fun t61 => cond (t61) (some ((0, false))) ((xa : Option ((List Int) × (List (List Int)))).bind fun y74 => (getI y74.1 xb).bind fun x84 => some ((x84, true)))
noncomputable def h_scc_Parts_Of : Hn Try.prog := .gp 2 (.wt 12 (.gj 7 ⟨[(20, .dat .bool)], []⟩ [] (.two 12 (.nil) (.nil)) (.tw 20 (.nil) (.nil))))
noncomputable def sp_scc_Parts_Of : Spec := ⟨54, ⟨[(0, .dat (.ptr (.cons (.sl (.int .i64)) (.one (.sl (.sl (.int .i64))))))), (1, .dat (.int .i64))], []⟩, [⟨[(0, .tup [.dat (.int .i64), .dat .bool])], []⟩], fun x => fn_scc_Parts_Of x.1 x.2⟩
theorem scc_Parts_Of_is : SpecOk Try.prog sp_scc_Parts_Of := fn_is Try.func54 h_scc_Parts_Of (by kernel_rfl) (by kernel_rfl)
noncomputable def ok_scc_Parts_Of : OkSpec Try.prog := ⟨sp_scc_Parts_Of, scc_Parts_Of_is, Try.call54⟩
noncomputable def fn_cond_leads_l1 (xb : (Option ((List Int) × (List (List Int))))) (xc : Int) (l3602 : (List Int)) : ((List Int) × Bool × Int) → Option (((List Int) × Bool × Int) ⊕ ((List Int) × Bool)) := fun ((l3745, t3750, i3751) : ((List Int) × Bool × Int)) => cond (decide (i3751 < (((l3602.length : Nat) : Int)))) ((getI l3602 i3751).bind fun x3786 => (fn_scc_Parts_Of xb x3786).bind fun (i3795, t3796) => cond (!decide (i3795 = xc)) ((app l3745 ([i3795] : List Int)).bind fun z3804 => some (.inl ((z3804, t3750, IntKind.wrap .i64 (i3751 + 1))))) (some (.inl ((l3745, true, IntKind.wrap .i64 (i3751 + 1)))))) (some (.inr (((l3745, t3750)))))
noncomputable def fn_cond_leads_l2 (xa : (Option (Int × (List (Int × Int)) × ((List Int) × (List Int)) × ((List Int) × (List Int))))) (xb : (Option ((List Int) × (List (List Int))))) (xc : Int) (l2430 : (List Int)) : ((List Int) × Bool × Int) → Option (((List Int) × Bool × Int) ⊕ ((List Int) × Bool)) := fun ((l3358, t3363, i3364) : ((List Int) × Bool × Int)) => cond (decide (i3364 < (((l2430.length : Nat) : Int)))) ((getI l2430 i3364).bind fun x3593 => (fn_graph_Graph_Next xa x3593).bind fun l3602 => (loop (fn_cond_leads_l1 xb xc l3602) (l3358, t3363, 0) : Option (((List Int) × Bool))).bind fun (l3707, t3712) => some (.inl ((l3707, t3712, IntKind.wrap .i64 (i3364 + 1))))) (some (.inr (((l3358, t3363)))))
noncomputable def fn_cond_leads (xa : (Option (Int × (List (Int × Int)) × ((List Int) × (List Int)) × ((List Int) × (List Int))))) (xb : (Option ((List Int) × (List (List Int))))) (xc : Int) : Option (((List Int) × Bool)) :=
 (fn_scc_Parts_Members xb xc).bind fun l2430 => (loop (fn_cond_leads_l2 xa xb xc l2430) ([], false, 0) : Option (((List Int) × Bool))).bind fun (l3121, t3126) => (srt l3121).bind fun l3810 => (cmpt l3810).bind fun l3811 => some ((l3811, t3126))
noncomputable def h_cond_leads : Hn Try.prog := .cl ok_scc_Parts_Members [] (.jn [] ⟨[(8, .own 3 (.int .i64)), (9, .dat .bool)], []⟩ [] (.lp ⟨[(8, .own 3 (.int .i64)), (9, .dat .bool), (20, .dat (.int .i64))], []⟩ (.tw 21 (.cl ok_graph_Graph_Next [] (.jn [] ⟨[(8, .own 3 (.int .i64)), (9, .dat .bool)], []⟩ [2] (.lp ⟨[(8, .own 3 (.int .i64)), (9, .dat .bool), (28, .dat (.int .i64))], []⟩ (.tw 29 (.cl ok_scc_Parts_Of [] (.tw 40 (.nil) (.nil))) (.nil))) (.nil))) (.nil))) (.cl ok_Sort [] (.cl ok_Compact [] (.nil))))
noncomputable def sp_cond_leads : Spec := ⟨37, ⟨[(0, .dat (.ptr (.cons (.int .i64) (.cons (.sl (.cons (.int .i64) (.one (.int .i64)))) (.cons (.cons (.sl (.int .i64)) (.one (.sl (.int .i64)))) (.one (.cons (.sl (.int .i64)) (.one (.sl (.int .i64)))))))))), (1, .dat (.ptr (.cons (.sl (.int .i64)) (.one (.sl (.sl (.int .i64))))))), (2, .dat (.int .i64))], []⟩, [⟨[(0, .tup [.own 3 (.int .i64), .dat .bool])], []⟩], fun x => fn_cond_leads x.1 x.2.1 x.2.2⟩
theorem cond_leads_is : SpecOk Try.prog sp_cond_leads := fn_is Try.func37 h_cond_leads (by kernel_rfl) (by kernel_rfl)
noncomputable def ok_cond_leads : OkSpec Try.prog := ⟨sp_cond_leads, cond_leads_is, Try.call37⟩
noncomputable def fn_cond_New_l1 (i16086 : Int) (x17228 : ((List Int) × (List Int) × Int × Bool)) : (Int × (List ((List Int) × (List Int) × Int × Bool))) → Option ((Int × (List ((List Int) × (List Int) × Int × Bool))) ⊕ (List ((List Int) × (List Int) × Int × Bool))) := fun ((i17924, l17925) : (Int × (List ((List Int) × (List Int) × Int × Bool)))) => cond (decide (i17924 < (((x17228.1.length : Nat) : Int)))) ((getI x17228.1 i17924).bind fun x18109 => (getI l17925 i16086).bind fun x18132 => (getI l17925 x18109).bind fun _ => (getI l17925 x18109).bind fun x18133 => (getI l17925 i16086).bind fun x18134 => (chkI i16086 i16086).bind fun _ => ((getI (l17925.set i16086.toNat ((x18134.1, x18134.2.1, if x18132.2.2.1 < IntKind.wrap .i64 (x18133.2.2.1 + 1) then IntKind.wrap .i64 (x18133.2.2.1 + 1) else x18132.2.2.1, x18134.2.2.2))) x18109).bind fun _ => ((getI (l17925.set i16086.toNat ((x18134.1, x18134.2.1, if x18132.2.2.1 < IntKind.wrap .i64 (x18133.2.2.1 + 1) then IntKind.wrap .i64 (x18133.2.2.1 + 1) else x18132.2.2.1, x18134.2.2.2))) x18109).bind fun x18237 => (chkI x18109 x18109).bind fun _ => (app x18237.2.1 ([i16086] : List Int)).bind fun z18246 => (getI (l17925.set i16086.toNat ((x18134.1, x18134.2.1, if x18132.2.2.1 < IntKind.wrap .i64 (x18133.2.2.1 + 1) then IntKind.wrap .i64 (x18133.2.2.1 + 1) else x18132.2.2.1, x18134.2.2.2))) x18109).bind fun _ => (chkI x18109 x18109).bind fun _ => some ((l17925.set i16086.toNat ((x18134.1, x18134.2.1, if x18132.2.2.1 < IntKind.wrap .i64 (x18133.2.2.1 + 1) then IntKind.wrap .i64 (x18133.2.2.1 + 1) else x18132.2.2.1, x18134.2.2.2))).set x18109.toNat (x18237.1, z18246, x18237.2.2.1, x18237.2.2.2))).bind fun x18267 => ((getI (l17925.set i16086.toNat ((x18134.1, x18134.2.1, if x18132.2.2.1 < IntKind.wrap .i64 (x18133.2.2.1 + 1) then IntKind.wrap .i64 (x18133.2.2.1 + 1) else x18132.2.2.1, x18134.2.2.2))) x18109).bind fun x18255 => (chkI x18109 x18109).bind fun _ => (app x18255.2.1 ([i16086] : List Int)).bind fun z18261 => (getI (l17925.set i16086.toNat ((x18134.1, x18134.2.1, if x18132.2.2.1 < IntKind.wrap .i64 (x18133.2.2.1 + 1) then IntKind.wrap .i64 (x18133.2.2.1 + 1) else x18132.2.2.1, x18134.2.2.2))) x18109).bind fun _ => (chkI x18109 x18109).bind fun _ => some ((l17925.set i16086.toNat ((x18134.1, x18134.2.1, if x18132.2.2.1 < IntKind.wrap .i64 (x18133.2.2.1 + 1) then IntKind.wrap .i64 (x18133.2.2.1 + 1) else x18132.2.2.1, x18134.2.2.2))).set x18109.toNat (x18255.1, z18261, x18255.2.2.1, x18255.2.2.2))).bind fun y18268 => agr x18267 y18268 (some x18267) : Option ((List ((List Int) × (List Int) × Int × Bool)))).bind fun l18204 => some (.inl ((IntKind.wrap .i64 (i17924 + 1), l18204)))) (some (.inr (l17925)))
noncomputable def fn_cond_New_l2 (xa : (Option (Int × (List (Int × Int)) × ((List Int) × (List Int)) × ((List Int) × (List Int))))) (xb : (Option ((List Int) × (List (List Int))))) (i11715 : Int) : (Int × (List ((List Int) × (List Int) × Int × Bool))) → Option ((Int × (List ((List Int) × (List Int) × Int × Bool))) ⊕ (List ((List Int) × (List Int) × Int × Bool))) := fun ((i16086, l16087) : (Int × (List ((List Int) × (List Int) × Int × Bool)))) => cond (decide (i16086 < i11715)) ((getI l16087 i16086).bind fun _ => (fn_cond_leads xa xb i16086).bind fun (l17204, t17205) => (getI l16087 i16086).bind fun x17213 => (chkI i16086 i16086).bind fun _ => (chkI i16086 i16086).bind fun _ => (getI (l16087.set i16086.toNat (l17204, x17213.2.1, x17213.2.2.1, t17205)) i16086).bind fun x17228 => (chkI i16086 i16086).bind fun _ => (loop (fn_cond_New_l1 i16086 x17228) ((0, (l16087.set i16086.toNat (l17204, x17213.2.1, x17213.2.2.1, t17205)).set i16086.toNat (x17228.1, x17228.2.1, x17228.2.2.1, x17228.2.2.2))) : Option ((List ((List Int) × (List Int) × Int × Bool)))).bind fun l17751 => some (.inl ((IntKind.wrap .i64 (i16086 + 1), l17751)))) (some (.inr (l16087)))
noncomputable def fn_cond_New (xa : (Option (Int × (List (Int × Int)) × ((List Int) × (List Int)) × ((List Int) × (List Int))))) (xb : (Option ((List Int) × (List (List Int))))) : Option ((Option (List ((List Int) × (List Int) × Int × Bool)))) :=
 (fn_scc_Parts_Len xb).bind fun i11699 => (mk i11699 i11699 ([], [], 0, false) : Option (List ((List Int) × (List Int) × Int × Bool))).bind fun z11703 => (fn_scc_Parts_Len xb).bind fun i11715 => (loop (fn_cond_New_l2 xa xb i11715) (0, z11703) : Option ((List ((List Int) × (List Int) × Int × Bool)))).bind fun l14994 => some ((some l14994))
noncomputable def h_cond_New : Hn Try.prog := .cl ok_scc_Parts_Len [] (.ot (.cons (.dat (.sl (.int .i64))) (.cons (.row 3 (.dat (.int .i64))) (.cons (.dat (.int .i64)) (.one (.dat .bool))))) (.cl ok_scc_Parts_Len [] (.jn [] ⟨[], [⟨(some 0), 0, [], false, false, some (.row 54 (.cons (.dat (.sl (.int .i64))) (.cons (.row 3 (.dat (.int .i64))) (.cons (.dat (.int .i64)) (.one (.dat .bool)))))), false⟩]⟩ [0] (.lp ⟨[(17, .dat (.int .i64))], [⟨(some 0), 0, [], false, false, some (.row 54 (.cons (.dat (.sl (.int .i64))) (.cons (.row 3 (.dat (.int .i64))) (.cons (.dat (.int .i64)) (.one (.dat .bool)))))), false⟩]⟩ (.tw 18 (.cl ok_cond_leads [] (.wt 36 (.opn 0 1000006 (.per 5 6 (.cls 0 11 (.wt 41 (.opn 0 1000006 (.wt 44 (.wt 1000016 (.cls 0 13 (.jn [] ⟨[], [⟨(some 0), 0, [], false, false, some (.row 54 (.cons (.dat (.sl (.int .i64))) (.cons (.row 3 (.dat (.int .i64))) (.cons (.dat (.int .i64)) (.one (.dat .bool)))))), false⟩]⟩ [0] (.lp ⟨[(44, .dat (.int .i64))], [⟨(some 0), 0, [], false, false, some (.row 54 (.cons (.dat (.sl (.int .i64))) (.cons (.row 3 (.dat (.int .i64))) (.cons (.dat (.int .i64)) (.one (.dat .bool)))))), false⟩]⟩ (.tw 45 (.mix [([0, 1, 2, 3, 4, 5, 6, 7, 8, 9, 10, 11, 12, 13], 14)] [15, 16] [17] [] (.wt 64 (.opn 0 1000006 (.cls 0 21 (.tr (.still [0, 1, 2, 3, 4, 5, 6, 7, 8, 9, 10, 11, 13] (.alt 12 (.alt 14 (.alt 15 (.still [16, 17] (.alt 18 (.leaf []) .done)) .done) .done) (.alt 14 (.alt 12 (.alt 15 (.still [16, 17] (.alt 18 (.leaf []) .done)) .done) .done) .done))) ⟨[], [⟨(some 0), 0, [], false, false, some (.row 54 (.cons (.dat (.sl (.int .i64))) (.cons (.row 3 (.dat (.int .i64))) (.cons (.dat (.int .i64)) (.one (.dat .bool)))))), false⟩]⟩ [0] (.two 0 (.wt 76 (.opn 0 1000009 (.cls 0 30 (.nil)))) (.wt 76 (.opn 0 1000009 (.cls 0 30 (.nil))))) (.nil)))))) (.nil))) (.nil)))))))))))) (.nil))) (.per 0 4 (.perb 2 3 (.one (.sl (.cons (.sl (.int .i64)) (.cons (.sl (.int .i64)) (.cons (.int .i64) (.one .bool)))))) (.nil))))))
noncomputable def sp_cond_New : Spec := ⟨22, ⟨[(0, .dat (.ptr (.cons (.int .i64) (.cons (.sl (.cons (.int .i64) (.one (.int .i64)))) (.cons (.cons (.sl (.int .i64)) (.one (.sl (.int .i64)))) (.one (.cons (.sl (.int .i64)) (.one (.sl (.int .i64)))))))))), (1, .dat (.ptr (.cons (.sl (.int .i64)) (.one (.sl (.sl (.int .i64)))))))], []⟩, [⟨[(0, .dat (.ptr (.one (.sl (.cons (.sl (.int .i64)) (.cons (.sl (.int .i64)) (.cons (.int .i64) (.one .bool))))))))], []⟩], fun x => fn_cond_New x.1 x.2⟩
theorem cond_New_is : SpecOk Try.prog sp_cond_New := fn_is Try.func22 h_cond_New (by kernel_rfl) (by kernel_rfl)
noncomputable def ok_cond_New : OkSpec Try.prog := ⟨sp_cond_New, cond_New_is, Try.call22⟩

noncomputable def fn_law12_of (xa : Int) (xb : (List (Int × Int))) : Option (((Option (List ((List Int) × (List Int) × Int × Bool))) × Bool)) :=
 (fn_law10_Of xa xb).bind fun (p32, i33) => (fn_scc_Of_kpz p32).bind fun p41 => (fn_cond_New p32 p41).bind fun p49 => some ((p49, decide (i33 = 0)))
noncomputable def h_law12_of : Hn Try.prog := .cl ok_law10_Of [] (.cl ok_scc_Of_kpz [] (.cl ok_cond_New [] (.nil)))
noncomputable def sp_law12_of : Spec := ⟨6, ⟨[(0, .dat (.int .i64)), (1, .dat (.sl (.cons (.int .i64) (.one (.int .i64)))))], []⟩, [⟨[(0, .tup [.dat (.ptr (.one (.sl (.cons (.sl (.int .i64)) (.cons (.sl (.int .i64)) (.cons (.int .i64) (.one .bool))))))), .dat .bool])], []⟩], fun x => fn_law12_of x.1 x.2⟩
theorem law12_of_is : SpecOk Try.prog sp_law12_of := fn_is Try.func6 h_law12_of (by kernel_rfl) (by kernel_rfl)
noncomputable def ok_law12_of : OkSpec Try.prog := ⟨sp_law12_of, law12_of_is, Try.call6⟩

noncomputable def fn_cond_Cond_Len (xa : (Option (List ((List Int) × (List Int) × Int × Bool)))) : Option Int :=
 cond (xa.isNone) (some (0)) ((xa : Option (List ((List Int) × (List Int) × Int × Bool))).bind fun y14 => some (((y14.length : Nat) : Int)))
noncomputable def h_cond_Cond_Len : Hn Try.prog := .tw 4 (.nil) (.nil)
noncomputable def sp_cond_Cond_Len : Spec := ⟨7, ⟨[(0, .dat (.ptr (.one (.sl (.cons (.sl (.int .i64)) (.cons (.sl (.int .i64)) (.cons (.int .i64) (.one .bool))))))))], []⟩, [⟨[(0, .dat (.int .i64))], []⟩], fun x => fn_cond_Cond_Len x⟩
theorem cond_Cond_Len_is : SpecOk Try.prog sp_cond_Cond_Len := fn_is Try.func7 h_cond_Cond_Len (by kernel_rfl) (by kernel_rfl)
noncomputable def ok_cond_Cond_Len : OkSpec Try.prog := ⟨sp_cond_Cond_Len, cond_Cond_Len_is, Try.call7⟩

noncomputable def fn_cond_Cond_of (xa : (Option (List ((List Int) × (List Int) × Int × Bool)))) (xb : Int) : Option (((List Int) × (List Int) × Int × Bool)) :=
 (cond (decide (xb < 0)) (some (true)) ((fn_cond_Cond_Len xa).bind fun i67 => some (decide (i67 ≤ xb)))).bind fun t63 => cond (t63) (some (([], [], 0, false))) ((xa : Option (List ((List Int) × (List Int) × Int × Bool))).bind fun y72 => (getI y72 xb).bind fun x82 => some ((x82.1, x82.2.1, x82.2.2.1, x82.2.2.2)))
noncomputable def h_cond_Cond_of : Hn Try.prog := .gj 4 ⟨[(12, .dat .bool)], []⟩ [] (.two 7 (.nil) (.cl ok_cond_Cond_Len [] (.nil))) (.tw 12 (.nil) (.nil))
noncomputable def sp_cond_Cond_of : Spec := ⟨28, ⟨[(0, .dat (.ptr (.one (.sl (.cons (.sl (.int .i64)) (.cons (.sl (.int .i64)) (.cons (.int .i64) (.one .bool)))))))), (1, .dat (.int .i64))], []⟩, [⟨[(0, .agg [.dat (.sl (.int .i64)), .dat (.sl (.int .i64)), .dat (.int .i64), .dat .bool])], []⟩], fun x => fn_cond_Cond_of x.1 x.2⟩
theorem cond_Cond_of_is : SpecOk Try.prog sp_cond_Cond_of := fn_is Try.func28 h_cond_Cond_of (by kernel_rfl) (by kernel_rfl)
noncomputable def ok_cond_Cond_of : OkSpec Try.prog := ⟨sp_cond_Cond_of, cond_Cond_of_is, Try.call28⟩

noncomputable def fn_cond_Cond_Next (xa : (Option (List ((List Int) × (List Int) × Int × Bool)))) (xb : Int) : Option (List Int) :=
 (fn_cond_Cond_of xa xb).bind fun (l33, l34, i35, t36) => (fn_slices_Clone_int_int l33).bind fun l48 => some (l48)
noncomputable def h_cond_Cond_Next : Hn Try.prog := .cl ok_cond_Cond_of [] (.cl ok_slices_Clone_int_int [] (.nil))
noncomputable def sp_cond_Cond_Next : Spec := ⟨15, ⟨[(0, .dat (.ptr (.one (.sl (.cons (.sl (.int .i64)) (.cons (.sl (.int .i64)) (.cons (.int .i64) (.one .bool)))))))), (1, .dat (.int .i64))], []⟩, [⟨[(0, .own 3 (.int .i64))], []⟩], fun x => fn_cond_Cond_Next x.1 x.2⟩
theorem cond_Cond_Next_is : SpecOk Try.prog sp_cond_Cond_Next := fn_is Try.func15 h_cond_Cond_Next (by kernel_rfl) (by kernel_rfl)
noncomputable def ok_cond_Cond_Next : OkSpec Try.prog := ⟨sp_cond_Cond_Next, cond_Cond_Next_is, Try.call15⟩
noncomputable def fn_ref01_Same_l1 (xa : (List Int)) (xb : (List Int)) : Int → Option (Int ⊕ (Unit ⊕ Bool)) := fun (i757 : Int) => cond (decide (i757 < (((xa.length : Nat) : Int)))) ((getI xa i757).bind fun x889 => (getI xb i757).bind fun x898 => cond (!decide (x889 = x898)) (some (.inr ((.inr (false))))) (some (.inl (IntKind.wrap .i64 (i757 + 1))))) (some (.inr ((.inl ()))))
noncomputable def fn_ref01_Same (xa : (List Int)) (xb : (List Int)) : Option Bool :=
 cond (!decide ((((xa.length : Nat) : Int)) = (((xb.length : Nat) : Int)))) (some (false)) ((loop (fn_ref01_Same_l1 xa xb) 0 : Option (Unit ⊕ Bool)).bind fun o => match o with | .inr r => some r | .inl () => some (true))
noncomputable def h_ref01_Same : Hn Try.prog := .tw 10 (.nil) (.jx [] ⟨[], []⟩ [] (.lp ⟨[(5, .dat (.int .i64))], []⟩ (.tw 14 (.mix [] [0, 1, 2, 3, 4, 5, 6, 7, 8] [] [] (.tw 25 (.nil) (.nil))) (.nil))) (.nil))
noncomputable def sp_ref01_Same : Spec := ⟨14, ⟨[(0, .dat (.sl (.int .i64))), (1, .dat (.sl (.int .i64)))], []⟩, [⟨[(0, .dat .bool)], []⟩], fun x => fn_ref01_Same x.1 x.2⟩
theorem ref01_Same_is : SpecOk Try.prog sp_ref01_Same := fn_is Try.func14 h_ref01_Same (by kernel_rfl) (by kernel_rfl)
noncomputable def ok_ref01_Same : OkSpec Try.prog := ⟨sp_ref01_Same, ref01_Same_is, Try.call14⟩

noncomputable def fn_cond_Cond_Back (xa : (Option (List ((List Int) × (List Int) × Int × Bool)))) (xb : Int) : Option (List Int) :=
 (fn_cond_Cond_of xa xb).bind fun (l33, l34, i35, t36) => (fn_slices_Clone_int_int l34).bind fun l48 => some (l48)
noncomputable def h_cond_Cond_Back : Hn Try.prog := .cl ok_cond_Cond_of [] (.cl ok_slices_Clone_int_int [] (.nil))
noncomputable def sp_cond_Cond_Back : Spec := ⟨16, ⟨[(0, .dat (.ptr (.one (.sl (.cons (.sl (.int .i64)) (.cons (.sl (.int .i64)) (.cons (.int .i64) (.one .bool)))))))), (1, .dat (.int .i64))], []⟩, [⟨[(0, .own 3 (.int .i64))], []⟩], fun x => fn_cond_Cond_Back x.1 x.2⟩
theorem cond_Cond_Back_is : SpecOk Try.prog sp_cond_Cond_Back := fn_is Try.func16 h_cond_Cond_Back (by kernel_rfl) (by kernel_rfl)
noncomputable def ok_cond_Cond_Back : OkSpec Try.prog := ⟨sp_cond_Cond_Back, cond_Cond_Back_is, Try.call16⟩

noncomputable def fn_cond_Cond_Depth (xa : (Option (List ((List Int) × (List Int) × Int × Bool)))) (xb : Int) : Option Int :=
 (fn_cond_Cond_of xa xb).bind fun (l20, l21, i22, t23) => some (i22)
noncomputable def h_cond_Cond_Depth : Hn Try.prog := .cl ok_cond_Cond_of [] (.nil)
noncomputable def sp_cond_Cond_Depth : Spec := ⟨17, ⟨[(0, .dat (.ptr (.one (.sl (.cons (.sl (.int .i64)) (.cons (.sl (.int .i64)) (.cons (.int .i64) (.one .bool)))))))), (1, .dat (.int .i64))], []⟩, [⟨[(0, .dat (.int .i64))], []⟩], fun x => fn_cond_Cond_Depth x.1 x.2⟩
theorem cond_Cond_Depth_is : SpecOk Try.prog sp_cond_Cond_Depth := fn_is Try.func17 h_cond_Cond_Depth (by kernel_rfl) (by kernel_rfl)
noncomputable def ok_cond_Cond_Depth : OkSpec Try.prog := ⟨sp_cond_Cond_Depth, cond_Cond_Depth_is, Try.call17⟩

noncomputable def fn_cond_Cond_Loops (xa : (Option (List ((List Int) × (List Int) × Int × Bool)))) (xb : Int) : Option Bool :=
 (fn_cond_Cond_of xa xb).bind fun (l19, l20, i21, t22) => some (t22)
noncomputable def h_cond_Cond_Loops : Hn Try.prog := .cl ok_cond_Cond_of [] (.nil)
noncomputable def sp_cond_Cond_Loops : Spec := ⟨19, ⟨[(0, .dat (.ptr (.one (.sl (.cons (.sl (.int .i64)) (.cons (.sl (.int .i64)) (.cons (.int .i64) (.one .bool)))))))), (1, .dat (.int .i64))], []⟩, [⟨[(0, .dat .bool)], []⟩], fun x => fn_cond_Cond_Loops x.1 x.2⟩
theorem cond_Cond_Loops_is : SpecOk Try.prog sp_cond_Cond_Loops := fn_is Try.func19 h_cond_Cond_Loops (by kernel_rfl) (by kernel_rfl)
noncomputable def ok_cond_Cond_Loops : OkSpec Try.prog := ⟨sp_cond_Cond_Loops, cond_Cond_Loops_is, Try.call19⟩

noncomputable def fn_law12_awake  : Option Bool :=
 (fn_law12_of 4 (([(0, 1), (1, 0), (1, 2), (3, 0)] : List (Int × Int)))).bind fun (p177, t178) => (cond (t178) ((fn_cond_Cond_Next p177 1).bind fun l214 => (fn_ref01_Same l214 ([0] : List Int)).bind fun t233 => some (t233)) (some (false))).bind fun t210 => (cond (t210) ((fn_cond_Cond_Back p177 1).bind fun l267 => (fn_ref01_Same l267 ([2] : List Int)).bind fun t286 => some (t286)) (some (false))).bind fun t263 => (cond (t263) ((fn_cond_Cond_Depth p177 2).bind fun i301 => some (decide (i301 = 2))) (some (false))).bind fun t297 => (cond (t297) ((fn_cond_Cond_Loops p177 1).bind fun t316 => some (t316)) (some (false))).bind fun t312 => (cond (t312) ((fn_cond_Cond_Len p177).bind fun i331 => some (decide (i331 = 3))) (some (false))).bind fun t327 => some (t327)
noncomputable def h_law12_awake : Hn Try.prog := .per 0 1 (.cl ok_law12_of [] (.gj 4 ⟨[(18, .dat .bool)], []⟩ [] (.two 13 (.cl ok_cond_Cond_Next [] (.cl ok_ref01_Same [2, 4] (.nil))) (.nil)) (.wt 19 (.gj 4 ⟨[(24, .dat .bool)], []⟩ [] (.two 19 (.cl ok_cond_Cond_Back [] (.cl ok_ref01_Same [2, 4] (.nil))) (.nil)) (.wt 25 (.gj 3 ⟨[(29, .dat .bool)], []⟩ [] (.two 25 (.cl ok_cond_Cond_Depth [] (.nil)) (.nil)) (.wt 30 (.gj 2 ⟨[(33, .dat .bool)], []⟩ [] (.two 30 (.cl ok_cond_Cond_Loops [] (.nil)) (.nil)) (.wt 34 (.gj 3 ⟨[(38, .dat .bool)], []⟩ [] (.two 34 (.cl ok_cond_Cond_Len [] (.nil)) (.nil)) (.nil)))))))))))
noncomputable def sp_law12_awake : Spec := ⟨5, ⟨[], []⟩, [⟨[(0, .dat .bool)], []⟩], fun x => fn_law12_awake⟩
theorem law12_awake_is : SpecOk Try.prog sp_law12_awake := fn_is Try.func5 h_law12_awake (by kernel_rfl) (by kernel_rfl)
noncomputable def ok_law12_awake : OkSpec Try.prog := ⟨sp_law12_awake, law12_awake_is, Try.call5⟩
noncomputable def fn_cond_Cond_Arcs_l1 (xa : (Option (List ((List Int) × (List Int) × Int × Bool)))) (i170 : Int) : (Int × Int) → Option ((Int × Int) ⊕ Int) := fun ((i280, i281) : (Int × Int)) => cond (decide (i281 < i170)) ((xa : Option (List ((List Int) × (List Int) × Int × Bool))).bind fun y310 => (getI y310 i281).bind fun x320 => some (.inl ((IntKind.wrap .i64 (i280 + (((x320.1.length : Nat) : Int))), IntKind.wrap .i64 (i281 + 1))))) (some (.inr (i280)))
noncomputable def fn_cond_Cond_Arcs (xa : (Option (List ((List Int) × (List Int) × Int × Bool)))) : Option Int :=
 (fn_cond_Cond_Len xa).bind fun i170 => (loop (fn_cond_Cond_Arcs_l1 xa i170) (0, 0) : Option Int).bind fun i253 => some (i253)
noncomputable def h_cond_Cond_Arcs : Hn Try.prog := .cl ok_cond_Cond_Len [] (.jn [] ⟨[(3, .dat (.int .i64))], []⟩ [] (.lp ⟨[(3, .dat (.int .i64)), (7, .dat (.int .i64))], []⟩ (.tw 8 (.nil) (.nil))) (.nil))
noncomputable def sp_cond_Cond_Arcs : Spec := ⟨8, ⟨[(0, .dat (.ptr (.one (.sl (.cons (.sl (.int .i64)) (.cons (.sl (.int .i64)) (.cons (.int .i64) (.one .bool))))))))], []⟩, [⟨[(0, .dat (.int .i64))], []⟩], fun x => fn_cond_Cond_Arcs x⟩
theorem cond_Cond_Arcs_is : SpecOk Try.prog sp_cond_Cond_Arcs := fn_is Try.func8 h_cond_Cond_Arcs (by kernel_rfl) (by kernel_rfl)
noncomputable def ok_cond_Cond_Arcs : OkSpec Try.prog := ⟨sp_cond_Cond_Arcs, cond_Cond_Arcs_is, Try.call8⟩
noncomputable def fn_cond_Cond_Ends_l1 (xa : (Option (List ((List Int) × (List Int) × Int × Bool)))) (i267 : Int) : ((List Int) × Int) → Option (((List Int) × Int) ⊕ (List Int)) := fun ((l442, i447) : ((List Int) × Int)) => cond (decide (i447 < i267)) ((xa : Option (List ((List Int) × (List Int) × Int × Bool))).bind fun y491 => (getI y491 i447).bind fun x501 => cond (decide ((((x501.1.length : Nat) : Int)) = 0)) ((app l442 ([i447] : List Int)).bind fun z518 => some (.inl ((z518, IntKind.wrap .i64 (i447 + 1))))) (some (.inl ((l442, IntKind.wrap .i64 (i447 + 1)))))) (some (.inr (l442)))
noncomputable def fn_cond_Cond_Ends (xa : (Option (List ((List Int) × (List Int) × Int × Bool)))) : Option (List Int) :=
 (fn_cond_Cond_Len xa).bind fun i267 => (loop (fn_cond_Cond_Ends_l1 xa i267) ([], 0) : Option (List Int)).bind fun l395 => some (l395)
noncomputable def h_cond_Cond_Ends : Hn Try.prog := .cl ok_cond_Cond_Len [] (.jn [] ⟨[(3, .own 3 (.int .i64))], []⟩ [] (.lp ⟨[(3, .own 3 (.int .i64)), (7, .dat (.int .i64))], []⟩ (.tw 8 (.tw 19 (.nil) (.nil)) (.nil))) (.nil))
noncomputable def sp_cond_Cond_Ends : Spec := ⟨9, ⟨[(0, .dat (.ptr (.one (.sl (.cons (.sl (.int .i64)) (.cons (.sl (.int .i64)) (.cons (.int .i64) (.one .bool))))))))], []⟩, [⟨[(0, .own 3 (.int .i64))], []⟩], fun x => fn_cond_Cond_Ends x⟩
theorem cond_Cond_Ends_is : SpecOk Try.prog sp_cond_Cond_Ends := fn_is Try.func9 h_cond_Cond_Ends (by kernel_rfl) (by kernel_rfl)
noncomputable def ok_cond_Cond_Ends : OkSpec Try.prog := ⟨sp_cond_Cond_Ends, cond_Cond_Ends_is, Try.call9⟩
noncomputable def fn_ref10_Reach_l1 (xb : (List (Int × Int))) : ((List Int) × Bool × Int) → Option (((List Int) × Bool × Int) ⊕ ((List Int) × Bool)) := fun ((l8214, t8219, i8220) : ((List Int) × Bool × Int)) => cond (decide (i8220 < (((xb.length : Nat) : Int)))) ((getI xb i8220).bind fun x8304 => (getI l8214 x8304.1).bind fun x8313 => (cond (decide (x8313 = 1)) ((getI xb i8220).bind fun x8339 => (getI l8214 x8339.2).bind fun x8348 => some (decide (x8348 = 0))) (some (false))).bind fun t8337 => cond (t8337) ((getI xb i8220).bind fun x8356 => (getI l8214 x8356.2).bind fun x8365 => (some (l8214.set x8356.2.toNat 1)).bind fun z8372 => some (.inl ((z8372, true, IntKind.wrap .i64 (i8220 + 1))))) (some (.inl ((l8214, t8219, IntKind.wrap .i64 (i8220 + 1)))))) (some (.inr (((l8214, t8219)))))
noncomputable def fn_ref10_Reach_l2 (xb : (List (Int × Int))) : ((List Int) × Bool) → Option (((List Int) × Bool) ⊕ (List Int)) := fun ((l7374, t7379) : ((List Int) × Bool)) => cond (t7379) ((loop (fn_ref10_Reach_l1 xb) (l7374, false, 0) : Option (((List Int) × Bool))).bind fun (l8127, t8132) => some (.inl (l8127, t8132))) (some (.inr (l7374)))
noncomputable def fn_ref10_Reach (xa : Int) (xb : (List (Int × Int))) (xc : Int) : Option (List Int) :=
 (mk xa xa 0 : Option (List Int)).bind fun z5349 => (getI z5349 xc).bind fun x5354 => (some (z5349.set xc.toNat 1)).bind fun z5361 => (loop (fn_ref10_Reach_l2 xb) (z5361, true) : Option (List Int)).bind fun l6869 => some (l6869)
noncomputable def h_ref10_Reach : Hn Try.prog := .jn [] ⟨[(7, .own 3 (.int .i64)), (11, .any), (12, .any)], []⟩ [0] (.lp ⟨[(7, .own 3 (.int .i64)), (8, .dat .bool)], []⟩ (.tw 15 (.pl (.jn [] ⟨[(7, .own 3 (.int .i64)), (8, .dat .bool)], []⟩ [3] (.lp ⟨[(7, .own 3 (.int .i64)), (8, .dat .bool), (9, .dat (.int .i64))], []⟩ (.tw 19 (.gj 9 ⟨[(41, .dat .bool)], []⟩ [] (.two 31 (.nil) (.nil)) (.tw 41 (.nil) (.nil))) (.nil))) (.nil))) (.nil))) (.nil)
noncomputable def sp_ref10_Reach : Spec := ⟨25, ⟨[(0, .dat (.int .i64)), (1, .dat (.sl (.cons (.int .i64) (.one (.int .i64))))), (2, .dat (.int .i64))], []⟩, [⟨[(0, .own 3 (.int .i64))], []⟩], fun x => fn_ref10_Reach x.1 x.2.1 x.2.2⟩
theorem ref10_Reach_is : SpecOk Try.prog sp_ref10_Reach := fn_is Try.func25 h_ref10_Reach (by kernel_rfl) (by kernel_rfl)
noncomputable def ok_ref10_Reach : OkSpec Try.prog := ⟨sp_ref10_Reach, ref10_Reach_is, Try.call25⟩
noncomputable def fn_ref11_ready_l1 (xa : (List (List Int))) (xb : (List (Int × Int))) (xc : (List Int)) (xd : Int) : Int → Option (Int ⊕ (Unit ⊕ Bool)) := fun (i1655 : Int) => cond (decide (i1655 < (((xb.length : Nat) : Int)))) ((getI xb i1655).bind fun x1877 => (getI xb i1655).bind fun x1886 => (getI xa xd).bind fun x1895 => (getI x1895 x1877.1).bind fun x1908 => (cond (decide (x1908 = 1)) ((getI xa xd).bind fun x1942 => (getI x1942 x1886.2).bind fun x1955 => some (decide (x1955 = 0))) (some (false))).bind fun t1940 => (cond (t1940) ((getI xc x1886.2).bind fun x1976 => some (decide (x1976 < 0))) (some (false))).bind fun t1974 => cond (t1974) (some (.inr ((.inr (false))))) (some (.inl (IntKind.wrap .i64 (i1655 + 1))))) (some (.inr ((.inl ()))))
noncomputable def fn_ref11_ready (xa : (List (List Int))) (xb : (List (Int × Int))) (xc : (List Int)) (xd : Int) : Option Bool :=
 (loop (fn_ref11_ready_l1 xa xb xc xd) 0 : Option (Unit ⊕ Bool)).bind fun o => match o with | .inr r => some r | .inl () => some (true)
noncomputable def h_ref11_ready : Hn Try.prog := .jx [] ⟨[], []⟩ [] (.lp ⟨[(9, .dat (.int .i64))], []⟩ (.tw 15 (.mix [] [0, 1, 2, 3, 4, 5, 6, 7, 8, 9, 10, 11] [] [] (.gj 8 ⟨[(45, .dat .bool)], []⟩ [] (.two 36 (.nil) (.nil)) (.wt 46 (.gj 5 ⟨[(52, .dat .bool)], []⟩ [] (.two 46 (.nil) (.nil)) (.tw 52 (.nil) (.nil)))))) (.nil))) (.nil)
noncomputable def sp_ref11_ready : Spec := ⟨26, ⟨[(0, .dat (.sl (.sl (.int .i64)))), (1, .dat (.sl (.cons (.int .i64) (.one (.int .i64))))), (2, .dat (.sl (.int .i64))), (3, .dat (.int .i64))], []⟩, [⟨[(0, .dat .bool)], []⟩], fun x => fn_ref11_ready x.1 x.2.1 x.2.2.1 x.2.2.2⟩
theorem ref11_ready_is : SpecOk Try.prog sp_ref11_ready := fn_is Try.func26 h_ref11_ready (by kernel_rfl) (by kernel_rfl)
noncomputable def ok_ref11_ready : OkSpec Try.prog := ⟨sp_ref11_ready, ref11_ready_is, Try.call26⟩
noncomputable def fn_ref11_Of_l1 (xa : Int) (xb : (List (Int × Int))) : ((List (List Int)) × (List Int) × Int) → Option (((List (List Int)) × (List Int) × Int) ⊕ ((List (List Int)) × (List Int))) := fun ((l40915, l40920, i40925) : ((List (List Int)) × (List Int) × Int)) => cond (decide (i40925 < xa)) ((fn_ref10_Reach xa xb i40925).bind fun l40975 => (app l40915 (([l40975] : List (List Int)))).bind fun z40989 => (app l40920 (([(-1)] : List Int))).bind fun z40998 => some (.inl ((z40989, z40998, IntKind.wrap .i64 (i40925 + 1))))) (some (.inr (((l40915, l40920)))))
noncomputable def fn_ref11_Of_l2 (xa : Int) (l40861 : (List (List Int))) (i45577 : Int) : ((List Int) × Int) → Option (((List Int) × Int) ⊕ (List Int)) := fun ((l47470, i47475) : ((List Int) × Int)) => cond (decide (i47475 < xa)) ((getI l40861 i45577).bind fun x47792 => (getI x47792 i47475).bind fun x47803 => (getI l40861 i47475).bind fun x47812 => (getI x47812 i45577).bind fun x47823 => (app l47470 (([IntKind.wrap .i64 (x47803 * x47823)] : List Int))).bind fun z47835 => some (.inl ((z47835, IntKind.wrap .i64 (i47475 + 1))))) (some (.inr (l47470)))
noncomputable def fn_ref11_Of_l3 (xa : Int) (l40861 : (List (List Int))) : ((List (List Int)) × Int) → Option (((List (List Int)) × Int) ⊕ (List (List Int))) := fun ((l45572, i45577) : ((List (List Int)) × Int)) => cond (decide (i45577 < xa)) ((loop (fn_ref11_Of_l2 xa l40861 i45577) ((([] : List Int), 0)) : Option (List Int)).bind fun l47280 => (app l45572 (([l47280] : List (List Int)))).bind fun z47847 => some (.inl ((z47847, IntKind.wrap .i64 (i45577 + 1))))) (some (.inr (l45572)))
noncomputable def fn_ref11_Of_l4 (xa : Int) (l44427 : (List (List Int))) (i58156 : Int) (i58158 : Int) : ((List Int) × Int) → Option (((List Int) × Int) ⊕ (List Int)) := fun ((l58667, i58672) : ((List Int) × Int)) => cond (decide (i58672 < xa)) ((getI l44427 i58158).bind fun x58717 => (getI x58717 i58672).bind fun x58730 => cond (decide (x58730 = 1)) ((getI l58667 i58672).bind fun x58740 => (some (l58667.set i58672.toNat i58156)).bind fun z58747 => some (.inl ((z58747, IntKind.wrap .i64 (i58672 + 1))))) (some (.inl ((l58667, IntKind.wrap .i64 (i58672 + 1)))))) (some (.inr (l58667)))
noncomputable def fn_ref11_Of_l5 (xa : Int) (xb : (List (Int × Int))) (l44427 : (List (List Int))) : ((List Int) × Int × Bool × Int) → Option (((List Int) × Int × Bool × Int) ⊕ ((List Int) × Int × Bool)) := fun ((l58151, i58156, t58157, i58158) : ((List Int) × Int × Bool × Int)) => cond ((decide (i58158 < xa)) && (!t58157)) ((getI l58151 i58158).bind fun x58464 => (cond (decide (0 ≤ x58464)) (some (true)) ((fn_ref11_ready l44427 xb l58151 i58158).bind fun t58488 => some (!t58488))).bind fun t58481 => cond (t58481) (some (.inl ((l58151, i58156, t58157, IntKind.wrap .i64 (i58158 + 1))))) ((loop (fn_ref11_Of_l4 xa l44427 i58156 i58158) (l58151, 0) : Option (List Int)).bind fun l58620 => some (.inl ((l58620, IntKind.wrap .i64 (i58156 + 1), true, IntKind.wrap .i64 (i58158 + 1)))))) (some (.inr (((l58151, i58156, t58157)))))
noncomputable def fn_ref11_Of_l6 (xa : Int) (xb : (List (Int × Int))) (l44427 : (List (List Int))) : ((List Int) × Int × Bool) → Option (((List Int) × Int × Bool) ⊕ (List Int)) := fun ((l55117, i55122, t55123) : ((List Int) × Int × Bool)) => cond (t55123) ((loop (fn_ref11_Of_l5 xa xb l44427) (l55117, i55122, false, 0) : Option (((List Int) × Int × Bool))).bind fun (l57844, i57849, t57850) => some (.inl (l57844, i57849, t57850))) (some (.inr (l55117)))
noncomputable def fn_ref11_Of (xa : Int) (xb : (List (Int × Int))) : Option (List Int) :=
 (loop (fn_ref11_Of_l1 xa xb) ((([] : List (List Int)), ([] : List Int), 0)) : Option (((List (List Int)) × (List Int)))).bind fun (l40861, l40866) => (loop (fn_ref11_Of_l3 xa l40861) ((([] : List (List Int)), 0)) : Option ((List (List Int)))).bind fun l44427 => (loop (fn_ref11_Of_l6 xa xb l44427) (l40866, 0, true) : Option (List Int)).bind fun l53302 => some (l53302)
noncomputable def h_ref11_Of : Hn Try.prog := .jn [] ⟨[(6, .own 28 (.sl (.int .i64))), (7, .own 3 (.int .i64)), (17, .any), (18, .any)], []⟩ [4, 2] (.lp ⟨[(6, .own 28 (.sl (.int .i64))), (7, .own 3 (.int .i64)), (8, .dat (.int .i64))], []⟩ (.tw 21 (.cl ok_ref10_Reach [] (.per 10 11 (.nil))) (.nil))) (.jn [] ⟨[(5, .own 28 (.sl (.int .i64)))], []⟩ [0] (.lp ⟨[(5, .own 28 (.sl (.int .i64))), (9, .dat (.int .i64))], []⟩ (.tw 36 (.pl (.pl (.jn [] ⟨[(10, .own 3 (.int .i64)), (39, .any)], []⟩ [12] (.lp ⟨[(10, .own 3 (.int .i64)), (11, .dat (.int .i64))], []⟩ (.tw 42 (.mix [([0, 1, 2, 3, 4, 5, 6, 7, 8, 9, 10, 11, 12, 13, 14, 15], 16)] [] [17, 18] [] (.nil)) (.nil))) (.per 14 15 (.nil))))) (.nil))) (.per 10 11 (.jn [] ⟨[(7, .own 3 (.int .i64))], []⟩ [8, 6] (.lp ⟨[(7, .own 3 (.int .i64)), (12, .dat (.int .i64)), (13, .dat .bool)], []⟩ (.tw 67 (.pl (.jn [] ⟨[(7, .own 3 (.int .i64)), (12, .dat (.int .i64)), (13, .dat .bool)], []⟩ [12] (.lp ⟨[(7, .own 3 (.int .i64)), (12, .dat (.int .i64)), (13, .dat .bool), (14, .dat (.int .i64))], []⟩ (.gp 2 (.tw 74 (.gj 6 ⟨[(89, .dat .bool)], []⟩ [] (.two 82 (.nil) (.cl ok_ref11_ready [14] (.nil))) (.tw 89 (.nil) (.jn [] ⟨[(7, .own 3 (.int .i64))], []⟩ [14] (.lp ⟨[(7, .own 3 (.int .i64)), (15, .dat (.int .i64))], []⟩ (.tw 92 (.tw 102 (.nil) (.nil)) (.nil))) (.nil)))) (.nil)))) (.nil))) (.nil))) (.nil))))
noncomputable def sp_ref11_Of : Spec := ⟨10, ⟨[(0, .dat (.int .i64)), (1, .dat (.sl (.cons (.int .i64) (.one (.int .i64)))))], []⟩, [⟨[(0, .own 3 (.int .i64))], []⟩], fun x => fn_ref11_Of x.1 x.2⟩
theorem ref11_Of_is : SpecOk Try.prog sp_ref11_Of := fn_is Try.func10 h_ref11_Of (by kernel_rfl) (by kernel_rfl)
noncomputable def ok_ref11_Of : OkSpec Try.prog := ⟨sp_ref11_Of, ref11_Of_is, Try.call10⟩
noncomputable def fn_ref11_Count_l1 (xa : (List Int)) : (Int × Int) → Option ((Int × Int) ⊕ Int) := fun ((i227, i228) : (Int × Int)) => cond (decide (i228 < (((xa.length : Nat) : Int)))) ((getI xa i228).bind fun x253 => cond (decide (i227 < (IntKind.wrap .i64 (x253 + 1)))) ((getI xa i228).bind fun x263 => some (.inl ((IntKind.wrap .i64 (x263 + 1), IntKind.wrap .i64 (i228 + 1))))) (some (.inl ((i227, IntKind.wrap .i64 (i228 + 1)))))) (some (.inr (i227)))
noncomputable def fn_ref11_Count (xa : (List Int)) : Option Int :=
 (loop (fn_ref11_Count_l1 xa) (0, 0) : Option Int).bind fun i204 => some (i204)
noncomputable def h_ref11_Count : Hn Try.prog := .jn [] ⟨[(3, .dat (.int .i64))], []⟩ [] (.lp ⟨[(3, .dat (.int .i64)), (4, .dat (.int .i64))], []⟩ (.tw 8 (.tw 17 (.nil) (.nil)) (.nil))) (.nil)
noncomputable def sp_ref11_Count : Spec := ⟨11, ⟨[(0, .dat (.sl (.int .i64)))], []⟩, [⟨[(0, .dat (.int .i64))], []⟩], fun x => fn_ref11_Count x⟩
theorem ref11_Count_is : SpecOk Try.prog sp_ref11_Count := fn_is Try.func11 h_ref11_Count (by kernel_rfl) (by kernel_rfl)
noncomputable def ok_ref11_Count : OkSpec Try.prog := ⟨sp_ref11_Count, ref11_Count_is, Try.call11⟩
noncomputable def fn_ref12_Leads_l1 (xa : (List (Int × Int))) (xb : (List Int)) (xc : Int) (xd : Int) : Int → Option (Int ⊕ (Unit ⊕ Bool)) := fun (i605 : Int) => cond (decide (i605 < (((xa.length : Nat) : Int)))) ((getI xa i605).bind fun x668 => (getI xb x668.1).bind fun x677 => (cond (decide (x677 = xc)) ((getI xa i605).bind fun x707 => (getI xb x707.2).bind fun x716 => some (decide (x716 = xd))) (some (false))).bind fun t705 => cond (t705) (some (.inr ((.inr (true))))) (some (.inl (IntKind.wrap .i64 (i605 + 1))))) (some (.inr ((.inl ()))))
noncomputable def fn_ref12_Leads (xa : (List (Int × Int))) (xb : (List Int)) (xc : Int) (xd : Int) : Option Bool :=
 (loop (fn_ref12_Leads_l1 xa xb xc xd) 0 : Option (Unit ⊕ Bool)).bind fun o => match o with | .inr r => some r | .inl () => some (false)
noncomputable def h_ref12_Leads : Hn Try.prog := .jx [] ⟨[], []⟩ [] (.lp ⟨[(9, .dat (.int .i64))], []⟩ (.tw 13 (.gj 10 ⟨[(37, .dat .bool)], []⟩ [] (.two 26 (.nil) (.nil)) (.tw 37 (.nil) (.nil))) (.nil))) (.nil)
noncomputable def sp_ref12_Leads : Spec := ⟨13, ⟨[(0, .dat (.sl (.cons (.int .i64) (.one (.int .i64))))), (1, .dat (.sl (.int .i64))), (2, .dat (.int .i64)), (3, .dat (.int .i64))], []⟩, [⟨[(0, .dat .bool)], []⟩], fun x => fn_ref12_Leads x.1 x.2.1 x.2.2.1 x.2.2.2⟩
theorem ref12_Leads_is : SpecOk Try.prog sp_ref12_Leads := fn_is Try.func13 h_ref12_Leads (by kernel_rfl) (by kernel_rfl)
noncomputable def ok_ref12_Leads : OkSpec Try.prog := ⟨sp_ref12_Leads, ref12_Leads_is, Try.call13⟩
noncomputable def fn_ref12_Next_l1 (xa : (List (Int × Int))) (xb : (List Int)) (xc : Int) (xd : Int) : ((List Int) × Int) → Option (((List Int) × Int) ⊕ (List Int)) := fun ((l468, i473) : ((List Int) × Int)) => cond (decide (i473 < xc)) ((cond (!decide (i473 = xd)) ((fn_ref12_Leads xa xb xd i473).bind fun t519 => some (t519)) (some (false))).bind fun t515 => cond (t515) ((app l468 ([i473] : List Int)).bind fun z527 => some (.inl ((z527, IntKind.wrap .i64 (i473 + 1))))) (some (.inl ((l468, IntKind.wrap .i64 (i473 + 1)))))) (some (.inr (l468)))
noncomputable def fn_ref12_Next (xa : (List (Int × Int))) (xb : (List Int)) (xc : Int) (xd : Int) : Option (List Int) :=
 (loop (fn_ref12_Next_l1 xa xb xc xd) ((([] : List Int), 0)) : Option (List Int)).bind fun l431 => some (l431)
noncomputable def h_ref12_Next : Hn Try.prog := .jn [] ⟨[(9, .own 3 (.int .i64)), (11, .any)], []⟩ [0] (.lp ⟨[(9, .own 3 (.int .i64)), (10, .dat (.int .i64))], []⟩ (.tw 14 (.gj 5 ⟨[(26, .dat .bool)], []⟩ [] (.two 20 (.cl ok_ref12_Leads [] (.nil)) (.nil)) (.tw 26 (.nil) (.nil))) (.nil))) (.nil)
noncomputable def sp_ref12_Next : Spec := ⟨12, ⟨[(0, .dat (.sl (.cons (.int .i64) (.one (.int .i64))))), (1, .dat (.sl (.int .i64))), (2, .dat (.int .i64)), (3, .dat (.int .i64))], []⟩, [⟨[(0, .own 3 (.int .i64))], []⟩], fun x => fn_ref12_Next x.1 x.2.1 x.2.2.1 x.2.2.2⟩
theorem ref12_Next_is : SpecOk Try.prog sp_ref12_Next := fn_is Try.func12 h_ref12_Next (by kernel_rfl) (by kernel_rfl)
noncomputable def ok_ref12_Next : OkSpec Try.prog := ⟨sp_ref12_Next, ref12_Next_is, Try.call12⟩
noncomputable def fn_ref12_Depth_l1 (self : ((List (Int × Int))) → (List Int) → Int → Int → Option Int) (xa : (List (Int × Int))) (xb : (List Int)) (xc : Int) (xd : Int) (l350 : (List Int)) : (Int × Int) → Option ((Int × Int) ⊕ Int) := fun ((i460, i461) : (Int × Int)) => cond (decide (i461 < (((l350.length : Nat) : Int)))) ((getI l350 i461).bind fun x489 => cond (decide (x489 < xd)) ((getI l350 i461).bind fun x497 => (self xa xb xc x497).bind fun i506 => cond (decide (i460 < (IntKind.wrap .i64 (i506 + 1)))) (some (.inl ((IntKind.wrap .i64 (i506 + 1), IntKind.wrap .i64 (i461 + 1))))) (some (.inl ((i460, IntKind.wrap .i64 (i461 + 1)))))) (some (.inl ((i460, IntKind.wrap .i64 (i461 + 1)))))) (some (.inr (i460)))
noncomputable def fnb_ref12_Depth (self : ((List (Int × Int))) → (List Int) → Int → Int → Option Int) (xa : (List (Int × Int))) (xb : (List Int)) (xc : Int) (xd : Int) : Option Int :=
 (fn_ref12_Next xa xb xc xd).bind fun l350 => (loop (fn_ref12_Depth_l1 self xa xb xc xd l350) (0, 0) : Option Int).bind fun i434 => some (i434)
noncomputable def fnr_ref12_Depth : Nat → ((List (Int × Int))) → (List Int) → Int → Int → Option Int := fun n => Nat.rec (fun _ _ _ _ => none) (fun _ self => fnb_ref12_Depth self) n
noncomputable def fn_ref12_Depth (xa : (List (Int × Int))) (xb : (List Int)) (xc : Int) (xd : Int) : Option Int := lev (fun n => fnr_ref12_Depth n xa xb xc xd)
noncomputable def spb_ref12_Depth (self : ((List (Int × Int))) → (List Int) → Int → Int → Option Int) : Spec := ⟨18, ⟨[(0, .dat (.sl (.cons (.int .i64) (.one (.int .i64))))), (1, .dat (.sl (.int .i64))), (2, .dat (.int .i64)), (3, .dat (.int .i64))], []⟩, [⟨[(0, .dat (.int .i64))], []⟩], fun x => self x.1 x.2.1 x.2.2.1 x.2.2.2⟩
noncomputable def hb_ref12_Depth (okself : OkSpec Try.prog) : Hn Try.prog := .cl ok_ref12_Next [] (.jn [] ⟨[(9, .dat (.int .i64))], []⟩ [] (.lp ⟨[(9, .dat (.int .i64)), (11, .dat (.int .i64))], []⟩ (.tw 21 (.tw 29 (.cl okself [] (.tw 41 (.nil) (.nil))) (.nil)) (.nil))) (.nil))
theorem ref12_Depth_step (self : ((List (Int × Int))) → (List Int) → Int → Int → Option Int) (hs : SpecOk Try.prog (spb_ref12_Depth self)) : SpecOk Try.prog (spb_ref12_Depth (fnb_ref12_Depth self)) := fn_is Try.func18 (hb_ref12_Depth ⟨spb_ref12_Depth self, hs, Try.call18⟩) (by kernel_rfl) (by kernel_rfl)
theorem ref12_Depth_rec : ∀ n, SpecOk Try.prog (spb_ref12_Depth (fnr_ref12_Depth n))
 | 0 => fun x r hr => by cases hr
 | n + 1 => ref12_Depth_step _ (ref12_Depth_rec n)
noncomputable def sp_ref12_Depth : Spec := ⟨18, ⟨[(0, .dat (.sl (.cons (.int .i64) (.one (.int .i64))))), (1, .dat (.sl (.int .i64))), (2, .dat (.int .i64)), (3, .dat (.int .i64))], []⟩, [⟨[(0, .dat (.int .i64))], []⟩], fun x => fn_ref12_Depth x.1 x.2.1 x.2.2.1 x.2.2.2⟩
theorem ref12_Depth_is : SpecOk Try.prog sp_ref12_Depth := fun x r hr => by
 obtain ⟨n, hn⟩ := lev_some hr
 exact ref12_Depth_rec n x r hn
noncomputable def ok_ref12_Depth : OkSpec Try.prog := ⟨sp_ref12_Depth, ref12_Depth_is, Try.call18⟩
noncomputable def fn_law12_CondTells_l1 (xb : (List (Int × Int))) (l5823 : (List Int)) (i5836 : Int) (i7335 : Int) : ((List Int) × Int) → Option (((List Int) × Int) ⊕ (List Int)) := fun ((l7879, i7884) : ((List Int) × Int)) => cond (decide (i7884 < i5836)) ((cond (!decide (i7884 = i7335)) ((fn_ref12_Leads xb l5823 i7884 i7335).bind fun t7930 => some (t7930)) (some (false))).bind fun t7926 => cond (t7926) ((app l7879 ([i7884] : List Int)).bind fun z7938 => some (.inl ((z7938, IntKind.wrap .i64 (i7884 + 1))))) (some (.inl ((l7879, IntKind.wrap .i64 (i7884 + 1)))))) (some (.inr (l7879)))
noncomputable def fn_law12_CondTells_l2 (xb : (List (Int × Int))) (p5754 : (Option (List ((List Int) × (List Int) × Int × Bool)))) (l5823 : (List Int)) (i5836 : Int) : (Int × (List Int) × Int) → Option ((Int × (List Int) × Int) ⊕ ((Int × (List Int)) ⊕ Bool)) := fun ((i7329, l7330, i7335) : (Int × (List Int) × Int)) => cond (decide (i7335 < i5836)) ((fn_ref12_Next xb l5823 i5836 i7335).bind fun l7709 => (cond (decide ((((l7709.length : Nat) : Int)) = 0)) ((app l7330 ([i7335] : List Int)).bind fun z7736 => some (z7736)) (some (l7330)) : Option (List Int)).bind fun l7727 => (loop (fn_law12_CondTells_l1 xb l5823 i5836 i7335) ((([] : List Int), 0)) : Option (List Int)).bind fun l7842 => (fn_cond_Cond_Next p5754 i7335).bind fun l7946 => (fn_ref01_Same l7946 l7709).bind fun t7962 => (cond (!t7962) (some (true)) ((fn_cond_Cond_Back p5754 i7335).bind fun l7993 => (fn_ref01_Same l7993 l7842).bind fun t8009 => some (!t8009))).bind fun t7989 => (cond (t7989) (some (true)) ((fn_cond_Cond_Depth p5754 i7335).bind fun i8030 => (fn_ref12_Depth xb l5823 i5836 i7335).bind fun i8036 => some (!decide (i8030 = i8036)))).bind fun t8026 => (cond (t8026) (some (true)) ((fn_cond_Cond_Loops p5754 i7335).bind fun t8057 => (fn_ref12_Leads xb l5823 i7335 i7335).bind fun t8063 => some (!(t8057 == t8063)))).bind fun t8053 => cond (t8053) (some (.inr ((.inr (false))))) (some (.inl ((IntKind.wrap .i64 (i7329 + (((l7709.length : Nat) : Int))), l7727, IntKind.wrap .i64 (i7335 + 1)))))) (some (.inr ((.inl (i7329, l7330)))))
noncomputable def fn_law12_CondTells (xa : Int) (xb : (List (Int × Int))) (xc : Int) : Option Bool :=
 cond ((decide (10 < xa)) || (decide (24 < (((xb.length : Nat) : Int))))) ((fn_law12_awake).bind fun t5748 => some (t5748)) ((fn_law12_of xa xb).bind fun (p5754, t5755) => cond (!t5755) ((fn_cond_Cond_Len p5754).bind fun i5764 => (cond (decide (i5764 = 0)) ((fn_cond_Cond_Arcs p5754).bind fun i5779 => some (decide (i5779 = 0))) (some (false))).bind fun t5775 => (cond (t5775) ((fn_cond_Cond_Ends p5754).bind fun l5798 => some (decide ((((l5798.length : Nat) : Int)) = 0))) (some (false))).bind fun t5794 => (cond (t5794) ((fn_law12_awake).bind fun t5817 => some (t5817)) (some (false))).bind fun t5813 => some (t5813)) ((fn_ref11_Of xa xb).bind fun l5823 => (fn_ref11_Count l5823).bind fun i5836 => (loop (fn_law12_CondTells_l2 xb p5754 l5823 i5836) ((0, ([] : List Int), 0)) : Option ((Int × (List Int)) ⊕ Bool)).bind fun o => match o with | .inr r => some r | .inl (i6954, l6955) => (fn_cond_Cond_Len p5754).bind fun i8070 => (cond (!decide (i8070 = i5836)) (some (true)) ((fn_cond_Cond_Arcs p5754).bind fun i8085 => some (!decide (i8085 = i6954)))).bind fun t8081 => (cond (t8081) (some (true)) ((fn_cond_Cond_Ends p5754).bind fun l8116 => (fn_ref01_Same l8116 l6955).bind fun t8132 => some (!t8132))).bind fun t8112 => cond (t8112) (some (false)) ((fn_cond_Cond_Len none).bind fun i8139 => (cond (!decide (i8139 = 0)) (some (true)) ((fn_cond_Cond_Next none 0).bind fun l8158 => some (decide (0 < (((l8158.length : Nat) : Int)))))).bind fun t8154 => (cond (t8154) (some (true)) ((fn_cond_Cond_Back none 0).bind fun l8181 => some (decide (0 < (((l8181.length : Nat) : Int)))))).bind fun t8177 => (cond (t8177) (some (true)) ((fn_cond_Cond_Depth none 0).bind fun i8200 => some (!decide (i8200 = 0)))).bind fun t8196 => (cond (t8196) (some (true)) ((fn_cond_Cond_Loops none 0).bind fun t8215 => some (t8215))).bind fun t8211 => (cond (t8211) (some (true)) ((fn_cond_Cond_Ends none).bind fun l8234 => some (decide (0 < (((l8234.length : Nat) : Int)))))).bind fun t8230 => (cond (t8230) (some (true)) ((fn_cond_Cond_Arcs none).bind fun i8253 => some (!decide (i8253 = 0)))).bind fun t8249 => cond (t8249) (some (false)) ((cond ((decide (0 ≤ xc)) && (decide (xc < i5836))) (some (true)) ((fn_cond_Cond_Next p5754 xc).bind fun l8329 => (cond (decide ((((l8329.length : Nat) : Int)) = 0)) ((fn_cond_Cond_Back p5754 xc).bind fun l8352 => some (decide ((((l8352.length : Nat) : Int)) = 0))) (some (false))).bind fun t8348 => (cond (t8348) ((fn_cond_Cond_Depth p5754 xc).bind fun i8371 => some (decide (i8371 = 0))) (some (false))).bind fun t8367 => (cond (t8367) ((fn_cond_Cond_Loops p5754 xc).bind fun t8386 => some (!t8386)) (some (false))).bind fun t8382 => some (t8382))).bind fun t8325 => (cond (t8325) ((fn_law12_awake).bind fun t8401 => some (t8401)) (some (false))).bind fun t8397 => some (t8397)))))
noncomputable def h_law12_CondTells : Hn Try.prog := .gp 3 (.tw 24 (.cl ok_law12_awake [] (.nil)) (.cl ok_law12_of [] (.tw 33 (.cl ok_cond_Cond_Len [] (.gj 3 ⟨[(41, .dat .bool)], []⟩ [] (.two 37 (.cl ok_cond_Cond_Arcs [] (.nil)) (.nil)) (.wt 42 (.gj 4 ⟨[(47, .dat .bool)], []⟩ [] (.two 42 (.cl ok_cond_Cond_Ends [] (.nil)) (.nil)) (.wt 48 (.gj 1 ⟨[(50, .dat .bool)], []⟩ [] (.two 48 (.cl ok_law12_awake [] (.nil)) (.nil)) (.nil))))))) (.cl ok_ref11_Of [] (.cl ok_ref11_Count [0] (.per 0 1 (.jx [] ⟨[(11, .dat (.int .i64)), (12, .own 3 (.int .i64)), (56, .any)], []⟩ [2] (.lp ⟨[(11, .dat (.int .i64)), (12, .own 3 (.int .i64)), (13, .dat (.int .i64))], []⟩ (.tw 59 (.cl ok_ref12_Next [] (.pl (.sq [] ⟨[(12, .own 3 (.int .i64))], []⟩ [4] (.tw 73 (.nil) (.nil)) (.jn [] ⟨[(15, .own 3 (.int .i64)), (78, .any)], []⟩ [10] (.lp ⟨[(15, .own 3 (.int .i64)), (16, .dat (.int .i64))], []⟩ (.tw 81 (.gj 5 ⟨[(93, .dat .bool)], []⟩ [] (.two 87 (.cl ok_ref12_Leads [] (.nil)) (.nil)) (.tw 93 (.nil) (.nil))) (.nil))) (.cl ok_cond_Cond_Next [] (.cl ok_ref01_Same [14, 6] (.gj 6 ⟨[(111, .dat .bool)], []⟩ [] (.two 104 (.nil) (.cl ok_cond_Cond_Back [] (.cl ok_ref01_Same [16, 12] (.nil)))) (.wt 112 (.gj 9 ⟨[(122, .dat .bool)], []⟩ [] (.two 112 (.nil) (.cl ok_cond_Cond_Depth [] (.cl ok_ref12_Depth [] (.nil)))) (.wt 123 (.gj 9 ⟨[(133, .dat .bool)], []⟩ [] (.two 123 (.nil) (.cl ok_cond_Cond_Loops [] (.cl ok_ref12_Leads [] (.nil)))) (.tw 133 (.nil) (.nil))))))))))))) (.nil))) (.cl ok_cond_Cond_Len [] (.gj 4 ⟨[(143, .dat .bool)], []⟩ [] (.two 138 (.nil) (.cl ok_cond_Cond_Arcs [] (.nil))) (.wt 144 (.gj 5 ⟨[(150, .dat .bool)], []⟩ [] (.two 144 (.nil) (.cl ok_cond_Cond_Ends [] (.cl ok_ref01_Same [6, 4] (.nil)))) (.tw 150 (.nil) (.cl ok_cond_Cond_Len [] (.gj 4 ⟨[(159, .dat .bool)], []⟩ [] (.two 154 (.nil) (.cl ok_cond_Cond_Next [] (.nil))) (.wt 160 (.gj 4 ⟨[(165, .dat .bool)], []⟩ [] (.two 160 (.nil) (.cl ok_cond_Cond_Back [] (.nil))) (.wt 166 (.gj 3 ⟨[(170, .dat .bool)], []⟩ [] (.two 166 (.nil) (.cl ok_cond_Cond_Depth [] (.nil))) (.wt 171 (.gj 2 ⟨[(174, .dat .bool)], []⟩ [] (.two 171 (.nil) (.cl ok_cond_Cond_Loops [] (.nil))) (.wt 175 (.gj 4 ⟨[(180, .dat .bool)], []⟩ [] (.two 175 (.nil) (.cl ok_cond_Cond_Ends [] (.nil))) (.wt 181 (.gj 3 ⟨[(185, .dat .bool)], []⟩ [] (.two 181 (.nil) (.cl ok_cond_Cond_Arcs [] (.nil))) (.tw 185 (.nil) (.gp 3 (.wt 193 (.gj 24 ⟨[(218, .dat .bool)], []⟩ [] (.two 193 (.nil) (.cl ok_cond_Cond_Next [] (.wt 199 (.gj 5 ⟨[(205, .dat .bool)], []⟩ [] (.two 199 (.cl ok_cond_Cond_Back [] (.nil)) (.nil)) (.wt 206 (.gj 4 ⟨[(211, .dat .bool)], []⟩ [] (.two 206 (.cl ok_cond_Cond_Depth [] (.nil)) (.nil)) (.wt 212 (.gj 4 ⟨[(217, .dat .bool)], []⟩ [] (.two 212 (.cl ok_cond_Cond_Loops [] (.nil)) (.nil)) (.nil))))))))) (.wt 219 (.gj 1 ⟨[(221, .dat .bool)], []⟩ [] (.two 219 (.cl ok_law12_awake [] (.nil)) (.nil)) (.nil)))))))))))))))))))))))))))))))
noncomputable def sp_law12_CondTells : Spec := ⟨3, ⟨[(0, .dat (.int .i64)), (1, .dat (.sl (.cons (.int .i64) (.one (.int .i64))))), (2, .dat (.int .i64))], []⟩, [⟨[(0, .dat .bool)], []⟩], fun x => fn_law12_CondTells x.1 x.2.1 x.2.2⟩
theorem law12_CondTells_is : SpecOk Try.prog sp_law12_CondTells := fn_is Try.func3 h_law12_CondTells (by kernel_rfl) (by kernel_rfl)
noncomputable def ok_law12_CondTells : OkSpec Try.prog := ⟨sp_law12_CondTells, law12_CondTells_is, Try.call3⟩
noncomputable def fn_law12_CondFalls_l1 (i12351 : Int) (l14441 : (List Int)) : (Bool × Int) → Option ((Bool × Int) ⊕ Bool) := fun ((t14511, i14512) : (Bool × Int)) => cond (decide (i14512 < (((l14441.length : Nat) : Int)))) ((cond (t14511) (some (true)) ((getI l14441 i14512).bind fun x14545 => some (decide (x14545 = i12351)))).bind fun t14543 => some (.inl ((t14543, IntKind.wrap .i64 (i14512 + 1))))) (some (.inr (t14511)))
noncomputable def fn_law12_CondFalls_l2 (p7770 : (Option (List ((List Int) × (List Int) × Int × Bool)))) (i12351 : Int) (l13505 : (List Int)) : Int → Option (Int ⊕ (Unit ⊕ ((Int × Int) ⊕ (Int ⊕ Bool)))) := fun (i14248 : Int) => cond (decide (i14248 < (((l13505.length : Nat) : Int)))) ((getI l13505 i14248).bind fun x14432 => (fn_cond_Cond_Back p7770 x14432).bind fun l14441 => (loop (fn_law12_CondFalls_l1 i12351 l14441) (false, 0) : Option Bool).bind fun t14500 => (cond (!t14500) (some (true)) ((getI l13505 i14248).bind fun x14562 => some (decide (i12351 ≤ x14562)))).bind fun t14560 => (cond (t14560) (some (true)) ((getI l13505 i14248).bind fun x14591 => (fn_cond_Cond_Depth p7770 x14591).bind fun i14600 => (fn_cond_Cond_Depth p7770 i12351).bind fun i14606 => some (decide (i14606 ≤ i14600)))).bind fun t14589 => cond (t14589) (some (.inr ((.inr (.inr ((.inr (false)))))))) (some (.inl (IntKind.wrap .i64 (i14248 + 1))))) (some (.inr ((.inl ()))))
noncomputable def fn_law12_CondFalls_l3 (p7762 : (Option ((List Int) × (List (List Int))))) (p7770 : (Option (List ((List Int) × (List Int) × Int × Bool)))) : (Int × Int) → Option ((Int × Int) ⊕ (Int ⊕ Bool)) := fun ((i12350, i12351) : (Int × Int)) => (fn_cond_Cond_Len p7770).bind fun i13498 => cond (decide (i12351 < i13498)) ((fn_cond_Cond_Next p7770 i12351).bind fun l13505 => (fn_cond_Cond_Back p7770 i12351).bind fun l13515 => (loop (fn_law12_CondFalls_l2 p7770 i12351 l13505) 0 : Option (Unit ⊕ ((Int × Int) ⊕ (Int ⊕ Bool)))).bind fun o => match o with | .inr r => some r | .inl () => (fn_scc_Parts_Members p7762 i12351).bind fun l14613 => (cond (decide (1 < (((l14613.length : Nat) : Int)))) ((fn_cond_Cond_Loops p7770 i12351).bind fun t14632 => some (!t14632)) (some (false))).bind fun t14628 => cond (t14628) (some (.inr ((.inr (false))))) (some (.inl ((IntKind.wrap .i64 (i12350 + (((l13515.length : Nat) : Int))), IntKind.wrap .i64 (i12351 + 1)))))) (some (.inr (.inl i12350)))
noncomputable def fn_law12_CondFalls (xa : Int) (xb : (List (Int × Int))) : Option Bool :=
 cond ((decide (14 < xa)) || (decide (40 < (((xb.length : Nat) : Int))))) ((fn_law12_awake).bind fun t7740 => some (t7740)) ((fn_law10_Of xa xb).bind fun (p7746, i7747) => cond (!decide (i7747 = 0)) ((fn_law12_awake).bind fun t7756 => some (t7756)) ((fn_scc_Of_kpz p7746).bind fun p7762 => (fn_cond_New p7746 p7762).bind fun p7770 => (loop (fn_law12_CondFalls_l3 p7762 p7770) (0, 0) : Option (Int ⊕ Bool)).bind fun o => match o with | .inr r => some r | .inl i11206 => (fn_cond_Cond_Arcs p7770).bind fun i14639 => (cond (decide (i11206 = i14639)) ((fn_cond_Cond_Len p7770).bind fun i14660 => (fn_scc_Parts_Len p7762).bind fun i14666 => some (decide (i14660 = i14666))) (some (false))).bind fun t14656 => (cond (t14656) ((fn_law12_awake).bind fun t14681 => some (t14681)) (some (false))).bind fun t14677 => some (t14677)))
noncomputable def h_law12_CondFalls : Hn Try.prog := .gp 3 (.tw 22 (.cl ok_law12_awake [] (.nil)) (.cl ok_law10_Of [] (.tw 31 (.cl ok_law12_awake [] (.nil)) (.cl ok_scc_Of_kpz [] (.cl ok_cond_New [] (.jx [] ⟨[(9, .dat (.int .i64))], []⟩ [] (.lp ⟨[(9, .dat (.int .i64)), (10, .dat (.int .i64))], []⟩ (.cl ok_cond_Cond_Len [] (.tw 41 (.cl ok_cond_Cond_Next [] (.cl ok_cond_Cond_Back [] (.jx [] ⟨[(50, .any)], []⟩ [2] (.lp ⟨[(12, .dat (.int .i64))], []⟩ (.tw 56 (.cl ok_cond_Cond_Back [] (.jn [] ⟨[(14, .dat .bool)], []⟩ [] (.lp ⟨[(14, .dat .bool), (15, .dat (.int .i64))], []⟩ (.tw 68 (.gj 6 ⟨[(79, .dat .bool)], []⟩ [] (.two 72 (.nil) (.nil)) (.nil)) (.nil))) (.gj 6 ⟨[(89, .dat .bool)], []⟩ [] (.two 82 (.nil) (.nil)) (.wt 90 (.gj 10 ⟨[(101, .dat .bool)], []⟩ [] (.two 90 (.nil) (.cl ok_cond_Cond_Depth [] (.cl ok_cond_Cond_Depth [] (.nil)))) (.tw 101 (.nil) (.nil))))))) (.nil))) (.cl ok_scc_Parts_Members [] (.gj 4 ⟨[(112, .dat .bool)], []⟩ [] (.two 107 (.cl ok_cond_Cond_Loops [] (.nil)) (.nil)) (.tw 112 (.nil) (.nil))))))) (.nil)))) (.cl ok_cond_Cond_Arcs [] (.gj 5 ⟨[(123, .dat .bool)], []⟩ [] (.two 117 (.cl ok_cond_Cond_Len [] (.cl ok_scc_Parts_Len [] (.nil))) (.nil)) (.wt 124 (.gj 1 ⟨[(126, .dat .bool)], []⟩ [] (.two 124 (.cl ok_law12_awake [] (.nil)) (.nil)) (.nil)))))))))))
noncomputable def sp_law12_CondFalls : Spec := ⟨4, ⟨[(0, .dat (.int .i64)), (1, .dat (.sl (.cons (.int .i64) (.one (.int .i64)))))], []⟩, [⟨[(0, .dat .bool)], []⟩], fun x => fn_law12_CondFalls x.1 x.2⟩
theorem law12_CondFalls_is : SpecOk Try.prog sp_law12_CondFalls := fn_is Try.func4 h_law12_CondFalls (by kernel_rfl) (by kernel_rfl)
noncomputable def ok_law12_CondFalls : OkSpec Try.prog := ⟨sp_law12_CondFalls, law12_CondFalls_is, Try.call4⟩
end
section
section
variable {σ β : Type} {body : σ → Option (σ ⊕ β)}
theorem loop_nat (st : Nat → σ) (n : Nat) {b : β} (h : ∀ k, k < n → body (st k) = some (.inl (st (k + 1)))) (he : body (st n) = some (.inr b)) : loop body (st 0) = some b := by
 have : ∀ m k, k + m = n → loop body (st k) = some b := by
   intro m
   induction m with
   | zero => intro k hk; have : k = n := by omega
             subst this; exact loop_end he
   | succ m ih => intro k hk; rw [loop_next (h k (by omega))]; exact ih (k + 1) (by omega)
 exact this n 0 (by omega)
theorem least (p : Nat → Prop) : ∀ n, (∃ k, k < n ∧ p k ∧ ∀ j, j < k → ¬ p j) ∨ ∀ j, j < n → ¬ p j
 | 0 => .inr (fun j hj => by omega)
 | n + 1 => by
   rcases least p n with ⟨k, h1, h2, h3⟩ | h
   · exact .inl ⟨k, by omega, h2, h3⟩
   · by_cases hp : p n
     · exact .inl ⟨n, by omega, hp, h⟩
     · exact .inr (fun j hj => if e : j = n then e ▸ hp else h j (by omega))
theorem loop_find (p : Nat → Prop) (st : Nat → σ) (n : Nat) (hit : Nat → β) (e : β) (hgo : ∀ k, k < n → ¬ p k → body (st k) = some (.inl (st (k + 1)))) (hhit : ∀ k, k < n → p k → body (st k) = some (.inr (hit k))) (hend : body (st n) = some (.inr e)) :
   (∃ k, k < n ∧ p k ∧ (∀ j, j < k → ¬ p j) ∧ loop body (st 0) = some (hit k)) ∨ ((∀ j, j < n → ¬ p j) ∧ loop body (st 0) = some e) := by
 rcases least p n with ⟨k, h1, h2, h3⟩ | h
 · exact .inl ⟨k, h1, h2, h3, loop_nat st k (fun j hj => hgo j (by omega) (h3 j hj)) (hhit k h1 h2)⟩
 · exact .inr ⟨h, loop_nat st n (fun k hk => hgo k hk (h k hk)) hend⟩
open Classical in
theorem loop_any (p : Nat → Prop) (st : Nat → σ) (n : Nat) (b e : β) (hgo : ∀ k, k < n → ¬ p k → body (st k) = some (.inl (st (k + 1)))) (hhit : ∀ k, k < n → p k → body (st k) = some (.inr b)) (hend : body (st n) = some (.inr e)) :
   loop body (st 0) = some (if ∃ k, k < n ∧ p k then b else e) := by
 rcases loop_find p st n (fun _ => b) e hgo hhit hend with ⟨k, h1, h2, h3, h4⟩ | ⟨h1, h2⟩
 · rw [if_pos ⟨k, h1, h2⟩]; exact h4
 · rw [if_neg (fun ⟨k, h3, h4⟩ => h1 k h3 h4)]; exact h2
end
theorem w64 {x : Int} (h1 : -9223372036854775808 ≤ x) (h2 : x ≤ 9223372036854775807) : IntKind.wrap .i64 x = x := by
 rw [IntWalk.i64_left, IntWalk.wrap64_in _ ⟨h1, h2⟩]
theorem w64s {k n : Nat} (h : k < n) (hn : n ≤ 9223372036854775807) : IntKind.wrap .i64 ((k : Int) + 1) = ((k + 1 : Nat) : Int) := by
 rw [w64 (by omega) (by omega)]; rfl
theorem ne_list {α : Type} {xs ys : List α} (h : xs.length = ys.length) : (∃ k, k < xs.length ∧ xs[k]? ≠ ys[k]?) ↔ xs ≠ ys := by
 constructor
 · rintro ⟨k, _, h2⟩ rfl; exact h2 rfl
 · intro hne
   rcases least (fun k => xs[k]? ≠ ys[k]?) xs.length with ⟨k, h1, h2, _⟩ | h'
   · exact ⟨k, h1, h2⟩
   · exfalso; apply hne
     apply List.ext_getElem? 
     intro k
     by_cases hk : k < xs.length
     · exact Classical.byContradiction (fun hc => h' k hk hc)
     · rw [List.getElem?_eq_none (by omega), List.getElem?_eq_none (by omega)]
theorem getN {α : Type} {l : List α} {k : Nat} (h : k < l.length) : getI l (k : Int) = some l[k] := getI_eq rfl h
theorem any_ex {α : Type} {t : α → Bool} {l : List α} : l.any t = true ↔ ∃ k, k < l.length ∧ (l[k]?.map t) = some true := by
 rw [List.any_eq_true]
 constructor
 · rintro ⟨x, hx, h⟩
   obtain ⟨k, hk, rfl⟩ := List.getElem_of_mem hx
   exact ⟨k, hk, by simp [hk, h]⟩
 · rintro ⟨k, hk, h⟩
   exact ⟨l[k], List.getElem_mem hk, by simpa [hk] using h⟩
theorem loop_one {α β : Type} (xa : List α) (t : α → Bool) (hit e : β) (hn : xa.length ≤ 9223372036854775807) :
   loop (fun (i : Int) => (cond (decide (i < ((xa.length : Nat) : Int))) ((getI xa i).bind fun x => cond (t x) (some (.inr hit)) (some (.inl (IntKind.wrap .i64 (i + 1))))) (some (.inr e)) : Option (Int ⊕ β))) 0 = some (if xa.any t then hit else e) := by
 classical
 have h := loop_any (body := fun (i : Int) => (cond (decide (i < ((xa.length : Nat) : Int))) ((getI xa i).bind fun x => cond (t x) (some (.inr hit)) (some (.inl (IntKind.wrap .i64 (i + 1))))) (some (.inr e)) : Option (Int ⊕ β)))
   (fun k => (xa[k]?.map t) = some true) (fun k : Nat => (k : Int)) xa.length hit e ?_ ?_ ?_
 · refine h.trans ?_
   by_cases hh : xa.any t = true
   · rw [if_pos (any_ex.1 hh), if_pos hh]
   · rw [if_neg (fun h => hh (any_ex.2 h)), if_neg hh]
 · intro k hk hp
   simp [hk] at hp
   simp [hk, getN hk, hp, w64s hk hn]
 · intro k hk hp
   simp [hk] at hp
   simp [hk, getN hk, hp]
 · simp
theorem loop_two {α γ β : Type} (xa : List α) (xb : List γ) (t : α → γ → Bool) (hit e : β) (hl : xa.length = xb.length) (hn : xa.length ≤ 9223372036854775807) :
   loop (fun (i : Int) => (cond (decide (i < ((xa.length : Nat) : Int))) ((getI xa i).bind fun x => (getI xb i).bind fun y => cond (t x y) (some (.inr hit)) (some (.inl (IntKind.wrap .i64 (i + 1))))) (some (.inr e)) : Option (Int ⊕ β))) 0 = some (if (xa.zip xb).any (fun p => t p.1 p.2) then hit else e) := by
 classical
 have hz : (xa.zip xb).length = xa.length := by simp [hl]
 have h := loop_any (body := fun (i : Int) => (cond (decide (i < ((xa.length : Nat) : Int))) ((getI xa i).bind fun x => (getI xb i).bind fun y => cond (t x y) (some (.inr hit)) (some (.inl (IntKind.wrap .i64 (i + 1))))) (some (.inr e)) : Option (Int ⊕ β)))
   (fun k => ((xa.zip xb)[k]?.map fun p => t p.1 p.2) = some true) (fun k : Nat => (k : Int)) xa.length hit e ?_ ?_ ?_
 · refine h.trans ?_
   have ha := any_ex (t := fun p : α × γ => t p.1 p.2) (l := xa.zip xb)
   rw [hz] at ha
   by_cases hh : (xa.zip xb).any (fun p => t p.1 p.2) = true
   · rw [if_pos (ha.1 hh), if_pos hh]
   · rw [if_neg (fun h => hh (ha.2 h)), if_neg hh]
 · intro k hk hp
   have hk2 : k < xb.length := by omega
   have hk3 : k < (xa.zip xb).length := by omega
   have hz3 : (xa.zip xb)[k]? = some (xa[k], xb[k]) := by rw [List.getElem?_eq_getElem hk3, List.getElem_zip]
   rw [hz3] at hp
   simp at hp
   simp [hk, getN hk, getN hk2, hp, w64s hk hn]
 · intro k hk hp
   have hk2 : k < xb.length := by omega
   have hk3 : k < (xa.zip xb).length := by omega
   have hz3 : (xa.zip xb)[k]? = some (xa[k], xb[k]) := by rw [List.getElem?_eq_getElem hk3, List.getElem_zip]
   rw [hz3] at hp
   simp at hp
   simp [hk, getN hk, getN hk2, hp]
 · simp
theorem zip_any_ne {α : Type} [DecidableEq α] {xs ys : List α} (h : xs.length = ys.length) : (xs.zip ys).any (fun p => !decide (p.1 = p.2)) = !decide (xs = ys) := by
 induction xs generalizing ys with
 | nil => cases ys with
   | nil => rfl
   | cons => cases h
 | cons x xs ih => cases ys with
   | nil => cases h
   | cons y ys =>
     simp only [List.zip_cons_cons, List.any_cons, ih (by simpa using h), List.cons.injEq]
     by_cases h1 : x = y <;> simp [h1]
theorem loop_idx {α γ : Type} (xa : List α) (t : α → γ → Bool) (q : γ) (hn : xa.length ≤ 9223372036854775807) :
   ∃ r, loop (fun ((i, c) : Int × γ) => (cond (decide (i < ((xa.length : Nat) : Int))) ((getI xa i).bind fun x => cond (t x c) (some (.inr (.inr (i, c)))) (some (.inl (IntKind.wrap .i64 (i + 1), c)))) (some (.inr (.inl c))) : Option ((Int × γ) ⊕ (γ ⊕ (Int × γ))))) (0, q) = some r ∧ ((r = .inl q ∧ xa.any (t · q) = false) ∨ ∃ k : Nat, r = .inr ((k : Int), q) ∧ xa.any (t · q) = true) := by
 have h := loop_find (body := fun ((i, c) : Int × γ) => (cond (decide (i < ((xa.length : Nat) : Int))) ((getI xa i).bind fun x => cond (t x c) (some (.inr (.inr (i, c)))) (some (.inl (IntKind.wrap .i64 (i + 1), c)))) (some (.inr (.inl c))) : Option ((Int × γ) ⊕ (γ ⊕ (Int × γ)))))
   (fun k => (xa[k]?.map (t · q)) = some true) (fun k : Nat => ((k : Int), q)) xa.length (fun k => .inr ((k : Int), q)) (.inl q) ?_ ?_ ?_
 · rcases h with ⟨k, h1, h2, _, h3⟩ | ⟨h1, h2⟩
   · exact ⟨_, h3, .inr ⟨k, rfl, any_ex.2 ⟨k, h1, h2⟩⟩⟩
   · refine ⟨_, h2, .inl ⟨rfl, ?_⟩⟩
     cases hh : xa.any (t · q) with
     | false => rfl
     | true => obtain ⟨k, h3, h4⟩ := any_ex.1 hh; exact absurd h4 (h1 k h3)
 · intro k hk hp
   simp [hk] at hp
   simp [hk, getN hk, hp, w64s hk hn]
 · intro k hk hp
   simp [hk] at hp
   simp [hk, getN hk, hp]
 · simp
theorem loop_fold {α γ : Type} (xa : List α) (f : γ → α → γ) (c0 : γ) (hn : xa.length ≤ 9223372036854775807) {body : γ × Int → Option ((γ × Int) ⊕ γ)}
   (hb : ∀ k x, xa[k]? = some x → body ((xa.take k).foldl f c0, (k : Int)) = some (.inl (f ((xa.take k).foldl f c0) x, IntKind.wrap .i64 ((k : Int) + 1)))) (he : body (xa.foldl f c0, (xa.length : Int)) = some (.inr (xa.foldl f c0))) : loop body (c0, 0) = some (xa.foldl f c0) := by
 have h := loop_nat (body := body) (fun k : Nat => ((xa.take k).foldl f c0, (k : Int))) xa.length (b := xa.foldl f c0) ?_ ?_
 · simpa using h
 · intro k hk
   rw [hb k xa[k] (by simp [hk]), w64s hk hn]
   congr 3
   rw [List.take_succ_eq_append_getElem hk, List.foldl_append]; rfl
 · simpa using he
theorem foldl_snoc {α γ : Type} (g : α → γ) (xa : List α) (c : List γ) : xa.foldl (fun c x => c ++ [g x]) c = c ++ xa.map g := by
 induction xa generalizing c with
 | nil => simp
 | cons x xa ih => simp [ih]
theorem loop_map {α γ : Type} (xa : List α) (g : α → γ) (c0 : List γ) (hn : c0.length + xa.length ≤ 1073741824) {body : List γ × Int → Option ((List γ × Int) ⊕ List γ)}
   (hb : ∀ (c : List γ) (i : Int), body (c, i) = cond (decide (i < ((xa.length : Nat) : Int))) ((getI xa i).bind fun x => (app c [g x]).bind fun z => some (.inl (z, IntKind.wrap .i64 (i + 1)))) (some (.inr c))) : loop body (c0, 0) = some (c0 ++ xa.map g) := by
 rw [← foldl_snoc]
 refine loop_fold xa (fun c x => c ++ [g x]) c0 (by omega) (fun k x hx => ?_) ?_
 · have hk := (List.getElem?_eq_some_iff.1 hx).1
   rw [hb, foldl_snoc]
   have hx' : xa[k] = x := by rw [List.getElem?_eq_getElem hk] at hx; exact Option.some.inj hx
   have ha := app_eq (a := c0 ++ (xa.take k).map g) (b := [g x]) (by simp; omega)
   simp only [Option.bind_some, getN hk, hx', ha, Int.ofNat_lt.2 hk, decide_true, cond_true]
 · rw [hb]; simp
end
section
theorem bind_of {α β : Type} {m : Option α} {f : α → Option β} {y : β} {Q : α → Prop} (h : ∃ r, m = some r ∧ Q r) (k : ∀ r, Q r → f r = some y) : m.bind f = some y := by
 obtain ⟨r, rfl, h2⟩ := h; exact k r h2
theorem bind_ex {α β : Type} {m : Option α} {f : α → Option β} {Q : α → Prop} {R : β → Prop} (h : ∃ r, m = some r ∧ Q r) (k : ∀ r, Q r → ∃ y, f r = some y ∧ R y) : ∃ y, m.bind f = some y ∧ R y := by
 obtain ⟨r, rfl, h2⟩ := h; exact k r h2
theorem getZ {α : Type} {l : List α} {i : Int} (h0 : 0 ≤ i) (h1 : i < (l.length : Nat)) : getI l i = some (l[i.toNat]'(by omega)) := by
 unfold getI; rw [if_pos h0]; simp
theorem getN1 {α : Type} {l : List α} {k : Nat} (h : k + 1 < l.length) : getI l ((k : Int) + 1) = some l[k + 1] := getI_eq rfl h
theorem dlt {k n : Nat} (h : k < n) : decide ((k : Int) < (n : Int)) = true := by simp; omega
theorem dge {k n : Nat} (h : ¬ k < n) : decide ((k : Int) < (n : Int)) = false := by simp; omega
theorem beq_dec {α : Type} [DecidableEq α] (a b : α) : (a == b) = decide (a = b) := Bool.beq_eq_decide_eq a b
section
variable {α β γ σ : Type}
theorem loop_stop {body : σ → Option (σ ⊕ β)} (n : Nat) (st : Nat → σ) (stop : Nat → Option β) (e : β) (h : ∀ k, k < n → body (st k) = some (match stop k with | none => .inl (st (k + 1)) | some b => .inr b)) (he : body (st n) = some (.inr e)) :
   loop body (st 0) = some (((List.range n).findSome? stop).getD e) := by
 rcases loop_find (fun k => (stop k).isSome = true) st n (fun k => (stop k).getD e) e (fun k hk hp => by
     rw [h k hk]; cases hs : stop k with
     | none => rfl
     | some b => simp [hs] at hp) (fun k hk hp => by
     rw [h k hk]; cases hs : stop k with
     | none => simp [hs] at hp
     | some b => rfl) he with ⟨k, h1, h2, h3, h4⟩ | ⟨h1, h2⟩
 · rw [h4]
   obtain ⟨b, hb⟩ := Option.isSome_iff_exists.1 h2
   have : (List.range n).findSome? stop = some b := by
     rw [List.findSome?_eq_some_iff]
     refine ⟨List.range k, k, (List.range' (k + 1) (n - k - 1)), ?_, hb, fun a ha => ?_⟩
     · rw [List.range_eq_range', List.range_eq_range', ← List.range'_succ (s := k) (n := n - k - 1)]
       rw [show n - k - 1 + 1 = n - k by omega]
       have := List.range'_append_1 (s := 0) (m := k) (n := n - k)
       rw [Nat.zero_add, show k + (n - k) = n by omega] at this
       exact this.symm
     · have := h3 a (List.mem_range.1 ha)
       cases hs : stop a with
       | none => rfl
       | some b => simp [hs] at this
   rw [this, hb]
 · rw [h2]
   have : (List.range n).findSome? stop = none := by
     rw [List.findSome?_eq_none_iff]
     intro a ha
     have := h1 a (List.mem_range.1 ha)
     cases hs : stop a with
     | none => rfl
     | some b => simp [hs] at this
   rw [this]; rfl
theorem loop_search {body : Int → Option (Int ⊕ β)} (xa : List α) (t : α → Bool) (hit : Nat → β) (e : β) (hb : ∀ (k : Nat) (h : k < xa.length), body (k : Int) = some (if t xa[k] then .inr (hit k) else .inl ((k + 1 : Nat) : Int))) (he : body (xa.length : Int) = some (.inr e)) :
   loop body 0 = some (match xa.findIdx? t with | some k => hit k | none => e) := by
 rcases loop_find (fun k => ∃ h : k < xa.length, t xa[k] = true) (fun k : Nat => (k : Int)) xa.length hit e (fun k hk hp => by
     rw [hb k hk, if_neg (fun h => hp ⟨hk, h⟩)]) (fun k hk ⟨_, hp⟩ => by rw [hb k hk, if_pos hp]) he with ⟨k, h1, ⟨_, h2⟩, h3, h4⟩ | ⟨h1, h2⟩
 · rw [show ((0 : Int)) = ((0 : Nat) : Int) from rfl, h4]
   have : xa.findIdx? t = some k := by
     rw [List.findIdx?_eq_some_iff_getElem]
     exact ⟨h1, h2, fun j hj => fun hc => h3 j hj ⟨by omega, by simpa using hc⟩⟩
   rw [this]
 · rw [show ((0 : Int)) = ((0 : Nat) : Int) from rfl, h2]
   have : xa.findIdx? t = none := by
     rw [List.findIdx?_eq_none_iff]
     intro x hx
     obtain ⟨k, hk, rfl⟩ := List.getElem_of_mem hx
     cases hc : t xa[k] with
     | false => rfl
     | true => exact absurd ⟨hk, hc⟩ (h1 k hk)
   rw [this]
theorem loop_some {body : Int → Option (Int ⊕ β)} (xa : List α) (t : α → Bool) (hit e : β) (hb : ∀ (k : Nat) (h : k < xa.length), body (k : Int) = some (if t xa[k] then .inr hit else .inl ((k + 1 : Nat) : Int))) (he : body (xa.length : Int) = some (.inr e)) :
   loop body 0 = some (if xa.any t then hit else e) := by
 rw [loop_search xa t (fun _ => hit) e hb he]
 cases h : xa.findIdx? t with
 | none =>
   have : xa.any t = false := by
     rw [List.any_eq_false]; intro x hx; have := List.findIdx?_eq_none_iff.1 h x hx; simp [this]
   rw [this]; rfl
 | some k =>
   obtain ⟨hk, h1, _⟩ := List.findIdx?_eq_some_iff_getElem.1 h
   have : xa.any t = true := List.any_eq_true.2 ⟨_, List.getElem_mem hk, h1⟩
   rw [this]; rfl
theorem loop_carry {δ : Type} {body : (γ × Int) → Option ((γ × Int) ⊕ δ)} (xa : List α) (acc : Nat → γ) (out : δ) (hb : ∀ (k : Nat) (h : k < xa.length), body (acc k, (k : Int)) = some (.inl (acc (k + 1), ((k + 1 : Nat) : Int)))) (he : body (acc xa.length, (xa.length : Int)) = some (.inr out)) :
   loop body (acc 0, 0) = some out := loop_nat (fun k => (acc k, (k : Int))) xa.length hb he
theorem loop_alike [DecidableEq α] {body : Int → Option (Int ⊕ β)} (xa xb : List α) (hit e : β) (hl : xa.length = xb.length) (hb : ∀ (k : Nat) (h : k < xa.length), body (k : Int) = some (if xa[k] = (xb[k]'(by omega)) then .inl ((k + 1 : Nat) : Int) else .inr hit)) (he : body (xa.length : Int) = some (.inr e)) :
   loop body 0 = some (if xa = xb then e else hit) := by
 rw [loop_search (List.range xa.length) (fun k => decide (xa[k]? ≠ xb[k]?)) (fun _ => hit) e (fun k h => by
     simp at h
     rw [hb k h]
     have h2 : k < xb.length := by omega
     by_cases hq : xa[k] = xb[k] <;> simp [h, h2, hq]) (by simpa using he)]
 by_cases hq : xa = xb
 · subst hq
   have : (List.range xa.length).findIdx? (fun k => decide (xa[k]? ≠ xa[k]?)) = none := by rw [List.findIdx?_eq_none_iff]; simp
   rw [this]; simp
 · cases h : (List.range xa.length).findIdx? (fun k => decide (xa[k]? ≠ xb[k]?)) with
   | some k => simp [hq]
   | none =>
     exfalso; apply hq
     rw [List.findIdx?_eq_none_iff] at h
     apply List.ext_getElem?
     intro k
     by_cases hk : k < xa.length
     · simpa using h k (List.mem_range.2 hk)
     · rw [List.getElem?_eq_none (by omega), List.getElem?_eq_none (by omega)]
theorem take_snoc {l : List α} {k : Nat} (h : k < l.length) : l.take (k + 1) = l.take k ++ [l[k]] := List.take_succ_eq_append_getElem h
theorem dlen {a b : Nat} (h : a = b) : (!decide ((a : Int) = (b : Int))) = false := by simp [h]
theorem dlen' {a b : Nat} (h : ¬ a = b) : (!decide ((a : Int) = (b : Int))) = true := by simp; omega
end
theorem ok64 {x : Int} (h : Tp.Ok (.int .i64) x) : -9223372036854775808 ≤ x ∧ x ≤ 9223372036854775807 := by
 have h' : (Lit.int .i64 x).wf = true := h
 simp only [Lit.wf, IntKind.min, IntKind.max, IntKind.signed, IntKind.bits, Bool.and_eq_true, decide_eq_true_eq] at h'
 simp at h'; omega
theorem sub1 {α : Type} {l : List α} (h : 1 ≤ l.length) : subL l 1 ((l.length : Nat) : Int) = some (l.drop 1) := by
 rw [subL_eq (by omega) (by omega) (by omega)]; simp
end
theorem strict_eq : ∀ {xs ys : List Int}, xs.Pairwise (· < ·) → ys.Pairwise (· < ·) → (∀ a, a ∈ xs ↔ a ∈ ys) → xs = ys
 | [], [], _, _, _ => rfl
 | [], y :: ys, _, _, h => by have := (h y).2 (by simp); simp at this
 | x :: xs, [], _, _, h => by have := (h x).1 (by simp); simp at this
 | x :: xs, y :: ys, hx, hy, h => by
   obtain ⟨hx1, hx2⟩ := List.pairwise_cons.1 hx
   obtain ⟨hy1, hy2⟩ := List.pairwise_cons.1 hy
   have e : x = y := by
     have h1 := (h x).1 (by simp)
     have h2 := (h y).2 (by simp)
     rcases List.mem_cons.1 h1 with h1 | h1
     · exact h1
     · rcases List.mem_cons.1 h2 with h2 | h2
       · exact h2.symm
       · have := hy1 x h1; have := hx1 y h2; omega
   subst e
   rw [strict_eq hx2 hy2 (fun a => ?_)]
   constructor
   · intro ha
     rcases List.mem_cons.1 ((h a).1 (by simp [ha])) with e | e
     · subst e; have := hx1 a ha; omega
     · exact e
   · intro ha
     rcases List.mem_cons.1 ((h a).2 (by simp [ha])) with e | e
     · subst e; have := hy1 a ha; omega
     · exact e
theorem compactUpTo_sorted {zs : List Int} (hs : zs.Pairwise (· ≤ ·)) : ∀ m, m ≤ zs.length → (Lib.compactUpTo zs.toArray m).Pairwise (· < ·) ∧ ∀ a, a ∈ Lib.compactUpTo zs.toArray m ↔ a ∈ zs.take m
 | 0, _ => by simp [Lib.compactUpTo]
 | m + 1, h => by
   obtain ⟨h1, h2⟩ := compactUpTo_sorted hs m (by omega)
   have hm : m < zs.length := by omega
   have e : zs.toArray[m]! = zs[m] := by simp [getElem!_pos, hm]
   rw [Lib.compactUpTo_succ, e]
   have htk : zs.take (m + 1) = zs.take m ++ [zs[m]] := List.take_succ_eq_append_getElem hm
   have hle : ∀ a ∈ zs.take m, a ≤ zs[m] := by
     intro a ha
     have := hs.sublist (List.take_sublist (m + 1) zs)
     rw [htk] at this
     exact (List.pairwise_append.1 this).2.2 a ha _ (by simp)
   rw [htk]
   cases hk : Lib.keeps zs.toArray m with
   | false =>
     simp only [Bool.false_eq_true, if_false, List.append_nil]
     refine ⟨h1, fun a => ?_⟩
     rw [h2, List.mem_append]
     have hm0 : m ≠ 0 := by rintro rfl; simp [Lib.keeps] at hk
     have he : zs.toArray[m]! = zs.toArray[m - 1]! := by
       simp [Lib.keeps, hm0] at hk; simpa using hk
     have hp : m - 1 < zs.length := by omega
     have e2 : zs.toArray[m - 1]! = zs[m - 1] := by simp [getElem!_pos, hp]
     rw [e, e2] at he
     constructor
     · exact .inl
     · rintro (h | h)
       · exact h
       · simp at h; rw [h, he]
         exact List.mem_take_iff_getElem.2 ⟨m - 1, by omega, rfl⟩
   | true =>
     simp only [if_true]
     refine ⟨List.pairwise_append.2 ⟨h1, by simp, fun a ha b hb => ?_⟩, fun a => by rw [List.mem_append, List.mem_append, h2]⟩
     simp at hb; subst hb
     have ha' := (h2 a).1 ha
     have hle' := hle a ha'
     rcases Int.lt_or_eq_of_le hle' with h | h
     · exact h
     · exfalso
       obtain ⟨j, hj, rfl⟩ := List.mem_take_iff_getElem.1 ha'
       have hm0 : m ≠ 0 := by omega
       have hp : m - 1 < zs.length := by omega
       have e2 : zs.toArray[m - 1]! = zs[m - 1] := by simp [getElem!_pos, hp]
       simp only [Lib.keeps, e, e2] at hk
       simp [hm0] at hk
       have a1 : zs[j] ≤ zs[m - 1] := by
         rcases Nat.lt_or_ge j (m - 1) with q | q
         · exact List.pairwise_iff_getElem.1 hs j (m - 1) _ _ q
         · have : j = m - 1 := by omega
           subst this; exact Int.le_refl _
       have a2 : zs[m - 1] ≤ zs[m] := List.pairwise_iff_getElem.1 hs (m - 1) m _ _ (by omega)
       omega
theorem compact_sorted {zs : List Int} (hs : zs.Pairwise (· ≤ ·)) : (Lib.compact zs).Pairwise (· < ·) ∧ ∀ a, a ∈ Lib.compact zs ↔ a ∈ zs := by
 have := compactUpTo_sorted hs zs.length (Nat.le_refl _)
 rw [List.take_length] at this
 exact this
section
theorem getI_map {α : Type} {m j : Nat} {f : Nat → α} (h : j < m) : getI ((List.range m).map f) (j : Int) = some (f j) := by
 rw [getN (by simpa using h)]; simp
theorem set_map {α : Type} {m j : Nat} {f : Nat → α} {y : α} : ((List.range m).map f).set j y = (List.range m).map (fun v => if v = j then y else f v) := by
 apply List.ext_getElem
 · simp
 · intro i h1 h2
   simp only [List.getElem_set, List.getElem_map, List.getElem_range]
   by_cases h : j = i
   · subst h; simp
   · simp [h, Ne.symm h]
theorem map_congr_range {α : Type} {m : Nat} {f g : Nat → α} (h : ∀ v, v < m → f v = g v) : (List.range m).map f = (List.range m).map g := List.map_congr_left fun v hv => h v (List.mem_range.1 hv)
theorem replicate_map {α : Type} (m : Nat) (z : α) : List.replicate m z = (List.range m).map (fun _ => z) := by
 apply List.ext_getElem <;> simp
def cnt (ks : List Nat) (v : Nat) : Nat := ks.countP (fun x => decide (x = v))
def ltc (ks : List Nat) (v : Nat) : Nat := ks.countP (fun x => decide (x < v))
theorem ltc_zero (ks : List Nat) : ltc ks 0 = 0 := by simp [ltc]
theorem ltc_succ (ks : List Nat) (v : Nat) : ltc ks (v + 1) = ltc ks v + cnt ks v := by
 unfold ltc cnt
 induction ks with
 | nil => rfl
 | cons x ks ih =>
   rw [List.countP_cons, List.countP_cons, List.countP_cons, ih]
   by_cases h : x < v
   · simp [h, show x < v + 1 by omega, show ¬ x = v by omega]; omega
   · by_cases h2 : x = v
     · simp [h2]; omega
     · simp [h, h2, show ¬ x < v + 1 by omega]
theorem ltc_mono (ks : List Nat) {v w : Nat} (h : v ≤ w) : ltc ks v ≤ ltc ks w := by
 unfold ltc; apply List.countP_mono_left; intro x _; simp; omega
theorem ltc_le (ks : List Nat) (v : Nat) : ltc ks v ≤ ks.length := List.countP_le_length
theorem cnt_le (ks : List Nat) (v : Nat) : cnt ks v ≤ ks.length := List.countP_le_length
theorem cnt_take {ks : List Nat} {k : Nat} (h : k < ks.length) (v : Nat) : cnt (ks.take (k + 1)) v = cnt (ks.take k) v + (if ks[k] = v then 1 else 0) := by
 unfold cnt; rw [take_snoc h, List.countP_append]; simp [List.countP_cons]
theorem cnt_take_le (ks : List Nat) (k v : Nat) : cnt (ks.take k) v ≤ cnt ks v := by
 unfold cnt
 conv => rhs; rw [← List.take_append_drop k ks, List.countP_append]
 omega
theorem cnt_take_lt {ks : List Nat} {k : Nat} (h : k < ks.length) : cnt (ks.take k) ks[k] < cnt ks ks[k] := by
 have := cnt_take_le ks (k + 1) ks[k]
 rw [cnt_take h] at this
 simp at this; omega
def pos (ks : List Nat) (i : Nat) : Nat := ltc ks (ks.getD i 0) + cnt (ks.take i) (ks.getD i 0)
theorem pos_lt {ks : List Nat} {i : Nat} (h : i < ks.length) : pos ks i < ltc ks (ks[i] + 1) := by
 have := cnt_take_lt h
 unfold pos; rw [ltc_succ]
 simp [h]; omega
theorem pos_ge {ks : List Nat} {i : Nat} (h : i < ks.length) : ltc ks ks[i] ≤ pos ks i := by unfold pos; simp [h]
theorem pos_lt_len {ks : List Nat} {i : Nat} (h : i < ks.length) : pos ks i < ks.length := Nat.lt_of_lt_of_le (pos_lt h) (ltc_le _ _)
theorem pos_inj {ks : List Nat} {i j : Nat} (hi : i < j) (hj : j < ks.length) : pos ks i ≠ pos ks j := by
 have hi' : i < ks.length := by omega
 rcases Nat.lt_trichotomy ks[i] ks[j] with h | h | h
 · have := pos_lt hi'; have := pos_ge hj; have := ltc_mono ks (v := ks[i] + 1) (w := ks[j]) (by omega); omega
 · have h1 := cnt_take hi' ks[j]
   have h2 : cnt (ks.take (i + 1)) ks[j] ≤ cnt (ks.take j) ks[j] := by
     have := cnt_take_le (ks.take j) (i + 1) ks[j]
     rw [List.take_take, Nat.min_eq_left (by omega)] at this; exact this
   unfold pos; simp [hi', hj, h] at h1 ⊢; omega
 · have := pos_lt hj; have := pos_ge hi'; have := ltc_mono ks (v := ks[j] + 1) (w := ks[i]) (by omega); omega
def occ (ks : List Nat) (v : Nat) : List Nat := (List.range ks.length).filter (fun i => decide (ks.getD i 0 = v))
theorem occ_upto (ks : List Nat) (v : Nat) : ∀ k, k ≤ ks.length → ((List.range k).filter (fun i => decide (ks.getD i 0 = v))).length = cnt (ks.take k) v ∧ ∀ (r i : Nat), ((List.range k).filter (fun i => decide (ks.getD i 0 = v)))[r]? = some i → ∃ hi : i < ks.length, ks[i] = v ∧ cnt (ks.take i) v = r
 | 0, _ => by simp [cnt]
 | k + 1, hk => by
   obtain ⟨h1, h2⟩ := occ_upto ks v k (by omega)
   have hkl : k < ks.length := by omega
   have e : (List.range (k + 1)).filter (fun i => decide (ks.getD i 0 = v)) = (List.range k).filter (fun i => decide (ks.getD i 0 = v)) ++ (if ks[k] = v then [k] else []) := by
     rw [List.range_succ, List.filter_append]
     by_cases h : ks[k] = v <;> simp [hkl, h]
   rw [e, cnt_take hkl]
   generalize hF : (List.range k).filter (fun i => decide (ks.getD i 0 = v)) = F at h1 h2
   by_cases h : ks[k] = v
   · simp only [h, if_true]
     refine ⟨by simp [h1], fun r i hr => ?_⟩
     by_cases hr2 : r < F.length
     · rw [List.getElem?_append_left hr2] at hr; exact h2 r i hr
     · rw [List.getElem?_append_right (by omega)] at hr
       have hr3 : r - F.length = 0 := by
         have := (List.getElem?_eq_some_iff.1 hr).1
         simp at this; omega
       rw [hr3] at hr
       simp at hr
       subst hr
       exact ⟨hkl, h, by omega⟩
   · simp only [h, if_false, List.append_nil, Nat.add_zero]
     exact ⟨h1, h2⟩
theorem occ_len (ks : List Nat) (v : Nat) : (occ ks v).length = cnt ks v := by have := (occ_upto ks v ks.length (Nat.le_refl _)).1; rw [List.take_length] at this; exact this
theorem occ_get (ks : List Nat) (v r : Nat) (h : r < (occ ks v).length) : ∃ (hi : (occ ks v)[r] < ks.length), ks[(occ ks v)[r]] = v ∧ cnt (ks.take (occ ks v)[r]) v = r := (occ_upto ks v ks.length (Nat.le_refl _)).2 r _ (List.getElem?_eq_getElem h)
theorem occ_mem {ks : List Nat} {v i : Nat} : i ∈ occ ks v ↔ ∃ h : i < ks.length, ks[i] = v := by
 unfold occ
 simp only [List.mem_filter, List.mem_range, decide_eq_true_eq]
 constructor
 · rintro ⟨h1, h2⟩; exact ⟨h1, by simpa [h1] using h2⟩
 · rintro ⟨h1, h2⟩; exact ⟨h1, by simpa [h1] using h2⟩
def av (ks : List Nat) (k p : Nat) : Nat := ((List.range k).find? (fun i => decide (pos ks i = p))).getD 0
theorem av_pos {ks : List Nat} {k i : Nat} (hk : k ≤ ks.length) (hi : i < k) : av ks k (pos ks i) = i := by
 unfold av
 cases h : (List.range k).find? (fun j => decide (pos ks j = pos ks i)) with
 | none =>
   rw [List.find?_eq_none] at h
   exact absurd (by simp) (h i (List.mem_range.2 hi))
 | some j =>
   have h1 := List.find?_some h
   have h2 := List.mem_range.1 (List.mem_of_find?_eq_some h)
   simp at h1
   rcases Nat.lt_trichotomy i j with q | q | q
   · exact absurd h1.symm (pos_inj q (by omega))
   · exact q.symm
   · exact absurd h1 (pos_inj q (by omega))
theorem av_succ {ks : List Nat} {k : Nat} (hk : k < ks.length) (p : Nat) : av ks (k + 1) p = if p = pos ks k then k else av ks k p := by
 by_cases h : p = pos ks k
 · rw [if_pos h, h, av_pos (by omega) (by omega)]
 · rw [if_neg h]
   unfold av
   rw [List.range_succ, List.find?_append]
   simp [Ne.symm h]
theorem av_sub (ks : List Nat) (v : Nat) : ((((List.range ks.length).map (fun p => (av ks ks.length p : Int))).take (ltc ks (v + 1))).drop (ltc ks v)) = (occ ks v).map (fun i : Nat => (i : Int)) := by
 apply List.ext_getElem
 · have h1 := ltc_succ ks v
   have h2 := ltc_le ks (v + 1)
   rw [List.length_drop, List.length_take, List.length_map, List.length_map, occ_len, List.length_range]; omega
 · intro r h1 h2
   have hr : r < (occ ks v).length := by simpa using h2
   obtain ⟨hi, h3, h4⟩ := occ_get ks v r hr
   simp only [List.getElem_drop, List.getElem_take, List.getElem_map, List.getElem_range]
   have : pos ks (occ ks v)[r] = ltc ks v + r := by
     have e : ks.getD (occ ks v)[r] 0 = v := by simp [hi, h3]
     unfold pos; rw [e, h4]
   rw [← this, av_pos (Nat.le_refl _) hi]
section
variable {α : Type} (key : α → Int) (n : Int) (xb : List α)
def ix1 : (Int × (List Int)) → Option ((Int × (List Int)) ⊕ (List Int)) := fun ((i, l) : (Int × (List Int))) => cond (decide (i < (((xb.length : Nat) : Int)))) ((getI xb i).bind fun x => (getI l (IntKind.wrap .i64 (key x + 1))).bind fun a => (getI l (IntKind.wrap .i64 (key x + 1))).bind fun b => (some (l.set (IntKind.wrap .i64 (key x + 1)).toNat (IntKind.wrap .i64 (a + 1)))).bind fun z => some (.inl ((IntKind.wrap .i64 (i + 1), z)))) (some (.inr (l)))
def ix2 : (Int × (List Int)) → Option ((Int × (List Int)) ⊕ (List Int)) := fun ((i, l) : (Int × (List Int))) => cond (decide (i < n)) ((getI l (IntKind.wrap .i64 (i + 1))).bind fun a => (getI l i).bind fun b => (getI l (IntKind.wrap .i64 (i + 1))).bind fun c => (some (l.set (IntKind.wrap .i64 (i + 1)).toNat (IntKind.wrap .i64 (a + b)))).bind fun z => some (.inl ((IntKind.wrap .i64 (i + 1), z)))) (some (.inr (l)))
def ix3 : ((List Int) × Int × (List Int)) → Option (((List Int) × Int × (List Int)) ⊕ (List Int)) := fun ((l, i, m) : ((List Int) × Int × (List Int))) => cond (decide (i < (((xb.length : Nat) : Int)))) ((getI xb i).bind fun x => (getI l (key x)).bind fun a => (getI m a).bind fun b => (some (m.set a.toNat i)).bind fun z => (getI l (key x)).bind fun c => (getI l (key x)).bind fun d => (some (l.set (key x).toNat (IntKind.wrap .i64 (c + 1)))).bind fun y => some (.inl ((y, IntKind.wrap .i64 (i + 1), z)))) (some (.inr (m)))
variable {key n xb} {ks : List Nat}
theorem key_at (hk : xb.map key = ks.map (fun k : Nat => (k : Int))) {i : Nat} (h : i < xb.length) : ∃ h2 : i < ks.length, key xb[i] = (ks[i] : Int) := by
 have hl : xb.length = ks.length := by simpa using congrArg List.length hk
 refine ⟨by omega, ?_⟩
 have h1 : (xb.map key)[i]'(by simpa using h) = (ks.map (fun k : Nat => (k : Int)))[i]'(by simp; omega) := by simp only [hk]
 simpa using h1
theorem ix1_eq {N : Nat} (hk : xb.map key = ks.map (fun k : Nat => (k : Int))) (hN : ∀ x ∈ ks, x < N) (hb : ks.length ≤ 1073741824) (hNb : N ≤ 1073741824) : loop (ix1 key xb) (0, List.replicate (N + 1) 0) = some ((List.range (N + 1)).map (fun v => ((if v = 0 then 0 else cnt ks (v - 1) : Nat) : Int))) := by
 have hl : xb.length = ks.length := by simpa using congrArg List.length hk
 have h := loop_nat (body := ix1 key xb) (fun k : Nat => ((k : Int), (List.range (N + 1)).map (fun v => ((if v = 0 then 0 else cnt (ks.take k) (v - 1) : Nat) : Int)))) xb.length (b := (List.range (N + 1)).map (fun v => ((if v = 0 then 0 else cnt ks (v - 1) : Nat) : Int))) ?_ ?_
 · rw [replicate_map]; simpa [cnt] using h
 · intro k hk2
   obtain ⟨hk3, hk4⟩ := key_at hk hk2
   have hlt := hN _ (List.getElem_mem hk3)
   have hw : IntKind.wrap .i64 (key xb[k] + 1) = ((ks[k] + 1 : Nat) : Int) := by rw [hk4, w64 (by omega) (by omega)]; omega
   have hc := cnt_le (ks.take k) ks[k]
   simp only [List.length_take] at hc
   unfold ix1
   simp only [dlt hk2, cond_true, getN hk2, Option.bind_some, hw, getI_map (show ks[k] + 1 < N + 1 by omega), Int.toNat_natCast, set_map, w64s hk2 (by omega : xb.length ≤ 9223372036854775807)]
   congr 3
   refine map_congr_range (fun v hv => ?_)
   rw [cnt_take hk3]
   simp only [Nat.add_one_ne_zero, if_false, Nat.add_sub_cancel]
   by_cases h1 : v = ks[k] + 1
   · subst h1; simp only [if_true, Nat.add_one_ne_zero, if_false, Nat.add_sub_cancel]; rw [w64 (by omega) (by omega)]; omega
   · rw [if_neg h1]
     by_cases h2 : v = 0
     · simp [h2]
     · simp [h2, show ¬ ks[k] = v - 1 by omega]
 · unfold ix1
   simp only [hl, Int.lt_irrefl, decide_false, cond_false, List.take_length]
theorem ix2_eq {N : Nat} (hb : ks.length ≤ 1073741824) (hNb : N ≤ 1073741824) : loop (ix2 (N : Int)) (0, (List.range (N + 1)).map (fun v => ((if v = 0 then 0 else cnt ks (v - 1) : Nat) : Int))) = some ((List.range (N + 1)).map (fun v => (ltc ks v : Int))) := by
 have h := loop_nat (body := ix2 (N : Int)) (fun j : Nat => ((j : Int), (List.range (N + 1)).map (fun v => ((if v ≤ j then ltc ks v else cnt ks (v - 1) : Nat) : Int)))) N (b := (List.range (N + 1)).map (fun v => (ltc ks v : Int))) ?_ ?_
 · have e : (List.range (N + 1)).map (fun v => ((if v ≤ 0 then ltc ks v else cnt ks (v - 1) : Nat) : Int)) = (List.range (N + 1)).map (fun v => ((if v = 0 then 0 else cnt ks (v - 1) : Nat) : Int)) := by
     refine map_congr_range (fun v hv => ?_)
     by_cases h1 : v = 0
     · simp [h1, ltc_zero]
     · simp [h1]
   simp only [e] at h
   exact h
 · intro j hj
   have hs := ltc_succ ks j
   have hle := ltc_le ks (j + 1)
   unfold ix2
   simp only [dlt hj, cond_true, w64s hj (by omega : N ≤ 9223372036854775807), getI_map (show j + 1 < N + 1 by omega), getI_map (show j < N + 1 by omega), Option.bind_some, Int.toNat_natCast, set_map]
   congr 3
   refine map_congr_range (fun v hv => ?_)
   simp only [show ¬ (j + 1 ≤ j) by omega, if_false, Nat.le_refl, if_true, Nat.add_sub_cancel]
   by_cases h1 : v = j + 1
   · subst h1; simp only [if_true, Nat.le_refl]; rw [w64 (by omega) (by omega)]; omega
   · rw [if_neg h1]
     by_cases h2 : v ≤ j
     · simp [h2, show v ≤ j + 1 by omega]
     · simp [h2, show ¬ v ≤ j + 1 by omega]
 · unfold ix2
   simp only [Int.lt_irrefl, decide_false, cond_false]
   congr 2
   refine map_congr_range (fun v hv => ?_)
   simp [show v ≤ N by omega]
theorem ix3_eq {N : Nat} (hk : xb.map key = ks.map (fun k : Nat => (k : Int))) (hN : ∀ x ∈ ks, x < N) (hb : ks.length ≤ 1073741824) (hNb : N ≤ 1073741824) : loop (ix3 key xb) ((List.range (N + 1)).map (fun v => (ltc ks v : Int)), 0, List.replicate xb.length 0) = some ((List.range ks.length).map (fun p => (av ks ks.length p : Int))) := by
 have hl : xb.length = ks.length := by simpa using congrArg List.length hk
 have h := loop_nat (body := ix3 key xb) (fun k : Nat => ((List.range (N + 1)).map (fun v => ((ltc ks v + cnt (ks.take k) v : Nat) : Int)), (k : Int), (List.range ks.length).map (fun p => (av ks k p : Int)))) xb.length (b := (List.range ks.length).map (fun p => (av ks ks.length p : Int))) ?_ ?_
 · rw [hl, replicate_map]; simpa [cnt, av] using h
 · intro k hk2
   obtain ⟨hk3, hk4⟩ := key_at hk hk2
   have hlt := hN _ (List.getElem_mem hk3)
   have hp : ltc ks ks[k] + cnt (ks.take k) ks[k] = pos ks k := by unfold pos; simp [hk3]
   have hpl := pos_lt_len hk3
   unfold ix3
   simp only [dlt hk2, cond_true, getN hk2, Option.bind_some, hk4, getI_map (show ks[k] < N + 1 by omega), hp, getI_map hpl, Int.toNat_natCast, set_map, w64s hk2 (by omega : xb.length ≤ 9223372036854775807)]
   congr 3
   · refine map_congr_range (fun v hv => ?_)
     rw [cnt_take hk3]
     by_cases h1 : v = ks[k]
     · subst h1; simp only [if_true]; rw [w64 (by omega) (by omega)]; omega
     · rw [if_neg h1, if_neg (Ne.symm h1)]; simp
   · congr 1
     refine map_congr_range (fun p hp2 => ?_)
     rw [av_succ hk3]
     split <;> rfl
 · unfold ix3
   simp only [hl, Int.lt_irrefl, decide_false, cond_false]
end
abbrev Gr := Int × (List (Int × Int)) × ((List Int) × (List Int)) × ((List Int) × (List Int))
abbrev ArG := List (Nat × Nat)
def ai (E : ArG) : List (Int × Int) := E.map (fun e => ((e.1 : Int), (e.2 : Int)))
def ixs (N : Nat) (ks : List Nat) : List Int × List Int := ((List.range (N + 1)).map (fun v => (ltc ks v : Int)), (List.range ks.length).map (fun p => (av ks ks.length p : Int)))
def mkG (N : Nat) (E : ArG) : Gr := ((N : Int), ai E, ixs N (E.map (·.1)), ixs N (E.map (·.2)))
def inN (N : Nat) (E : ArG) : Prop := ∀ e ∈ E, e.1 < N ∧ e.2 < N
theorem ai_len (E : ArG) : (ai E).length = E.length := by simp [ai]
theorem clone_eq {α : Type} (xa : List α) (hn : xa.length ≤ 1073741824) : nilb xa (some ([] : List α)) ((app ([] : List α) xa).bind fun z => some z) = some xa := by
 rw [nilb_eq]
 · rw [app_eq (by simpa using hn)]; simp
 · rintro rfl; rw [app_eq (by simp)]; rfl
theorem indexed1_eq {N : Nat} {E : ArG} (h : inN N E) (hn : N ≤ 1048576) (he : E.length ≤ 67108864) : fn_graph_indexed_ik_graph_New_1 (N : Int) (ai E) = some (ixs N (E.map (·.1))) := by
 have hk : (ai E).map (fun x : Int × Int => x.1) = (E.map (·.1)).map (fun k : Nat => (k : Int)) := by simp [ai]
 have hN : ∀ x ∈ E.map (·.1), x < N := by intro x hx; obtain ⟨e, he, rfl⟩ := List.mem_map.1 hx; exact (h e he).1
 have hw : IntKind.wrap .i64 ((N : Int) + 1) = ((N + 1 : Nat) : Int) := by rw [w64 (by omega) (by omega)]; omega
 have h1 := ix1_eq (key := fun x : Int × Int => x.1) (N := N) hk hN (by simp; omega) (by omega)
 have h2 := ix2_eq (ks := E.map (·.1)) (N := N) (by simp; omega) (by omega)
 have h3 := ix3_eq (key := fun x : Int × Int => x.1) (N := N) hk hN (by simp; omega) (by omega)
 have hl : (ai E).length ≤ 1073741824 := by rw [ai_len]; omega
 unfold fn_graph_indexed_ik_graph_New_1
 have hm1 : (mk ((N + 1 : Nat) : Int) ((N + 1 : Nat) : Int) (0 : Int) : Option (List Int)) = some (List.replicate (N + 1) 0) := mkN (by omega)
 have hm2 : (mk (((ai E).length : Nat) : Int) (((ai E).length : Nat) : Int) (0 : Int) : Option (List Int)) = some (List.replicate (ai E).length 0) := mkN hl
 rw [hw]
 simp only [hm1, hm2, Option.bind_some, agr_self]
 show (loop (ix1 (fun x : Int × Int => x.1) (ai E)) (0, _)).bind _ = _
 rw [h1, Option.bind_some]
 show (loop (ix2 (N : Int)) (0, _)).bind _ = _
 rw [h2, Option.bind_some]
 have hc : ∀ l : List Int, l.length ≤ 1073741824 → fn_slices_Clone_int_int l = some l := fun l hl => clone_eq l hl
 rw [hc _ (by simp; omega), Option.bind_some]
 show (loop (ix3 (fun x : Int × Int => x.1) (ai E)) (_, 0, _)).bind _ = _
 rw [h3]; rfl
theorem indexed2_eq {N : Nat} {E : ArG} (h : inN N E) (hn : N ≤ 1048576) (he : E.length ≤ 67108864) : fn_graph_indexed_ik_graph_New_2 (N : Int) (ai E) = some (ixs N (E.map (·.2))) := by
 have hk : (ai E).map (fun x : Int × Int => x.2) = (E.map (·.2)).map (fun k : Nat => (k : Int)) := by simp [ai]
 have hN : ∀ x ∈ E.map (·.2), x < N := by intro x hx; obtain ⟨e, he, rfl⟩ := List.mem_map.1 hx; exact (h e he).2
 have hw : IntKind.wrap .i64 ((N : Int) + 1) = ((N + 1 : Nat) : Int) := by rw [w64 (by omega) (by omega)]; omega
 have h1 := ix1_eq (key := fun x : Int × Int => x.2) (N := N) hk hN (by simp; omega) (by omega)
 have h2 := ix2_eq (ks := E.map (·.2)) (N := N) (by simp; omega) (by omega)
 have h3 := ix3_eq (key := fun x : Int × Int => x.2) (N := N) hk hN (by simp; omega) (by omega)
 have hl : (ai E).length ≤ 1073741824 := by rw [ai_len]; omega
 unfold fn_graph_indexed_ik_graph_New_2
 have hm1 : (mk ((N + 1 : Nat) : Int) ((N + 1 : Nat) : Int) (0 : Int) : Option (List Int)) = some (List.replicate (N + 1) 0) := mkN (by omega)
 have hm2 : (mk (((ai E).length : Nat) : Int) (((ai E).length : Nat) : Int) (0 : Int) : Option (List Int)) = some (List.replicate (ai E).length 0) := mkN hl
 rw [hw]
 simp only [hm1, hm2, Option.bind_some, agr_self]
 show (loop (ix1 (fun x : Int × Int => x.2) (ai E)) (0, _)).bind _ = _
 rw [h1, Option.bind_some]
 show (loop (ix2 (N : Int)) (0, _)).bind _ = _
 rw [h2, Option.bind_some]
 have hc : ∀ l : List Int, l.length ≤ 1073741824 → fn_slices_Clone_int_int l = some l := fun l hl => clone_eq l hl
 rw [hc _ (by simp; omega), Option.bind_some]
 show (loop (ix3 (fun x : Int × Int => x.2) (ai E)) (_, 0, _)).bind _ = _
 rw [h3]; rfl
def outA (n : Int) (a : Int × Int) : Bool := (((decide (a.1 < 0)) || (decide (n ≤ a.1))) || (decide (a.2 < 0))) || (decide (n ≤ a.2))
theorem newLoop (n : Int) (xb : List (Int × Int)) (hb : xb.length ≤ 1073741824) : loop (fn_graph_New_l1 n xb) 0 = some (if xb.any (outA n) then .inr (none, 7) else .inl ()) := by
 refine loop_some xb (outA n) _ _ (fun k h => ?_) ?_
 · unfold fn_graph_New_l1
   simp only [dlt h, cond_true, getN h, Option.bind_some, w64s h (by omega : xb.length ≤ 9223372036854775807)]
   show cond (outA n xb[k]) _ _ = _
   cases outA n xb[k] <;> rfl
 · simp [fn_graph_New_l1]
theorem arcs_nat {n : Int} {xb : List (Int × Int)} (h0 : 0 ≤ n) (h : xb.any (outA n) = false) : ∃ E : ArG, xb = ai E ∧ inN n.toNat E := by
 refine ⟨xb.map (fun a => (a.1.toNat, a.2.toNat)), ?_, ?_⟩
 · unfold ai
   rw [List.map_map]
   conv => lhs; rw [← List.map_id xb]
   refine List.map_congr_left (fun a ha => ?_)
   have := List.any_eq_false.1 h a ha
   simp [outA] at this
   refine Prod.ext ?_ ?_ <;> simp <;> omega
 · intro e he
   obtain ⟨a, ha, rfl⟩ := List.mem_map.1 he
   have := List.any_eq_false.1 h a ha
   simp [outA] at this
   dsimp only
   omega
theorem New_ok {N : Nat} {E : ArG} (h : inN N E) (hn : N ≤ 1048576) (he : E.length ≤ 67108864) : fn_graph_New (N : Int) (ai E) = some (some (mkG N E), 0) := by
 unfold fn_graph_New
 have h1 : decide ((N : Int) < 0) = false := decide_eq_false (by omega)
 have h2 : (decide ((1048576 : Int) < (N : Int)) || decide ((67108864 : Int) < (((ai E).length : Nat) : Int))) = false := by rw [ai_len]; simp; omega
 have h3 : (ai E).any (outA (N : Int)) = false := by
   rw [List.any_eq_false]
   intro a ha
   obtain ⟨e, he, rfl⟩ := List.mem_map.1 ha
   have := h e he
   simp [outA]; omega
 rw [h1, cond_false, h2, cond_false, newLoop _ _ (by rw [ai_len]; omega), h3]
 simp only [Bool.false_eq_true, if_false, Option.bind_some]
 have hc : fn_slices_Clone_graph_Arc_graph_Arc (ai E) = some (ai E) := clone_eq _ (by rw [ai_len]; omega)
 rw [hc, Option.bind_some, indexed1_eq h hn he, Option.bind_some, indexed2_eq h hn he]
 rfl
theorem New_eq (n : Int) (xb : List (Int × Int)) (he : xb.length ≤ 67108864) : (n < 0 ∧ fn_graph_New n xb = some (none, 2)) ∨ (1048576 < n ∧ fn_graph_New n xb = some (none, 5)) ∨ (0 ≤ n ∧ n ≤ 1048576 ∧ xb.any (outA n) = true ∧ fn_graph_New n xb = some (none, 7)) ∨
   ∃ (N : Nat) (E : ArG), n = (N : Int) ∧ N ≤ 1048576 ∧ xb = ai E ∧ inN N E ∧ xb.any (outA n) = false ∧ fn_graph_New n xb = some (some (mkG N E), 0) := by
 by_cases h0 : n < 0
 · refine .inl ⟨h0, ?_⟩
   unfold fn_graph_New
   rw [show decide (n < 0) = true by simpa using h0]; rfl
 · have h1 : decide (n < 0) = false := by simp; omega
   by_cases h2 : 1048576 < n
   · refine .inr (.inl ⟨h2, ?_⟩)
     unfold fn_graph_New
     rw [h1, show decide ((1048576 : Int) < n) = true by simpa using h2]; rfl
   · cases h3 : xb.any (outA n) with
     | true =>
       refine .inr (.inr (.inl ⟨by omega, by omega, rfl, ?_⟩))
       unfold fn_graph_New
       have h4 : (decide ((1048576 : Int) < n) || decide ((67108864 : Int) < ((xb.length : Nat) : Int))) = false := by simp; omega
       rw [h1, cond_false, h4, cond_false, newLoop _ _ (by omega), h3]; rfl
     | false =>
       obtain ⟨E, rfl, hE⟩ := arcs_nat (by omega) h3
       refine .inr (.inr (.inr ⟨n.toNat, E, by omega, by omega, rfl, hE, rfl, ?_⟩))
       have := New_ok hE (by omega) (by rw [ai_len] at he; omega)
       rw [show ((n.toNat : Nat) : Int) = n by omega] at this
       exact this
theorem occ_bound (ks : List Nat) (v : Nat) : (occ ks v).length ≤ ks.length := by rw [occ_len]; exact cnt_le ks v
theorem index_of_eq {N : Nat} {ks : List Nat} (hn : N ≤ 1048576) (he : ks.length ≤ 67108864) {v : Nat} (hv : v < N) : fn_graph_index_of (ixs N ks) (v : Int) = some ((occ ks v).map (fun i : Nat => (i : Int))) := by
 unfold fn_graph_index_of ixs
 have h1 := ltc_le ks (v + 1)
 have h2 := ltc_mono ks (v := v) (w := v + 1) (by omega)
 simp only [getI_map (show v < N + 1 by omega), Option.bind_some, w64s hv (by omega : N ≤ 9223372036854775807), getI_map (show v + 1 < N + 1 by omega)]
 rw [subL_eq (by omega) (by omega) (by simp; omega)]
 simp only [Int.toNat_natCast, Option.bind_some, av_sub]
theorem Nodes_eq (N : Nat) (E : ArG) : fn_graph_Graph_Nodes (some (mkG N E)) = some (N : Int) := rfl
theorem Nodes_none : fn_graph_Graph_Nodes none = some 0 := rfl
theorem Arcs_eq (N : Nat) (E : ArG) : fn_graph_Graph_Arcs (some (mkG N E)) = some (E.length : Int) := by
 show some ((((ai E).length : Nat) : Int)) = _
 rw [ai_len]
theorem Arcs_none : fn_graph_Graph_Arcs none = some 0 := rfl
theorem isNode_eq (N : Nat) (E : ArG) (v : Int) : fn_graph_Graph_isNode (some (mkG N E)) v = some (decide (0 ≤ v) && decide (v < (N : Int))) := by
 unfold fn_graph_Graph_isNode
 rw [Nodes_eq]
 cases decide (0 ≤ v) <;> simp
theorem isNode_none (v : Int) : fn_graph_Graph_isNode none v = some false := by
 unfold fn_graph_Graph_isNode
 rw [Nodes_none]
 by_cases h : 0 ≤ v
 · have : decide (v < 0) = false := decide_eq_false (by omega)
   simp [h]
 · simp [h]
theorem isNode_of {N : Nat} {E : ArG} {v : Nat} (h : v < N) : fn_graph_Graph_isNode (some (mkG N E)) (v : Int) = some true := by
 rw [isNode_eq]; simp [h]
theorem isNode_not {N : Nat} {E : ArG} {v : Int} (h : v < 0 ∨ (N : Int) ≤ v) : fn_graph_Graph_isNode (some (mkG N E)) v = some false := by
 rw [isNode_eq]; simp; omega
theorem Out_of {N : Nat} {E : ArG} (hn : N ≤ 1048576) (he : E.length ≤ 67108864) {v : Nat} (h : v < N) : fn_graph_Graph_Out (some (mkG N E)) (v : Int) = some ((occ (E.map (·.1)) v).map (fun i : Nat => (i : Int))) := by
 unfold fn_graph_Graph_Out
 rw [isNode_of h]
 have := index_of_eq (ks := E.map (·.1)) hn (by simp; omega) h
 have hb := occ_bound (E.map (·.1)) v
 simp only [Bool.not_true, cond_false, Option.bind_some, mkG]
 rw [this, Option.bind_some]
 have hc : ∀ l : List Int, l.length ≤ 1073741824 → fn_slices_Clone_int_int l = some l := fun l hl => clone_eq l hl
 rw [hc _ (by simp at hb ⊢; omega)]; rfl
theorem Out_not {N : Nat} {E : ArG} {v : Int} (h : v < 0 ∨ (N : Int) ≤ v) : fn_graph_Graph_Out (some (mkG N E)) v = some [] := by
 unfold fn_graph_Graph_Out; rw [isNode_not h]; rfl
theorem Out_none (v : Int) : fn_graph_Graph_Out none v = some [] := by
 unfold fn_graph_Graph_Out; rw [isNode_none]; rfl
def nxt (E : ArG) (v : Nat) : List Nat := (occ (E.map (·.1)) v).map (fun i => (E.getD i (0, 0)).2)
theorem occ_arc {E : ArG} {v i : Nat} (h : i ∈ occ (E.map (·.1)) v) : ∃ h : i < E.length, E[i].1 = v := by
 obtain ⟨h1, h2⟩ := occ_mem.1 h
 exact ⟨by simpa using h1, by simpa using h2⟩
theorem nxt_mem {E : ArG} {v u : Nat} : u ∈ nxt E v ↔ (v, u) ∈ E := by
 unfold nxt
 constructor
 · intro h
   obtain ⟨i, hi, rfl⟩ := List.mem_map.1 h
   obtain ⟨h1, h2⟩ := occ_arc hi
   have : E.getD i (0, 0) = E[i] := by simp [h1]
   rw [this]
   have e : (v, E[i].2) = E[i] := by rw [← h2]
   rw [e]; exact List.getElem_mem h1
 · intro h
   obtain ⟨i, hi, he⟩ := List.getElem_of_mem h
   refine List.mem_map.2 ⟨i, occ_mem.2 ⟨by simpa using hi, by simp [he]⟩, by simp [hi, he]⟩
theorem Next_of {N : Nat} {E : ArG} (hn : N ≤ 1048576) (he : E.length ≤ 67108864) {v : Nat} (h : v < N) : fn_graph_Graph_Next (some (mkG N E)) (v : Int) = some ((nxt E v).map (fun i : Nat => (i : Int))) := by
 unfold fn_graph_Graph_Next
 rw [Out_of hn he h, Option.bind_some]
 have hb := occ_bound (E.map (·.1)) v
 simp at hb
 generalize hO : occ (E.map (·.1)) v = O at hb ⊢
 have hO2 : ∀ i ∈ O, i < E.length := fun i hi => by rw [← hO] at hi; exact (occ_arc hi).1
 have hx : nxt E v = O.map (fun i => (E.getD i (0, 0)).2) := by unfold nxt; rw [hO]
 rw [hx]
 have hl := loop_nat (body := fn_graph_Graph_Next_l1 (some (mkG N E)) (O.map (fun i : Nat => (i : Int)))) (fun k : Nat => ((O.take k).map (fun i => (((E.getD i (0, 0)).2 : Nat) : Int)) ++ (O.drop k).map (fun i : Nat => (i : Int)), (k : Int))) O.length (b := (O.map (fun i => (((E.getD i (0, 0)).2 : Nat) : Int)))) ?_ ?_
 · simp only [List.take_zero, List.map_nil, List.nil_append, List.drop_zero] at hl
   rw [show ((0 : Int)) = ((0 : Nat) : Int) from rfl, hl, List.map_map]; rfl
 · intro k hk
   have hk' : k < (O.map (fun i : Nat => (i : Int))).length := by simpa using hk
   have hi := hO2 _ (List.getElem_mem hk)
   have hlen : ((O.take k).map (fun i => (((E.getD i (0, 0)).2 : Nat) : Int))).length = k := by simp; omega
   have g1 : getI ((O.take k).map (fun i => (((E.getD i (0, 0)).2 : Nat) : Int)) ++ (O.drop k).map (fun i : Nat => (i : Int))) (k : Int) = some ((O[k] : Nat) : Int) := by
     rw [getN (by simp; omega), List.getElem_append_right (by omega)]
     simp only [List.getElem_map, List.getElem_drop, hlen, Nat.sub_self, Nat.add_zero]
   have g2 : getI (ai E) ((O[k] : Nat) : Int) = some (((E[O[k]].1 : Nat) : Int), ((E[O[k]].2 : Nat) : Int)) := by
     rw [getN (by rw [ai_len]; exact hi)]; simp [ai]
   unfold fn_graph_Graph_Next_l1
   simp only [dlt hk', cond_true, g1, Option.bind_some, mkG, g2, Int.toNat_natCast, w64s hk' (by simp; omega)]
   congr 3
   rw [take_snoc hk, List.map_append, List.drop_eq_getElem_cons hk, List.map_cons, List.set_append_right _ _ (by omega), hlen, Nat.sub_self, List.set_cons_zero, List.append_assoc]
   simp [hi]
 · simp [fn_graph_Graph_Next_l1]
theorem Next_not {N : Nat} {E : ArG} {v : Int} (h : v < 0 ∨ (N : Int) ≤ v) : fn_graph_Graph_Next (some (mkG N E)) v = some [] := by
 unfold fn_graph_Graph_Next; rw [Out_not h, Option.bind_some]
 rw [loop_end (b := ([] : List Int)) (by simp [fn_graph_Graph_Next_l1])]; rfl
theorem Next_none (v : Int) : fn_graph_Graph_Next none v = some [] := by
 unfold fn_graph_Graph_Next; rw [Out_none, Option.bind_some]
 rw [loop_end (b := ([] : List Int)) (by simp [fn_graph_Graph_Next_l1])]; rfl
def tn (E : ArG) : ArG := E.map (fun e => (e.2, e.1))
theorem tn_in {N : Nat} {E : ArG} (h : inN N E) : inN N (tn E) := by
 intro e he
 obtain ⟨a, ha, rfl⟩ := List.mem_map.1 he
 exact ⟨(h a ha).2, (h a ha).1⟩
theorem tn_tn (E : ArG) : tn (tn E) = E := by
 unfold tn; rw [List.map_map]
 exact (List.map_congr_left (fun e _ => rfl)).trans (List.map_id E)
theorem tn_len (E : ArG) : (tn E).length = E.length := by simp [tn]
theorem tn_mem {E : ArG} {a b : Nat} : (a, b) ∈ tn E ↔ (b, a) ∈ E := by
 unfold tn
 constructor
 · intro h; obtain ⟨e, he, h2⟩ := List.mem_map.1 h; cases h2; exact he
 · intro h; exact List.mem_map.2 ⟨_, h, rfl⟩
inductive Rch (E : ArG) : Nat → Nat → Prop
 | refl (v : Nat) : Rch E v v
 | step {v w u : Nat} (h : Rch E v w) (e : (w, u) ∈ E) : Rch E v u
theorem Rch.trans {E : ArG} {a b c : Nat} (h : Rch E a b) (k : Rch E b c) : Rch E a c := by
 induction k with
 | refl => exact h
 | step _ e ih => exact ih.step e
theorem Rch.head {E : ArG} {a b c : Nat} (e : (a, b) ∈ E) (k : Rch E b c) : Rch E a c := Rch.trans ((Rch.refl a).step e) k
theorem Rch.mono {E F : ArG} (hf : ∀ e ∈ E, e ∈ F) {a b : Nat} (h : Rch E a b) : Rch F a b := by
 induction h with
 | refl => exact .refl _
 | step _ e ih => exact ih.step (hf _ e)
theorem Rch.lt {N : Nat} {E : ArG} (hE : inN N E) {a b : Nat} (h : Rch E a b) (ha : a < N) : b < N := by
 cases h with
 | refl => exact ha
 | step _ e => exact (hE _ e).2
theorem Rch.closed {E : ArG} {p : Nat → Prop} {a : Nat} (ha : p a) (hc : ∀ w u, (w, u) ∈ E → p w → p u) {b : Nat} (h : Rch E a b) : p b := by
 induction h with
 | refl => exact ha
 | step _ e ih => exact hc _ _ e ih
theorem nodup_le {A : List Nat} : ∀ {L : List Nat}, L.Nodup → (∀ x ∈ L, x ∈ A) → L.length ≤ A.length := by
 intro L
 induction L generalizing A with
 | nil => intro _ _; simp
 | cons x L ih =>
   intro hd hs
   have hx := hs x (by simp)
   rw [List.nodup_cons] at hd
   have := ih (A := A.erase x) hd.2 (fun y hy => by
     have hne : y ≠ x := fun e => hd.1 (e ▸ hy)
     exact (List.mem_erase_of_ne hne).2 (hs y (by simp [hy])))
   rw [List.length_erase_of_mem hx] at this
   have : 0 < A.length := List.length_pos_of_mem hx
   simp; omega
theorem nodup_lt {L : List Nat} {N : Nat} (hd : L.Nodup) (h : ∀ x ∈ L, x < N) : L.length ≤ N := by
 have := nodup_le (A := List.range N) hd (fun x hx => List.mem_range.2 (h x hx))
 simpa using this
def addN (L : List Nat) (u : Nat) : List Nat := if u ∈ L then L else L ++ [u]
theorem addN_mem {L : List Nat} {u x : Nat} : x ∈ addN L u ↔ x ∈ L ∨ x = u := by
 unfold addN; split
 · rename_i h; constructor
   · exact .inl
   · rintro (q | rfl) <;> assumption
 · simp
theorem addN_nodup {L : List Nat} {u : Nat} (h : L.Nodup) : (addN L u).Nodup := by
 unfold addN; split
 · exact h
 · rename_i hu; rw [List.nodup_append]; refine ⟨h, by simp, ?_⟩
   intro a ha b hb; simp at hb; subst hb; intro e; subst e; exact hu ha
def addAll (L us : List Nat) : List Nat := us.foldl addN L
theorem addAll_snoc (L us : List Nat) (u : Nat) : addAll L (us ++ [u]) = addN (addAll L us) u := by simp [addAll, List.foldl_append]
theorem addAll_mem {us : List Nat} : ∀ {L : List Nat} {x : Nat}, x ∈ addAll L us ↔ x ∈ L ∨ x ∈ us := by
 induction us with
 | nil => intro L x; simp [addAll]
 | cons u us ih => intro L x; unfold addAll at ih ⊢; rw [List.foldl_cons, ih, addN_mem, List.mem_cons, or_assoc]
theorem addAll_nodup {us : List Nat} : ∀ {L : List Nat}, L.Nodup → (addAll L us).Nodup := by
 induction us with
 | nil => intro L h; exact h
 | cons u us ih => intro L h; unfold addAll at ih ⊢; rw [List.foldl_cons]; exact ih (addN_nodup h)
theorem addN_get {L : List Nat} {u j : Nat} (h : j < L.length) : (addN L u)[j]? = L[j]? := by
 unfold addN; split
 · rfl
 · rw [List.getElem?_append_left h]
theorem addN_len (L : List Nat) (u : Nat) : L.length ≤ (addN L u).length := by unfold addN; split <;> simp
theorem addAll_get {us : List Nat} : ∀ {L : List Nat} {j : Nat}, j < L.length → (addAll L us)[j]? = L[j]? ∧ L.length ≤ (addAll L us).length := by
 induction us with
 | nil => intro L j h; exact ⟨rfl, Nat.le_refl _⟩
 | cons u us ih =>
   intro L j h
   unfold addAll at ih ⊢
   rw [List.foldl_cons]
   have h1 := addN_len L u
   obtain ⟨a, b⟩ := ih (L := addN L u) (j := j) (by omega)
   exact ⟨a.trans (addN_get h), by omega⟩
def metL (N : Nat) (L : List Nat) : List Bool := (List.range N).map (fun w => decide (w ∈ L))
def li (L : List Nat) : List Int := L.map (fun i : Nat => (i : Int))
theorem li_len (L : List Nat) : (li L).length = L.length := by simp [li]
theorem getI_li {L : List Nat} {k : Nat} (h : k < L.length) : getI (li L) (k : Int) = some ((L[k] : Nat) : Int) := by rw [getN (by rw [li_len]; exact h)]; simp [li]
theorem getI_ai {E : ArG} {k : Nat} (h : k < E.length) : getI (ai E) (k : Int) = some (((E[k].1 : Nat) : Int), ((E[k].2 : Nat) : Int)) := by rw [getN (by rw [ai_len]; exact h)]; simp [ai]
open Classical in
noncomputable def rl (N : Nat) (E : ArG) (v : Nat) : List Nat := (List.range N).filter (fun w => decide (Rch E v w))
theorem rl_mem {N : Nat} {E : ArG} (hE : inN N E) {v w : Nat} (hv : v < N) : w ∈ rl N E v ↔ Rch E v w := by
 unfold rl
 simp only [List.mem_filter, List.mem_range, decide_eq_true_eq]
 exact ⟨fun h => h.2, fun h => ⟨h.lt hE hv, h⟩⟩
theorem range_strict (N : Nat) (p : Nat → Bool) : (li ((List.range N).filter p)).Pairwise (· < ·) := by
 unfold li
 rw [List.pairwise_map]
 refine List.Pairwise.imp (R := fun a b : Nat => a < b) (fun h => by omega) ?_
 exact List.pairwise_lt_range.filter p
theorem srt_set {L : List Nat} (hd : L.Nodup) {M : List Nat} (hM : (li M).Pairwise (· < ·)) (h : ∀ w, w ∈ L ↔ w ∈ M) (hl : L.length ≤ 1073741824) : srt (li L) = some (li M) := by
 unfold srt
 rw [if_pos (by rw [li_len]; exact hl)]
 congr 1
 refine strict_eq ?_ hM (fun a => ?_)
 · have hs := List.pairwise_mergeSort (le := fun x y : Int => decide (x ≤ y)) (fun a b c h1 h2 => by simp at *; omega) (fun a b => by simp; omega) (li L)
   have hnd : ((li L).mergeSort fun x y => decide (x ≤ y)).Nodup := by
     refine (List.mergeSort_perm _ _).nodup_iff.2 ?_
     unfold li
     exact List.Pairwise.map _ (fun a b h1 h2 => h1 (by omega)) hd
   exact (List.Pairwise.and hs hnd).imp (fun ⟨h1, h2⟩ => by simp at h1; omega)
 · rw [List.mem_mergeSort]
   unfold li
   simp only [List.mem_map]
   exact ⟨fun ⟨x, hx, e⟩ => ⟨x, (h x).1 hx, e⟩, fun ⟨x, hx, e⟩ => ⟨x, (h x).2 hx, e⟩⟩
end
set_option linter.unnecessarySimpa false
set_option linter.unusedSimpArgs false
section
def up {α : Type} (f : Nat → α) (v : Nat) (x : α) : Nat → α := fun u => if u = v then x else f u
theorem up_eq {α : Type} {f : Nat → α} {v : Nat} {x : α} : up f v x v = x := if_pos rfl
theorem up_ne {α : Type} {f : Nat → α} {v u : Nat} {x : α} (h : u ≠ v) : up f v x u = f u := if_neg h
theorem up_self {α : Type} {f : Nat → α} {v : Nat} {x : α} (h : f v = x) : up f v x = f := by
 funext u; unfold up; split
 · rename_i e; rw [e, h]
 · rfl
theorem countP_up {N w : Nat} {p q : Nat → Bool} (hw : w < N) (hp : p w = false) (hq : ∀ v, q v = (p v || decide (v = w))) : (List.range N).countP q = (List.range N).countP p + 1 := by
 induction N with
 | zero => omega
 | succ n ih =>
   rw [List.range_succ, List.countP_append, List.countP_append]
   simp only [List.countP_cons, List.countP_nil, Nat.zero_add]
   by_cases h : w = n
   · subst h
     have : (List.range w).countP q = (List.range w).countP p := List.countP_congr fun x hx => by
       rw [hq, decide_eq_false (show ¬ x = w by have := List.mem_range.1 hx; omega), Bool.or_false]
     rw [this, hq, hp]; simp
   · rw [ih (by omega), hq n, decide_eq_false (fun e => h e.symm), Bool.or_false]; omega
structure Tj (N : Nat) (E : ArG) (A M L : Nat → Nat) (S : Nat → Bool) (m : Nat) (W O : List Nat) (F : List (List Nat)) : Prop where
 lt : ∀ v, M v ≠ 0 → v < N
 le : ∀ v, M v ≤ m
 inj : ∀ v w, M v ≠ 0 → M v = M w → v = w
 op : ∀ v, v ∈ O ↔ M v ≠ 0 ∧ S v = false
 sm : ∀ v, S v = true → M v ≠ 0
 os : O.Pairwise (fun a b => M a < M b)
 wo : ∀ v ∈ W, v ∈ O
 ws : W.Pairwise (fun a b => M a < M b)
 al : ∀ v, A v ≤ (nxt E v).length
 a0 : ∀ v, M v = 0 → A v = 0
 dn : ∀ v, M v ≠ 0 → v ∉ W → A v = (nxt E v).length
 ar : ∀ v, ∀ z ∈ (nxt E v).take (A v), M z ≠ 0
 cl : ∀ v w, S v = true → (v, w) ∈ E → S w = true
 ll : ∀ v ∈ O, L v ≤ M v
 lr : ∀ v ∈ O, ∃ z ∈ O, M z = L v ∧ Rch E v z
 ld : ∀ v ∈ O, v ∉ W → L v < M v
 wr : ∀ y ∈ O, ∀ w ∈ W, M w ≤ M y → Rch E w y
 lo : ∀ y ∈ O, ∀ z ∈ (nxt E y).take (A y), S z = false → ∀ w ∈ W, M w ≤ M y → (∀ x ∈ W, M x ≤ M y → M x ≤ M w) → L w ≤ M z
 f1 : F.flatten.Nodup
 f2 : ∀ v, v ∈ F.flatten ↔ S v = true
 f3 : ∀ C ∈ F, C ≠ [] ∧ C.Pairwise (· < ·) ∧ ∀ a ∈ C, ∀ b, b ∈ C ↔ Rch E a b ∧ Rch E b a
 mc : (List.range N).countP (fun v => decide (M v ≠ 0)) = m
section
variable {N : Nat} {E : ArG} {A M L : Nat → Nat} {S : Nat → Bool} {m : Nat} {W O : List Nat} {F : List (List Nat)}
theorem Tj.start (N : Nat) (E : ArG) : Tj N E (fun _ => 0) (fun _ => 0) (fun _ => 0) (fun _ => false) 0 [] [] [] where
 lt := fun v h => absurd rfl h
 le := fun _ => Nat.le_refl _
 inj := fun v w h => absurd rfl h
 op := fun v => by simp
 sm := fun v h => by cases h
 os := .nil
 wo := fun v h => by cases h
 ws := .nil
 al := fun _ => Nat.zero_le _
 a0 := fun _ _ => rfl
 dn := fun v h => absurd rfl h
 ar := fun v z h => by simp at h
 cl := fun v w h => by cases h
 ll := fun v h => by cases h
 lr := fun v h => by cases h
 ld := fun v h => by cases h
 wr := fun v h => by cases h
 lo := fun v h => by cases h
 f1 := by simp
 f2 := fun v => by simp
 f3 := fun C h => by cases h
 mc := by simp
theorem Tj.mN (h : Tj N E A M L S m W O F) : m ≤ N := by
 rw [← h.mc]; have := List.countP_le_length (l := List.range N) (p := fun v => decide (M v ≠ 0)); simpa using this
theorem Tj.oN (h : Tj N E A M L S m W O F) : O.length ≤ N := nodup_lt (h.os.imp (fun h e => by rw [e] at h; omega)) (fun x hx => h.lt x ((h.op x).1 hx).1)
theorem Tj.wN (h : Tj N E A M L S m W O F) : W.length ≤ N := nodup_lt (h.ws.imp (fun h e => by rw [e] at h; omega)) (fun x hx => h.lt x ((h.op x).1 (h.wo x hx)).1)
theorem Tj.room (h : Tj N E A M L S m W O F) {w : Nat} (hw : w < N) (h0 : M w = 0) : m + 1 ≤ N := by
 have h1 : (List.range N).countP (fun v => decide (M v ≠ 0) || decide (v = w)) = (List.range N).countP (fun v => decide (M v ≠ 0)) + 1 := countP_up hw (by simp [h0]) (fun _ => rfl)
 rw [h.mc] at h1
 have := List.countP_le_length (l := List.range N) (p := fun v => decide (M v ≠ 0) || decide (v = w))
 rw [h1, List.length_range] at this; exact this
theorem Tj.meet (h : Tj N E A M L S m W O F) {w : Nat} {A' : Nat → Nat} (hw : w < N) (h0 : M w = 0) (hr : ∀ x ∈ W, Rch E x w) (hA : ∀ v, A' v ≤ (nxt E v).length) (hA0 : ∀ v, M v = 0 → A' v = 0) (hAd : ∀ v, M v ≠ 0 → v ∉ W → A' v = (nxt E v).length)
   (hAr : ∀ v, ∀ z ∈ (nxt E v).take (A' v), z ∈ (nxt E v).take (A v) ∨ z = w) : Tj N E A' (up M w (m + 1)) (up L w (m + 1)) S (m + 1) (W ++ [w]) (O ++ [w]) F := by
 have hwO : w ∉ O := fun hm => ((h.op w).1 hm).1 h0
 have hwW : w ∉ W := fun hm => hwO (h.wo w hm)
 have hS : S w = false := by cases hs : S w with
   | false => rfl
   | true => exact absurd h0 (h.sm w hs)
 have mo : ∀ x ∈ O, up M w (m + 1) x = M x := fun x hx => up_ne (fun e => hwO (e ▸ hx))
 have lo' : ∀ x ∈ O, up L w (m + 1) x = L x := fun x hx => up_ne (fun e => hwO (e ▸ hx))
 have mw : ∀ x, up M w (m + 1) x = if x = w then m + 1 else M x := fun _ => rfl
 refine ⟨?_, ?_, ?_, ?_, ?_, ?_, ?_, ?_, hA, ?_, ?_, ?_, h.cl, ?_, ?_, ?_, ?_, ?_, h.f1, h.f2, h.f3, ?_⟩
 · intro v hv
   rw [mw] at hv; split at hv
   · rename_i e; rw [e]; exact hw
   · exact h.lt v hv
 · intro v; rw [mw]; split
   · exact Nat.le_refl _
   · exact Nat.le_succ_of_le (h.le v)
 · intro v u hv e
   rw [mw] at hv e; rw [mw] at e
   have a := h.le v; have b := h.le u
   by_cases hvw : v = w
   · by_cases huw : u = w
     · rw [hvw, huw]
     · rw [if_pos hvw, if_neg huw] at e; omega
   · rw [if_neg hvw] at hv e
     by_cases huw : u = w
     · rw [if_pos huw] at e; omega
     · rw [if_neg huw] at e; exact h.inj v u hv e
 · intro v
   rw [List.mem_append, List.mem_singleton, mw, h.op v]
   by_cases hvw : v = w
   · subst hvw; simp [hS]
   · simp [hvw]
 · intro v hv; rw [mw]; split
   · omega
   · exact h.sm v hv
 · rw [List.pairwise_append]
   refine ⟨h.os.imp_of_mem (fun {a b} ha hb hab => by rw [mo a ha, mo b hb]; exact hab), by simp, fun a ha b hb => ?_⟩
   rw [List.mem_singleton] at hb
   rw [mo a ha, hb, up_eq]; exact Nat.lt_succ_of_le (h.le a)
 · intro v hv
   rw [List.mem_append] at hv ⊢
   exact hv.imp (h.wo v) id
 · rw [List.pairwise_append]
   refine ⟨h.ws.imp_of_mem (fun {a b} ha hb hab => by rw [mo a (h.wo a ha), mo b (h.wo b hb)]; exact hab), by simp, fun a ha b hb => ?_⟩
   rw [List.mem_singleton] at hb
   rw [mo a (h.wo a ha), hb, up_eq]; exact Nat.lt_succ_of_le (h.le a)
 · intro v hv
   rw [mw] at hv; split at hv
   · omega
   · exact hA0 v hv
 · intro v hv hvW
   rw [List.mem_append, List.mem_singleton] at hvW
   rw [mw, if_neg (fun e => hvW (.inr e))] at hv
   exact hAd v hv (fun e => hvW (.inl e))
 · intro v z hz
   rw [mw]; split
   · omega
   · rename_i e
     rcases hAr v z hz with k | k
     · exact h.ar v z k
     · exact absurd k e
 · intro v hv
   rw [List.mem_append, List.mem_singleton] at hv
   rcases hv with hv | rfl
   · rw [mo v hv, lo' v hv]; exact h.ll v hv
   · rw [up_eq, up_eq]; exact Nat.le_refl _
 · intro v hv
   rw [List.mem_append, List.mem_singleton] at hv
   rcases hv with hv | rfl
   · obtain ⟨z, hz, e, hr⟩ := h.lr v hv
     exact ⟨z, List.mem_append_left _ hz, by rw [mo z hz, lo' v hv]; exact e, hr⟩
   · exact ⟨v, by simp, by rw [up_eq, up_eq], .refl _⟩
 · intro v hv hvW
   rw [List.mem_append, List.mem_singleton] at hv hvW
   rcases hv with hv | rfl
   · rw [mo v hv, lo' v hv]; exact h.ld v hv (fun e => hvW (.inl e))
   · exact absurd (.inr rfl) hvW
 · intro y hy x hx hle
   rw [List.mem_append, List.mem_singleton] at hy hx
   rcases hy with hy | rfl
   · rcases hx with hx | rfl
     · rw [mo y hy, mo x (h.wo x hx)] at hle; exact h.wr y hy x hx hle
     · rw [mo y hy, up_eq] at hle; have := h.le y; omega
   · rcases hx with hx | rfl
     · exact hr x hx
     · exact .refl _
 · intro y hy z hz hSz x hx hle how
   rw [List.mem_append, List.mem_singleton] at hy hx
   rcases hy with hy | rfl
   · rcases hx with hx | rfl
     · have hxO := h.wo x hx
       rw [mo y hy, mo x hxO] at hle
       rw [lo' x hxO]
       rcases hAr y z hz with k | rfl
       · have hzO : z ∈ O := (h.op z).2 ⟨h.ar y z k, hSz⟩
         rw [mo z hzO]
         exact h.lo y hy z k hSz x hx hle (fun x' hx' hl' => by
           have := how x' (List.mem_append_left _ hx') (by rw [mo y hy, mo x' (h.wo x' hx')]; exact hl')
           rwa [mo x hxO, mo x' (h.wo x' hx')] at this)
       · rw [up_eq]
         have := h.ll x hxO; have := h.le x; omega
     · rw [mo y hy, up_eq] at hle; have := h.le y; omega
   · rw [hA0 y h0] at hz; simp at hz
 · have h1 : (List.range N).countP (fun v => decide (up M w (m + 1) v ≠ 0)) = (List.range N).countP (fun v => decide (M v ≠ 0)) + 1 := countP_up hw (by simp [h0]) (fun v => by
     rw [mw]; by_cases e : v = w <;> simp [e])
   rw [h1, h.mc]
theorem take_at {l : List Nat} {k z : Nat} (hk : k < l.length) (hz : l[k] = z) : l.take (k + 1) = l.take k ++ [z] := by rw [take_snoc hk, hz]
theorem Tj.tree (h : Tj N E A M L S m W O F) (hE : inN N E) {W0 : List Nat} {u w : Nat} (hW : W = W0 ++ [u]) (hk : A u < (nxt E u).length) (hz : (nxt E u)[A u] = w) (h0 : M w = 0) : Tj N E (up A u (A u + 1)) (up M w (m + 1)) (up L w (m + 1)) S (m + 1) (W ++ [w]) (O ++ [w]) F := by
 have hu : u ∈ W := by rw [hW]; simp
 have hus := (h.op u).1 (h.wo u hu)
 have he : (u, w) ∈ E := nxt_mem.1 (hz ▸ List.getElem_mem hk)
 have hau : ∀ v, up A u (A u + 1) v = if v = u then A u + 1 else A v := fun _ => rfl
 refine h.meet (hE _ he).2 h0 (fun x hx => ?_) (fun v => ?_) (fun v hv => ?_) (fun v hv hvW => ?_) (fun v z hz' => ?_)
 · have : M x ≤ M u := by
     rw [hW, List.mem_append, List.mem_singleton] at hx
     rcases hx with hx | rfl
     · have := h.ws; rw [hW, List.pairwise_append] at this
       exact Nat.le_of_lt (this.2.2 x hx u (by simp))
     · exact Nat.le_refl _
   exact (h.wr u (h.wo u hu) x hx this).step he
 · rw [hau]; split
   · rename_i e; rw [e]; omega
   · exact h.al v
 · rw [hau, if_neg (fun e : v = u => hus.1 (e ▸ hv))]; exact h.a0 v hv
 · rw [hau, if_neg (fun e : v = u => hvW (e ▸ hu))]; exact h.dn v hv hvW
 · rw [hau] at hz'; split at hz'
   · rename_i e; subst e
     rw [take_at hk hz, List.mem_append, List.mem_singleton] at hz'; exact hz'
   · exact .inl hz'
theorem Tj.root (h : Tj N E A M L S m [] O F) {w : Nat} (hw : w < N) (h0 : M w = 0) : Tj N E A (up M w (m + 1)) (up L w (m + 1)) S (m + 1) [w] (O ++ [w]) F :=
 h.meet hw h0 (fun x hx => by cases hx) h.al h.a0 h.dn (fun v z hz => .inl hz)
theorem Tj.look (h : Tj N E A M L S m W O F) {W0 : List Nat} {u z : Nat} (hW : W = W0 ++ [u]) (hk : A u < (nxt E u).length) (hz : (nxt E u)[A u] = z) (hm : M z ≠ 0) : Tj N E (up A u (A u + 1)) M (if S z then L else up L u (min (L u) (M z))) S m W O F := by
 have hu : u ∈ W := by rw [hW]; simp
 have huO := h.wo u hu
 have hus := (h.op u).1 huO
 have he : (u, z) ∈ E := nxt_mem.1 (hz ▸ List.getElem_mem hk)
 have hau : ∀ v, up A u (A u + 1) v = if v = u then A u + 1 else A v := fun _ => rfl
 have hlu : ∀ v, (if S z then L else up L u (min (L u) (M z))) v = if v = u ∧ S z = false then min (L u) (M z) else L v := fun v => by
   cases hs : S z <;> simp [up]
 have hll : ∀ v, (if S z then L else up L u (min (L u) (M z))) v ≤ L v := fun v => by
   rw [hlu]; split
   · rename_i e; rw [e.1]; exact Nat.min_le_left _ _
   · exact Nat.le_refl _
 generalize (if S z then L else up L u (min (L u) (M z))) = L' at *
 refine ⟨h.lt, h.le, h.inj, h.op, h.sm, h.os, h.wo, h.ws, ?_, ?_, ?_, ?_, h.cl, ?_, ?_, ?_, h.wr, ?_, h.f1, h.f2, h.f3, h.mc⟩
 · intro v; rw [hau]; split
   · rename_i e; rw [e]; omega
   · exact h.al v
 · intro v hv; rw [hau, if_neg (fun e : v = u => hus.1 (e ▸ hv))]; exact h.a0 v hv
 · intro v hv hvW; rw [hau, if_neg (fun e : v = u => hvW (e ▸ hu))]; exact h.dn v hv hvW
 · intro v y hy; rw [hau] at hy; split at hy
   · rename_i e; subst e
     rw [take_at hk hz, List.mem_append, List.mem_singleton] at hy
     rcases hy with hy | rfl
     · exact h.ar v y hy
     · exact hm
   · exact h.ar v y hy
 · exact fun v hv => Nat.le_trans (hll v) (h.ll v hv)
 · intro v hv
   rw [hlu]; split
   · rename_i e; obtain ⟨rfl, hs⟩ := e
     rcases Nat.le_total (L v) (M z) with k | k
     · rw [Nat.min_eq_left k]; exact h.lr v hv
     · rw [Nat.min_eq_right k]; exact ⟨z, (h.op z).2 ⟨hm, hs⟩, rfl, (Rch.refl v).step he⟩
   · exact h.lr v hv
 · exact fun v hv hvW => Nat.lt_of_le_of_lt (hll v) (h.ld v hv hvW)
 · intro y hy z' hz' hS x hx hle how
   rw [hau] at hz'; split at hz'
   · rename_i e; subst e
     rw [take_at hk hz, List.mem_append, List.mem_singleton] at hz'
     rcases hz' with hz' | rfl
     · exact Nat.le_trans (hll x) (h.lo y hy z' hz' hS x hx hle how)
     · have := how y hu (Nat.le_refl _)
       obtain rfl := h.inj y x hus.1 (by omega)
       rw [hlu, if_pos ⟨rfl, hS⟩]; exact Nat.min_le_right _ _
   · exact Nat.le_trans (hll x) (h.lo y hy z' hz' hS x hx hle how)
theorem Tj.back (h : Tj N E A M L S m W O F) : ∀ (k : Nat) {y : Nat}, M y ≤ k → y ∈ O → ∃ w ∈ W, M w ≤ M y ∧ Rch E y w
 | 0, y, hk, hy => absurd (Nat.le_zero.1 hk) ((h.op y).1 hy).1
 | k + 1, y, hk, hy => by
   by_cases hw : y ∈ W
   · exact ⟨y, hw, Nat.le_refl _, .refl _⟩
   · have h1 := h.ld y hy hw
     obtain ⟨z, hz, e, hr⟩ := h.lr y hy
     obtain ⟨w, hwW, h2, h3⟩ := h.back k (y := z) (by omega) hz
     exact ⟨w, hwW, by omega, hr.trans h3⟩
theorem Tj.over (h : Tj N E A M L S m [] O F) : O = [] := by
 cases O with
 | nil => rfl
 | cons y O => obtain ⟨w, hw, _⟩ := h.back _ (y := y) (Nat.le_refl _) (by simp); cases hw
theorem Tj.take (h : Tj N E A M L S m W O F) {W0 C : List Nat} {v : Nat} (hW : W = W0 ++ [v]) (ha : A v = (nxt E v).length) (hl : L v = M v) (hC : C.Pairwise (· < ·)) (hCm : ∀ x, x ∈ C ↔ x ∈ O ∧ M v ≤ M x) :
   Tj N E A M L (fun x => S x || decide (x ∈ C)) m W0 (O.filter fun x => decide (M x < M v)) (F ++ [C]) := by
 have hv : v ∈ W := by rw [hW]; simp
 have hvO := h.wo v hv
 have hw0 : ∀ x ∈ W0, x ∈ W ∧ M x < M v := fun x hx => ⟨by rw [hW]; simp [hx], by
   have := h.ws; rw [hW, List.pairwise_append] at this; exact this.2.2 x hx v (by simp)⟩
 have htop : ∀ x ∈ W, M x ≤ M v := fun x hx => by
   rw [hW, List.mem_append, List.mem_singleton] at hx
   rcases hx with hx | rfl
   · exact Nat.le_of_lt (hw0 x hx).2
   · exact Nat.le_refl _
 have hcl : ∀ y z, y ∈ C → (y, z) ∈ E → S z = true ∨ z ∈ C := fun y z hy he => by
   obtain ⟨hyO, hle⟩ := (hCm y).1 hy
   have hAy : A y = (nxt E y).length := by
     by_cases hyW : y ∈ W
     · obtain rfl := h.inj y v ((h.op y).1 hyO).1 (Nat.le_antisymm (htop y hyW) hle); exact ha
     · exact h.dn y ((h.op y).1 hyO).1 hyW
   have hz : z ∈ (nxt E y).take (A y) := by rw [hAy, List.take_length]; exact nxt_mem.2 he
   cases hs : S z with
   | true => exact .inl rfl
   | false =>
     have := h.lo y hyO z hz hs v hv hle (fun x hx _ => htop x hx)
     exact .inr ((hCm z).2 ⟨(h.op z).2 ⟨h.ar y z hz, hs⟩, by omega⟩)
 have hcl2 : ∀ a b, (S a = true ∨ a ∈ C) → (a, b) ∈ E → S b = true ∨ b ∈ C := fun a b hab he => hab.elim (fun k => .inl (h.cl a b k he)) (fun k => hcl a b k he)
 have hvC : v ∈ C := (hCm v).2 ⟨hvO, Nat.le_refl _⟩
 have hback : ∀ y ∈ C, Rch E y v := fun y hy => by
   obtain ⟨hyO, hle⟩ := (hCm y).1 hy
   obtain ⟨w, hwW, h1, h2⟩ := h.back _ (y := y) (Nat.le_refl _) hyO
   have := Rch.closed (p := fun x => S x = true ∨ x ∈ C) (.inr hy) (fun a b he k => hcl2 a b k he) h2
   have hwS := ((h.op w).1 (h.wo w hwW)).2
   rcases this with k | k
   · rw [hwS] at k; cases k
   · obtain rfl := h.inj w v ((h.op w).1 (h.wo w hwW)).1 (Nat.le_antisymm (htop w hwW) ((hCm w).1 k).2); exact h2
 have hfor : ∀ y ∈ C, Rch E v y := fun y hy => h.wr y ((hCm y).1 hy).1 v hv ((hCm y).1 hy).2
 have hCS : ∀ y ∈ C, S y = false := fun y hy => ((h.op y).1 ((hCm y).1 hy).1).2
 have hSS : ∀ x, (S x || decide (x ∈ C)) = true ↔ S x = true ∨ x ∈ C := fun x => by rw [Bool.or_eq_true, decide_eq_true_eq]
 have hSf : ∀ x, (S x || decide (x ∈ C)) = false ↔ S x = false ∧ x ∉ C := fun x => by rw [Bool.or_eq_false_iff, decide_eq_false_iff_not]
 have hof : ∀ x, x ∈ O.filter (fun x => decide (M x < M v)) ↔ x ∈ O ∧ M x < M v := fun x => by rw [List.mem_filter, decide_eq_true_eq]
 refine ⟨h.lt, h.le, h.inj, ?_, ?_, h.os.filter _, ?_, ?_, h.al, h.a0, ?_, h.ar, ?_, ?_, ?_, ?_, ?_, ?_, ?_, ?_, ?_, h.mc⟩
 · intro x; rw [hof, hSf, h.op]
   constructor
   · rintro ⟨⟨h1, h2⟩, h3⟩
     exact ⟨h1, h2, fun k => by have := ((hCm x).1 k).2; omega⟩
   · rintro ⟨h1, h2, h3⟩
     refine ⟨⟨h1, h2⟩, ?_⟩
     rcases Nat.lt_or_ge (M x) (M v) with k | k
     · exact k
     · exact absurd ((hCm x).2 ⟨(h.op x).2 ⟨h1, h2⟩, k⟩) h3
 · intro x hx
   rcases (hSS x).1 hx with k | k
   · exact h.sm x k
   · exact ((h.op x).1 ((hCm x).1 k).1).1
 · intro x hx; exact (hof x).2 ⟨h.wo x (hw0 x hx).1, (hw0 x hx).2⟩
 · have := h.ws; rw [hW, List.pairwise_append] at this; exact this.1
 · intro x hx hxW
   by_cases e : x = v
   · rw [e]; exact ha
   · exact h.dn x hx (by rw [hW, List.mem_append, List.mem_singleton]; rintro (k | k); exact hxW k; exact e k)
 · intro a b ha he
   exact (hSS b).2 (hcl2 a b ((hSS a).1 ha) he)
 · intro x hx; exact h.ll x ((hof x).1 hx).1
 · intro x hx
   obtain ⟨hxO, hlt⟩ := (hof x).1 hx
   obtain ⟨z, hz, e, hr⟩ := h.lr x hxO
   have := h.ll x hxO
   exact ⟨z, (hof z).2 ⟨hz, by omega⟩, e, hr⟩
 · intro x hx hxW
   obtain ⟨hxO, hlt⟩ := (hof x).1 hx
   exact h.ld x hxO (by rw [hW, List.mem_append, List.mem_singleton]; rintro (k | rfl); exact hxW k; omega)
 · intro y hy x hx hle; exact h.wr y ((hof y).1 hy).1 x (hw0 x hx).1 hle
 · intro y hy z hz hS x hx hle how
   obtain ⟨hyO, hlt⟩ := (hof y).1 hy
   exact h.lo y hyO z hz ((hSf z).1 hS).1 x (hw0 x hx).1 hle (fun x' hx' hl' => how x' (by
     rw [hW, List.mem_append, List.mem_singleton] at hx'
     rcases hx' with hx' | rfl
     · exact hx'
     · omega) hl')
 · rw [List.flatten_append, List.nodup_append]
   refine ⟨h.f1, ?_, fun a ha b hb => ?_⟩
   · simp only [List.flatten_cons, List.flatten_nil, List.append_nil]
     exact hC.imp (fun h e => by rw [e] at h; omega)
   · rintro rfl
     simp only [List.flatten_cons, List.flatten_nil, List.append_nil] at hb
     have := (h.f2 a).1 ha; rw [hCS a hb] at this; cases this
 · intro x
   rw [List.flatten_append, List.mem_append, h.f2, hSS]; simp
 · intro D hD
   rw [List.mem_append, List.mem_singleton] at hD
   rcases hD with hD | rfl
   · exact h.f3 D hD
   · refine ⟨fun e => (by rw [e] at hvC; cases hvC), hC, fun a ha b => ⟨fun hb => ⟨(hback a ha).trans (hfor b hb), (hback b hb).trans (hfor a ha)⟩, fun ⟨h1, h2⟩ => ?_⟩⟩
     rcases Rch.closed (p := fun x => S x = true ∨ x ∈ D) (.inr ha) (fun p q he k => hcl2 p q k he) h1 with k | k
     · have := Rch.closed (p := fun x => S x = true) k (fun p q he k => h.cl p q k he) h2
       rw [hCS a ha] at this; cases this
     · exact k
theorem Tj.leave (h : Tj N E A M L S m W O F) {W1 : List Nat} {u v : Nat} (hW : W = W1 ++ [u] ++ [v]) (ha : A v = (nxt E v).length) (hl : L v < M v) : Tj N E A M (up L u (min (L u) (L v))) S m (W1 ++ [u]) O F := by
 have hv : v ∈ W := by rw [hW]; simp
 have hu : u ∈ W := by rw [hW]; simp
 have hvO := h.wo v hv
 have hws := h.ws
 rw [hW, List.pairwise_append] at hws
 obtain ⟨hws1, _, hws2⟩ := hws
 have hlu : ∀ x, up L u (min (L u) (L v)) x ≤ L x := fun x => by
   unfold up; split
   · rename_i e; rw [e]; exact Nat.min_le_left _ _
   · exact Nat.le_refl _
 have hsub : ∀ x ∈ W1 ++ [u], x ∈ W := fun x hx => by rw [hW]; exact List.mem_append_left _ hx
 have huv : M u < M v := hws2 u (by simp) v (by simp)
 have hne : v ≠ u := fun e => by rw [e] at huv; omega
 have hlast : ∀ x ∈ W1 ++ [u], M x ≤ M u := fun x hx => by
   rw [List.mem_append, List.mem_singleton] at hx
   rcases hx with hx | rfl
   · rw [List.pairwise_append] at hws1; exact Nat.le_of_lt (hws1.2.2 x hx u (by simp))
   · exact Nat.le_refl _
 have hin : ∀ x ∈ W, x ∈ W1 ++ [u] ∨ x = v := fun x hx => by rw [hW, List.mem_append, List.mem_singleton] at hx; exact hx
 have htop : ∀ x ∈ W, M x ≤ M v := fun x hx => by
   rcases hin x hx with k | rfl
   · exact Nat.le_of_lt (hws2 x k v (by simp))
   · exact Nat.le_refl _
 refine ⟨h.lt, h.le, h.inj, h.op, h.sm, h.os, fun x hx => h.wo x (hsub x hx), hws1, h.al, h.a0, ?_, h.ar, h.cl, fun x hx => Nat.le_trans (hlu x) (h.ll x hx), ?_, ?_, fun y hy x hx hle => h.wr y hy x (hsub x hx) hle, ?_, h.f1, h.f2, h.f3, h.mc⟩
 · intro x hx hxW
   by_cases e : x = v
   · rw [e]; exact ha
   · exact h.dn x hx (fun k => (hin x k).elim hxW e)
 · intro x hx
   by_cases e : x = u
   · subst e
     rw [up_eq]
     rcases Nat.le_total (L x) (L v) with k | k
     · rw [Nat.min_eq_left k]; exact h.lr x hx
     · rw [Nat.min_eq_right k]
       obtain ⟨z, hz, e, hr⟩ := h.lr v hvO
       exact ⟨z, hz, e, (h.wr v hvO x hu (Nat.le_of_lt huv)).trans hr⟩
   · rw [up_ne e]; exact h.lr x hx
 · intro x hx hxW
   by_cases e : x = v
   · rw [e, up_ne hne]; exact hl
   · exact Nat.lt_of_le_of_lt (hlu x) (h.ld x hx (fun k => (hin x k).elim hxW e))
 · intro y hy z hz hS x hx hle how
   rcases Nat.lt_or_ge (M y) (M v) with k | k
   · exact Nat.le_trans (hlu x) (h.lo y hy z hz hS x (hsub x hx) hle (fun x' hx' hl' => (hin x' hx').elim (fun q => how x' q hl') (fun q => by rw [q] at hl'; omega)))
   · have h1 := h.lo y hy z hz hS v hv k (fun x' hx' _ => htop x' hx')
     have h2 := how u (by simp) (by omega)
     have h3 := hlast x hx
     obtain rfl := h.inj u x ((h.op u).1 (h.wo u hu)).1 (by omega)
     rw [up_eq]; exact Nat.le_trans (Nat.min_le_right _ _) h1
end
end
section
def vec1 (N : Nat) (f : Nat → Nat) : List Int := (List.range N).map (fun v => ((f v : Nat) : Int))
def adj (N : Nat) (E : ArG) : List (List Int) := (List.range N).map (fun v => li (nxt E v))
def bN (S : Nat → Bool) : Nat → Nat := fun v => if S v then 1 else 0
theorem vec1_get {N v : Nat} {f : Nat → Nat} (h : v < N) : getI (vec1 N f) (v : Int) = some ((f v : Nat) : Int) := getI_map h
theorem vec1_set {N v x : Nat} {f : Nat → Nat} : (vec1 N f).set ((v : Int)).toNat ((x : Nat) : Int) = vec1 N (up f v x) := by
 unfold vec1
 rw [Int.toNat_natCast, set_map]
 exact map_congr_range fun u _ => by unfold up; split <;> simp_all
theorem vec1_len (N : Nat) (f : Nat → Nat) : (vec1 N f).length = N := by simp [vec1]
theorem adj_get {N v : Nat} {E : ArG} (h : v < N) : getI (adj N E) (v : Int) = some (li (nxt E v)) := getI_map h
theorem li_app (a b : List Nat) : li a ++ li b = li (a ++ b) := by simp [li]
theorem li_snoc (a : List Nat) (v : Nat) : li (a ++ [v]) = li a ++ [(v : Int)] := by simp [li]
theorem bN_up {S : Nat → Bool} {v : Nat} : up (bN S) v 1 = bN (fun x => S x || decide (x = v)) := by
 funext x; unfold up bN
 by_cases h : x = v <;> simp [h]
theorem w64n {n : Nat} (h : n ≤ 9223372036854775807) : IntKind.wrap .i64 (n : Int) = (n : Int) := w64 (by omega) (by omega)
theorem cpy_last (l : List Int) (x : Int) : ((cpy (l ++ [x]) l.length [0]).take l.length) = l := by
 unfold cpy
 simp
section
variable (q0 : List (List Int)) (q1 q2 q3 q4 : List Int) (q5 : Int) (q6 q7 : List Int) (q8 : List (List Int))
theorem sub_last (l : List Int) (x : Int) (hl : l.length ≤ 1073741824) : IntKind.wrap .i64 ((((l ++ [x]).length : Nat) : Int) - 1) = ((l.length : Nat) : Int) := by
 rw [List.length_append, List.length_singleton, w64 (by omega) (by omega)]; omega
theorem top6 (l : List Int) (x : Int) (hl : l.length ≤ 1073741824) : fn_stack_Stack_int_Top_a6 (q0, q1, q2, q3, q4, q5, l ++ [x], q7, q8) = some (x, true) := by
 unfold fn_stack_Stack_int_Top_a6 fn_stack_Stack_int_Len_a6
 simp only [Option.bind_some]
 rw [decide_eq_false (by simp; omega), cond_false, sub_last l x hl, getN (by simp)]
 simp
theorem top6_nil : fn_stack_Stack_int_Top_a6 (q0, q1, q2, q3, q4, q5, [], q7, q8) = some (0, false) := rfl
theorem top7 (l : List Int) (x : Int) (hl : l.length ≤ 1073741824) : fn_stack_Stack_int_Top_a7 (q0, q1, q2, q3, q4, q5, q6, l ++ [x], q8) = some (x, true) := by
 unfold fn_stack_Stack_int_Top_a7 fn_stack_Stack_int_Len_a7
 simp only [Option.bind_some]
 rw [decide_eq_false (by simp; omega), cond_false, sub_last l x hl, getN (by simp)]
 simp
theorem pop6 (l : List Int) (x : Int) (hl : l.length ≤ 1073741824) : fn_stack_Stack_int_Pop_p0o6_krrrrirrod q0 q1 q2 q3 q4 q5 (l ++ [x]) q7 q8 = some (x, true, q1, q2, q3, q4, l, q7, q8) := by
 unfold fn_stack_Stack_int_Pop_p0o6_krrrrirrod
 rw [top6 _ _ _ _ _ _ _ _ l x hl, Option.bind_some]
 dsimp only
 unfold fn_stack_Stack_int_Len_a6
 rw [cond_true, Option.bind_some]
 dsimp only
 rw [sub_last l x hl, subL_eq (by omega) (by simp; omega) (by simp), Option.bind_some, Option.bind_some]
 have e : (((l ++ [x]).length : Nat) : Int).toNat - ((l.length : Nat) : Int).toNat = 1 := by simp
 rw [e, Int.toNat_natCast, subL_eq (by omega) (by omega) (by unfold cpy; simp; omega), Option.bind_some, Int.toNat_natCast]
 simp only [Int.toNat_zero, List.drop_zero]
 rw [show List.replicate 1 (0 : Int) = [0] from rfl, cpy_last]
theorem pop7 (l : List Int) (x : Int) (hl : l.length ≤ 1073741824) : fn_stack_Stack_int_Pop_p0o7_krrrrirrod q0 q1 q2 q3 q4 q5 q6 (l ++ [x]) q8 = some (x, true, q1, q2, q3, q4, q6, l, q8) := by
 unfold fn_stack_Stack_int_Pop_p0o7_krrrrirrod
 rw [top7 _ _ _ _ _ _ _ _ l x hl, Option.bind_some]
 dsimp only
 unfold fn_stack_Stack_int_Len_a7
 rw [cond_true, Option.bind_some]
 dsimp only
 rw [sub_last l x hl, subL_eq (by omega) (by simp; omega) (by simp), Option.bind_some, Option.bind_some]
 have e : (((l ++ [x]).length : Nat) : Int).toNat - ((l.length : Nat) : Int).toNat = 1 := by simp
 rw [e, Int.toNat_natCast, subL_eq (by omega) (by omega) (by unfold cpy; simp; omega), Option.bind_some, Int.toNat_natCast]
 simp only [Int.toNat_zero, List.drop_zero]
 rw [show List.replicate 1 (0 : Int) = [0] from rfl, cpy_last]
end
section
variable {N : Nat} {E : ArG} {A M L : Nat → Nat} {S : Nat → Bool} {m : Nat} {W O : List Nat} {F : List (List Nat)}
theorem meet_eq {w : Nat} (hw : w < N) (hm : m ≤ 1048576) (hW : W.length ≤ 1048576) (hO : O.length ≤ 1048576) (q0 : List (List Int)) (q1 q4 : List Int) (q8 : List (List Int)) :
   fn_scc_finder_meet_p0i_krrrrirrod (w : Int) q0 q1 (vec1 N M) (vec1 N L) q4 (m : Int) (li W) (li O) q8 = some (q1, vec1 N (up M w (m + 1)), vec1 N (up L w (m + 1)), q4, ((m + 1 : Nat) : Int), li (W ++ [w]), li (O ++ [w]), q8) := by
 unfold fn_scc_finder_meet_p0i_krrrrirrod fn_stack_Stack_int_Push_p0o6k_krrrrirrod fn_stack_Stack_int_Push_p0o7k_krrrrirrod
 have hmm : IntKind.wrap .i64 ((m : Int) + 1) = ((m + 1 : Nat) : Int) := by rw [w64 (by omega) (by omega)]; omega
 rw [vec1_get hw, Option.bind_some, hmm, vec1_set, Option.bind_some, vec1_get hw, Option.bind_some, vec1_set, Option.bind_some]
 rw [app_eq (by rw [li_len]; simp; omega)]
 simp only [Option.bind_some]
 rw [app_eq (by rw [li_len]; simp; omega)]
 simp only [Option.bind_some]
 rw [li_snoc, li_snoc]
theorem take_eq {O1 O2 C : List Nat} {v : Nat} {F : List (List Nat)} (hN : N ≤ 1048576) (hO : ∀ x ∈ O1 ++ v :: O2, x < N) (hnd : (O1 ++ v :: O2).Nodup) (hS : ∀ x ∈ O1 ++ v :: O2, S x = false) (hl : (O1 ++ v :: O2).length ≤ 1048576) (hF : F.length ≤ 1048576)
   (hC : (li C).Pairwise (· < ·)) (hCm : ∀ x, x ∈ C ↔ x ∈ v :: O2) (q0 : List (List Int)) (q1 q2 q3 : List Int) (q5 : Int) (q6 : List Int) :
   fn_scc_finder_take_p0i_krrrrirrod (v : Int) q0 q1 q2 q3 (vec1 N (bN S)) q5 q6 (li (O1 ++ v :: O2)) (F.map li) = some (q1, q2, q3, vec1 N (bN (fun x => S x || decide (x ∈ C))), q6, li O1, (F ++ [C]).map li) := by
 unfold fn_scc_finder_take_p0i_krrrrirrod
 have hnd2 : (v :: O2).Nodup := (List.nodup_append.1 hnd).2.1
 have hl2 : (v :: O2).length ≤ 1048576 := by rw [List.length_append] at hl; omega
 have h := loop_nat (body := fn_scc_finder_take_p0i_krrrrirrod_l1 (v : Int) q0 q5)
   (fun k => (li ((v :: O2).reverse.take k), q1, q2, q3, vec1 N (bN (fun x => S x || decide (x ∈ (v :: O2).reverse.take k))), q6, li (O1 ++ (v :: O2).take ((v :: O2).length - k)), F.map li)) (v :: O2).length
   (b := (li (v :: O2).reverse, q1, q2, q3, vec1 N (bN (fun x => S x || decide (x ∈ (v :: O2).reverse))), q6, li O1, F.map li)) ?_ ?_
 · have e0 : (li ((v :: O2).reverse.take 0), q1, q2, q3, vec1 N (bN (fun x => S x || decide (x ∈ (v :: O2).reverse.take 0))), q6, li (O1 ++ (v :: O2).take ((v :: O2).length - 0)), F.map li) = (([] : List Int), q1, q2, q3, vec1 N (bN S), q6, li (O1 ++ v :: O2), F.map li) := by
     rw [Nat.sub_zero, List.take_length]
     simp [li]
   rw [e0] at h
   rw [h, Option.bind_some]
   dsimp only
   rw [srt_set ((List.reverse_perm _).nodup_iff.2 hnd2) hC (fun w => by rw [List.mem_reverse, hCm]) (by rw [List.length_reverse]; omega), Option.bind_some, app_eq (by simp; omega), Option.bind_some]
   have : (fun x => S x || decide (x ∈ (v :: O2).reverse)) = (fun x => S x || decide (x ∈ C)) := by
     funext x
     congr 1
     exact decide_eq_decide.2 (by rw [List.mem_reverse, hCm])
   rw [this]
   simp
 · intro k hk
   have hv : v < N := hO v (by simp)
   have hvk : v ∉ (v :: O2).reverse.take k := by
     rw [List.reverse_cons, List.take_append_of_le_length (by simp at hk ⊢; omega)]
     exact fun hm => (List.nodup_cons.1 hnd2).1 (List.mem_reverse.1 (List.mem_of_mem_take hm))
   have hsv : S v = false := hS v (by simp)
   have hlt : (v :: O2).length - (k + 1) < (v :: O2).length := by omega
   have e1 : (v :: O2).take ((v :: O2).length - k) = (v :: O2).take ((v :: O2).length - (k + 1)) ++ [(v :: O2)[(v :: O2).length - (k + 1)]] := by
     rw [show (v :: O2).length - k = (v :: O2).length - (k + 1) + 1 by omega, take_snoc hlt]
   generalize hx : (v :: O2)[(v :: O2).length - (k + 1)] = x at e1
   have hxO : x ∈ v :: O2 := hx ▸ List.getElem_mem hlt
   have hxN : x < N := hO x (List.mem_append_right _ hxO)
   have e2 : (v :: O2).reverse.take (k + 1) = (v :: O2).reverse.take k ++ [x] := by
     rw [take_snoc (by rw [List.length_reverse]; exact hk), List.getElem_reverse]
     congr 2
     rw [← hx]; congr 1; omega
   unfold fn_scc_finder_take_p0i_krrrrirrod_l1
   dsimp only
   rw [vec1_get hv, Option.bind_some]
   rw [show (bN (fun y => S y || decide (y ∈ (v :: O2).reverse.take k)) v) = 0 from if_neg (by simp only [hsv, Bool.false_or, decide_eq_true_eq]; exact hvk)]
   rw [show decide (((0 : Nat) : Int) = 0) = true from rfl, cond_true, e1, ← List.append_assoc, li_snoc, pop7 _ _ _ _ _ _ _ _ _ _ (by rw [li_len, List.length_append, List.length_take]; rw [List.length_append] at hl; omega), Option.bind_some]
   dsimp only
   rw [vec1_get hxN, Option.bind_some, show (1 : Int) = ((1 : Nat) : Int) from rfl, vec1_set, Option.bind_some, bN_up, app_eq (by rw [li_len, List.length_take]; simp; omega), Option.bind_some, e2, li_snoc]
   have : (fun y => (S y || decide (y ∈ (v :: O2).reverse.take k)) || decide (y = x)) = (fun y => S y || decide (y ∈ (v :: O2).reverse.take k ++ [x])) := by
     funext y
     rw [Bool.or_assoc]
     congr 1
     rw [Bool.eq_iff_iff]
     simp [List.mem_append]
   rw [this]
 · have hv : v < N := hO v (by simp)
   unfold fn_scc_finder_take_p0i_krrrrirrod_l1
   dsimp only
   rw [List.take_of_length_le (l := (v :: O2).reverse) (by simp), vec1_get hv, Option.bind_some]
   rw [show (bN (fun y => S y || decide (y ∈ (v :: O2).reverse)) v) = 1 from if_pos (by simp)]
   rw [Nat.sub_self, List.take_zero, List.append_nil]
   rfl
theorem Tj.split {v : Nat} (h : Tj N E A M L S m W O F) (hv : v ∈ O) : ∃ O1 O2, O = O1 ++ v :: O2 ∧ (∀ x ∈ O1, M x < M v) ∧ ∀ x ∈ O2, M v < M x := by
 obtain ⟨O1, O2, rfl⟩ := List.append_of_mem hv
 have := h.os
 rw [List.pairwise_append, List.pairwise_cons] at this
 exact ⟨O1, O2, rfl, fun x hx => this.2.2 x hx v (by simp), this.2.1.1⟩
theorem leave_eq {W0 : List Nat} {v : Nat} (h : Tj N E A M L S m W O F) (hN : N ≤ 1048576) (hW : W = W0 ++ [v]) (ha : A v = (nxt E v).length) (hF : F.length ≤ N) :
   ∃ L' S' O' F', fn_scc_finder_leave_p0i_krrrrirrod (v : Int) (adj N E) (vec1 N A) (vec1 N M) (vec1 N L) (vec1 N (bN S)) (m : Int) (li W) (li O) (F.map li) = some (vec1 N A, vec1 N M, vec1 N L', vec1 N (bN S'), li W0, li O', F'.map li) ∧ Tj N E A M L' S' m W0 O' F' := by
 have hv : v ∈ W := by rw [hW]; simp
 have hvO := h.wo v hv
 have hvN : v < N := h.lt v ((h.op v).1 hvO).1
 have hWl : W0.length + 1 ≤ N := by have := h.wN; rw [hW] at this; simpa using this
 have hlow : ∀ (L1 : Nat → Nat) (S1 : Nat → Bool) (O1 : List Nat) (F1 : List (List Nat)), (W0 = [] → Tj N E A M L1 S1 m W0 O1 F1) → (∀ W1 u, W0 = W1 ++ [u] → Tj N E A M (up L1 u (min (L1 u) (L1 v))) S1 m W0 O1 F1) →
     ∃ L' S' O' F', ((fn_stack_Stack_int_Top_a6 (adj N E, vec1 N A, vec1 N M, vec1 N L1, vec1 N (bN S1), (m : Int), li W0, li O1, F1.map li)).bind fun (i1044, t1045) => cond (t1045) ((getI (vec1 N L1) i1044).bind fun x1139 => (getI (vec1 N L1) (v : Int)).bind fun x1146 => (getI (vec1 N L1) i1044).bind fun x1153 => (some ((vec1 N L1).set i1044.toNat (if x1146 < x1139 then x1146 else x1139))).bind fun z1160 => some ((vec1 N A, vec1 N M, z1160, vec1 N (bN S1), li W0, li O1, F1.map li))) (some ((vec1 N A, vec1 N M, vec1 N L1, vec1 N (bN S1), li W0, li O1, F1.map li)))) = some (vec1 N A, vec1 N M, vec1 N L', vec1 N (bN S'), li W0, li O', F'.map li) ∧ Tj N E A M L' S' m W0 O' F' := by
   intro L1 S1 O1 F1 h0 h1
   rcases List.eq_nil_or_concat W0 with e | ⟨W1, u, e⟩
   · refine ⟨L1, S1, O1, F1, ?_, h0 e⟩
     rw [e, show li [] = [] from rfl, top6_nil]; rfl
   · have e : W0 = W1 ++ [u] := by simpa using e
     have hk := h1 W1 u e
     have huN : u < N := hk.lt u ((hk.op u).1 (hk.wo u (by rw [e]; simp))).1
     refine ⟨_, S1, O1, F1, ?_, hk⟩
     have hW1 : W1.length ≤ N := by rw [e] at hWl; simp at hWl; omega
     rw [e, li_snoc, top6 _ _ _ _ _ _ _ _ _ _ (by rw [li_len]; omega), Option.bind_some]
     dsimp only
     rw [cond_true, vec1_get huN, Option.bind_some, vec1_get hvN, Option.bind_some, Option.bind_some]
     have em : (if ((L1 v : Nat) : Int) < ((L1 u : Nat) : Int) then ((L1 v : Nat) : Int) else ((L1 u : Nat) : Int)) = ((min (L1 u) (L1 v) : Nat) : Int) := by split <;> omega
     rw [em, vec1_set, Option.bind_some]
 have hWl2 : (li W0).length ≤ 1073741824 := by rw [li_len]; omega
 unfold fn_scc_finder_leave_p0i_krrrrirrod
 rw [hW, li_snoc, pop6 _ _ _ _ _ _ _ _ _ _ hWl2, Option.bind_some]
 dsimp only
 rw [vec1_get hvN, Option.bind_some, vec1_get hvN, Option.bind_some]
 by_cases hl : L v = M v
 · rw [decide_eq_true (show ((L v : Nat) : Int) = ((M v : Nat) : Int) by omega), cond_true]
   obtain ⟨O1, O2, eO, g1, g2⟩ := h.split hvO
   have hOl := h.oN
   have hOlt : ∀ x ∈ O, x < N := fun x hx => h.lt x ((h.op x).1 hx).1
   have hOS : ∀ x ∈ O, S x = false := fun x hx => ((h.op x).1 hx).2
   have hnd : O.Nodup := h.os.imp (fun h e => by rw [e] at h; omega)
   let C := (List.range N).filter (fun x => decide (x ∈ v :: O2))
   have hCm : ∀ x, x ∈ C ↔ x ∈ v :: O2 := fun x => by
     rw [List.mem_filter, decide_eq_true_eq, List.mem_range]
     exact ⟨fun k => k.2, fun k => ⟨hOlt x (by rw [eO]; exact List.mem_append_right _ k), k⟩⟩
   have ht := take_eq (N := N) (S := S) (O1 := O1) (O2 := O2) (C := C) (v := v) (F := F) hN (by rw [← eO]; exact hOlt) (by rw [← eO]; exact hnd) (by rw [← eO]; exact hOS) (by rw [← eO]; omega) (by omega) (range_strict N _) hCm (adj N E) (vec1 N A) (vec1 N M) (vec1 N L) (m : Int) (li W0)
   rw [eO, ht]
   simp only [Option.bind_some]
   have hk : Tj N E A M L (fun x => S x || decide (x ∈ C)) m W0 (O.filter fun x => decide (M x < M v)) (F ++ [C]) := h.take hW ha hl (by
     have := range_strict N (fun x => decide (x ∈ v :: O2)); unfold li at this
     rw [List.pairwise_map] at this
     exact this.imp (fun h => by omega)) (fun x => by
     rw [hCm, eO]
     constructor
     · intro k
       refine ⟨List.mem_append_right _ k, ?_⟩
       rcases List.mem_cons.1 k with rfl | k
       · exact Nat.le_refl _
       · exact Nat.le_of_lt (g2 x k)
     · rintro ⟨k, k2⟩
       rcases List.mem_append.1 k with k | k
       · have := g1 x k; omega
       · exact k)
   have eO1 : O.filter (fun x => decide (M x < M v)) = O1 := by
     rw [eO, List.filter_append, List.filter_cons, List.filter_eq_self.2 (fun x hx => by simpa using g1 x hx)]
     rw [List.filter_eq_nil_iff.2 (fun x hx => by have := g2 x hx; simp; omega)]
     simp
   rw [eO1] at hk
   refine hlow L _ O1 (F ++ [C]) (fun _ => hk) (fun W1 u e => ?_)
   have hu : u ∈ W0 := by rw [e]; simp
   have h1 : M u < M v := by
     have := h.ws; rw [hW, List.pairwise_append] at this; exact this.2.2 u hu v (by simp)
   have h2 := h.ll u (h.wo u (by rw [hW]; simp [hu]))
   rw [up_self (by rw [hl]; omega)]
   exact hk
 · rw [decide_eq_false (show ¬ ((L v : Nat) : Int) = ((M v : Nat) : Int) by omega), cond_false]
   simp only [Option.bind_some]
   have hlt : L v < M v := by have := h.ll v hvO; omega
   refine hlow L S O F (fun e => ?_) (fun W1 u e => ?_)
   · exfalso
     obtain ⟨z, hz, e1, _⟩ := h.lr v hvO
     obtain ⟨w, hw, h1, _⟩ := h.back _ (y := z) (Nat.le_refl _) hz
     rw [hW, e] at hw
     simp at hw
     subst hw; omega
   · have := h.leave (W1 := W1) (u := u) (v := v) (by rw [hW, e]) ha hlt
     rw [e]; exact this
end
end
end Go.Proofs.Ytpbbaghblhmilaa
