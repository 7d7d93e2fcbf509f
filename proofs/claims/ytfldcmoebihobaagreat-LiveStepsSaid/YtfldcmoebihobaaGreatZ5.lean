/- A part of the proof: what lies ahead of the law. Nothing is claimed here. -/
import Derived.Test.YtfldcmoebihobaaGreatZ4
import Derived.Test.YtfldcmoebihobaaGreatRows
namespace Go.Proofs.YtfldcmoebihobaaGreat
set_option linter.unusedVariables false
set_option maxRecDepth 100000
set_option maxHeartbeats 4000000
section
open Go.RowKit _root_.Go.Proofs.Tryz
abbrev bkO (i : Nat) (o : OT) : Bk := ⟨some i, 0, [], false, false, some o, false⟩
abbrev bkC (i : Nat) (e : TypeId) (ks : List Kd) : Bk := ⟨some i, e, ks, false, false, none, false⟩
abbrev bkN (e : TypeId) (ks : List Kd) : Bk := ⟨none, e, ks, false, false, none, false⟩
abbrev bkU (i : Nat) : Bk := ⟨some i, 0, [], false, true, none, false⟩
abbrev bkM : Bk := ⟨none, 0, [], false, true, none, false⟩
abbrev kdI (i : Nat) : Nat × Kd := (i, .dat (.int .i64))
abbrev kdB (i : Nat) : Nat × Kd := (i, .dat .bool)
abbrev Yq1 : Tp := (.cons (.int .i64) (.cons (.int .i64) (.cons (.sl (.cons (.int .i64) (.one (.int .i64)))) (.cons (.sl (.one (.sl (.cons (.int .i64) (.one .bool))))) (.cons (.one (.sl (.cons (.int .i64) (.one .bool)))) (.cons (.sl (.cons (.int .i64) (.cons (.sl (.cons (.int .i64) (.one (.int .i64)))) (.cons (.sl (.one (.sl (.cons (.int .i64) (.one .bool))))) (.one (.one (.sl (.cons (.int .i64) (.one .bool))))))))) (.one (.sl (.cons (.sl (.cons (.int .i64) (.cons (.int .i64) (.cons (.int .i64) (.cons (.int .i64) (.one .bool)))))) (.one (.cons (.int .i64) (.cons (.int .i64) (.cons (.int .i64) (.cons (.sl (.int .i64)) (.cons (.sl (.int .i64)) (.one (.sl (.int .i64))))))))))))))))))
abbrev Tq1 : Type := (Int × Int × (List (Int × Int)) × (List (List (Int × Bool))) × (List (Int × Bool)) × (List (Int × (List (Int × Int)) × (List (List (Int × Bool))) × (List (Int × Bool)))) × (List ((List (Int × Int × Int × Int × Bool)) × (Int × Int × Int × (List Int) × (List Int) × (List Int)))))
abbrev Yq2 : Tp := (.int .i64)
abbrev Tq2 : Type := ((List Int) × (List Int))
abbrev Yq3 : Tp := (.cons Yq2 (.one .bool))
abbrev Tq3 : Type := (List (Int × Bool))
abbrev Tq4 : Type := (Int × Int × Int × Int × Bool)
abbrev Tq5 : Type := (List (Int × Int))
abbrev Yq4 : Tp := (.cons Yq2 (.cons (.sl (.cons Yq2 (.one Yq2))) (.cons (.cons (.sl Yq2) (.one (.sl Yq2))) (.one (.cons (.sl Yq2) (.one (.sl Yq2)))))))
abbrev Yq5 : Tp := (.sl (.cons Yq2 (.one Yq2)))
abbrev Yq6 : Tp := (.cons Yq2 (.cons Yq2 (.cons Yq2 Yq3)))
abbrev Tq6 : Type := (Int × Int × Int × (List Int) × (List Int) × (List Int))
abbrev Yq7 : Tp := (.cons (.sl Yq2) (.one (.sl Yq2)))
abbrev Yq8 : Tp := (.one (.sl Yq3))
abbrev Tq7 : Type := (Int × (List Int))
abbrev Tq8 : Type := (Int × Int × Int × Int)
abbrev Tq9 : Type := ((List Int) × (List Int) × Int × Int × (Option Tq5))
abbrev Tq10 : Type := (Option (Int × Tq5 × Tq2 × Tq2))
abbrev Tq11 : Type := (Int × (List Int) × (List Int) × Int × Int × (Option Tq5))
abbrev Tq12 : Type := (Int × Tq5 × (List Tq3) × Tq3)
abbrev Tq13 : Type := (Int × (List Int) × Int × Int × (Option Tq5))
abbrev Tq14 : Type := ((List Int) × Int × Int × (Option Tq5))
abbrev Tq15 : Type := ((List Int) × Int)
abbrev Tq16 : Type := ((List Tq4) × Int)
abbrev Yq9 : Tp := (.cons Yq2 (.cons Yq5 (.cons (.sl Yq8) (.one Yq8))))
abbrev Yq10 : Tp := (.cons Yq2 (.cons Yq2 (.cons Yq2 (.cons (.sl Yq2) Yq7))))
abbrev Yq11 : Tp := (.ptr (.cons Yq2 (.one (.sl (.int .u64)))))
abbrev Tq17 : Type := (Int × (List (Option Tq7)))
abbrev Yq12 : Tp := (.ptr (.cons (.sl Yq2) (.one Yq2)))
abbrev Tq18 : Type := ((List Tq2) × (List Tq2))
abbrev Tq19 : Type := (Int × Int × Bool)
abbrev Tq20 : Type := (Int × Int × (List Tq3) × Tq3 × (List Tq12))
abbrev Yq13 : Tp := (.cons Yq2 (.cons Yq2 (.cons (.sl Yq8) (.cons Yq8 (.one (.sl Yq9))))))
abbrev Tq21 : Type := (Option ((Option Tq15) × Tq10))
abbrev Yq14 : Tp := (.cons (.sl Yq7) (.one (.sl Yq7)))
abbrev Yq15 : Tp := (.cons Yq2 (.one (.sl Yq11)))
instance nob : BldA := ⟨1000000000, fun b _ => Cl b 1000000000 [.pointer none, .slice none 0 0], fun h => h, fun _ => True, fun _ _ => trivial⟩

noncomputable def fn_ref15_Few (xa : Tq3) (xb : Int) : Option Bool :=
  some (decide ((xa.length : Int) ≤ xb))
noncomputable def h_ref15_Few : Hn Tryz.prog := .nil
noncomputable def sp_ref15_Few : Spec := ⟨16, ⟨[(0, .dat Yq8), kdI 1], []⟩, [⟨[kdB 0], []⟩], fun x => fn_ref15_Few x.1 x.2⟩
theorem ref15_Few_is : SpecOk Tryz.prog sp_ref15_Few := fn_is func16 h_ref15_Few (by kernel_rfl) (by kernel_rfl)
noncomputable def ok_ref15_Few : OkSpec Tryz.prog := ⟨sp_ref15_Few, ref15_Few_is, call16⟩
noncomputable def fn_ref17_Few_l1 (xa : Tq12) : Int → Option (Int ⊕ (Unit ⊕ Bool)) := fun (i264 : Int) => cond (decide (i264 < (xa.2.2.1.length : Int))) ((getI xa.2.2.1 i264).bind fun x289 => (fn_ref15_Few x289 20).bind fun t304 => cond (!t304) (some (.inr ((.inr (false))))) (some (.inl (IntKind.wrap .i64 (i264 + 1))))) (some (.inr ((.inl ()))))
noncomputable def fn_ref17_Few (xa : Tq12) : Option Bool :=
  (cond ((decide (20 < (xa.2.1.length : Int))) || (decide (20 < (xa.2.2.1.length : Int)))) (some (true)) ((fn_ref15_Few xa.2.2.2 20).bind fun t170 => some (!t170))).bind fun t166 => cond (t166) (some (false)) ((loop (fn_ref17_Few_l1 xa) 0 : Option (Unit ⊕ Bool)).bind fun o => match o with | .inr r => some r | .inl () => some (true))
noncomputable def h_ref17_Few : Hn Tryz.prog := .gp 4 (.wt 14 (.gj 4 ⟨[kdB 19], []⟩ [] (.two 14 (.nil) (.cl ok_ref15_Few [] (.nil))) (.tw 19 (.nil) (.jx [] ⟨[], []⟩ [] (.lp ⟨[kdI 3], []⟩ (.tw 24 (.cl ok_ref15_Few [] (.tw 33 (.nil) (.nil))) (.nil))) (.nil)))))
noncomputable def sp_ref17_Few : Spec := ⟨17, ⟨[(0, .dat Yq9)], []⟩, [⟨[kdB 0], []⟩], fun x => fn_ref17_Few x⟩
theorem ref17_Few_is : SpecOk Tryz.prog sp_ref17_Few := fn_is func17 h_ref17_Few (by kernel_rfl) (by kernel_rfl)
noncomputable def ok_ref17_Few : OkSpec Tryz.prog := ⟨sp_ref17_Few, ref17_Few_is, call17⟩
noncomputable def fn_ref20_Small_l1 (xa : Tq1) : Int → Option (Int ⊕ (Unit ⊕ Bool)) := fun (i726 : Int) => cond (decide (i726 < (xa.2.2.2.1.length : Int))) ((getI xa.2.2.2.1 i726).bind fun x751 => (fn_ref15_Few x751 20).bind fun t766 => cond (!t766) (some (.inr ((.inr (false))))) (some (.inl (IntKind.wrap .i64 (i726 + 1))))) (some (.inr ((.inl ()))))
noncomputable def fn_ref20_Small_l2 (xa : Tq1) : Int → Option (Int ⊕ (Unit ⊕ Bool)) := fun (i892 : Int) => cond (decide (i892 < (xa.2.2.2.2.2.1.length : Int))) ((getI xa.2.2.2.2.2.1 i892).bind fun x925 => (fn_ref17_Few (x925.1, x925.2.1, x925.2.2.1, x925.2.2.2)).bind fun t948 => cond (!t948) (some (.inr ((.inr (false))))) (some (.inl (IntKind.wrap .i64 (i892 + 1))))) (some (.inr ((.inl ()))))
noncomputable def fn_ref20_Small_l3 (xa : Tq1) : (Int × Int) → Option ((Int × Int) ⊕ (Int ⊕ Bool)) := fun ((i1135, i1136) : (Int × Int)) => cond (decide (i1136 < (xa.2.2.2.2.2.2.length : Int))) ((getI xa.2.2.2.2.2.2 i1136).bind fun x1184 => (getI xa.2.2.2.2.2.2 i1136).bind fun x1206 => cond (((decide (20 < (x1184.2.2.2.2.1.length : Int))) || (decide (20 < (x1184.2.2.2.2.2.1.length : Int)))) || (decide (20 < (x1184.2.2.2.2.2.2.length : Int)))) (some (.inr ((.inr (false))))) (some (.inl ((IntKind.wrap .i64 (i1135 + (x1206.1.length : Int)), IntKind.wrap .i64 (i1136 + 1)))))) (some (.inr (.inl i1135)))
noncomputable def fn_ref20_Small (xa : Tq1) : Option Bool :=
  (cond ((((decide (20 < (xa.2.2.1.length : Int))) || (decide (10 < (xa.2.2.2.1.length : Int)))) || (decide (4 < (xa.2.2.2.2.2.1.length : Int)))) || (decide (8 < (xa.2.2.2.2.2.2.length : Int)))) (some (true)) ((fn_ref15_Few xa.2.2.2.2.1 20).bind fun t632 => some (!t632))).bind fun t628 => cond (t628) (some (false)) ((loop (fn_ref20_Small_l1 xa) 0 : Option (Unit ⊕ Bool)).bind fun o => match o with | .inr r => some r | .inl () => (loop (fn_ref20_Small_l2 xa) 0 : Option (Unit ⊕ Bool)).bind fun o => match o with | .inr r => some r | .inl () => (loop (fn_ref20_Small_l3 xa) (0, 0) : Option (Int ⊕ Bool)).bind fun o => match o with | .inr r => some r | .inl i1089 => some (decide (i1089 ≤ 24)))
noncomputable def h_ref20_Small : Hn Tryz.prog := .gp 4 (.wt 18 (.gp 4 (.wt 24 (.gp 4 (.wt 30 (.gj 4 ⟨[kdB 35], []⟩ [] (.two 30 (.nil) (.cl ok_ref15_Few [] (.nil))) (.tw 35 (.nil) (.jx [] ⟨[], []⟩ [] (.lp ⟨[kdI 3], []⟩ (.tw 40 (.cl ok_ref15_Few [] (.tw 49 (.nil) (.nil))) (.nil))) (.jx [] ⟨[], []⟩ [] (.lp ⟨[kdI 4], []⟩ (.tw 54 (.cl ok_ref17_Few [] (.tw 63 (.nil) (.nil))) (.nil))) (.jx [] ⟨[kdI 5], []⟩ [] (.lp ⟨[kdI 5, kdI 6], []⟩ (.tw 68 (.gp 4 (.wt 96 (.gp 4 (.tw 101 (.nil) (.nil))))) (.nil))) (.nil)))))))))))
noncomputable def sp_ref20_Small : Spec := ⟨4, ⟨[(0, .dat Yq1)], []⟩, [⟨[kdB 0], []⟩], fun x => fn_ref20_Small x⟩
theorem ref20_Small_is : SpecOk Tryz.prog sp_ref20_Small := fn_is func4 h_ref20_Small (by kernel_rfl) (by kernel_rfl)
noncomputable def ok_ref20_Small : OkSpec Tryz.prog := ⟨sp_ref20_Small, ref20_Small_is, call4⟩

noncomputable def fn_tick_Counter_Add_zii (xb : Int) (xc : Int) : Option Unit :=
  some (())
noncomputable def h_tick_Counter_Add_zii : Hn Tryz.prog := .nil
noncomputable def sp_tick_Counter_Add_zii : Spec := ⟨21, ⟨[(0, .nilp), kdI 1, kdI 2], []⟩, [⟨[], []⟩], fun x => fn_tick_Counter_Add_zii x.1 x.2⟩
theorem tick_Counter_Add_zii_is : SpecOk Tryz.prog sp_tick_Counter_Add_zii := fn_is func21 h_tick_Counter_Add_zii (by kernel_rfl) (by kernel_rfl)
noncomputable def ok_tick_Counter_Add_zii : OkSpec Tryz.prog := ⟨sp_tick_Counter_Add_zii, tick_Counter_Add_zii_is, call21⟩

noncomputable def fn_valid_head_az (xa : Tq1) : Option Tq8 :=
  cond ((decide (xa.1 < 1)) || (decide (xa.2.1 < xa.1))) (some ((7, 0, 0, 0))) (cond (decide (65536 < xa.2.1)) (some ((6, 0, 0, 0))) (some ((0, 0, 0, 0))))
noncomputable def h_valid_head_az : Hn Tryz.prog := .gp 5 (.tw 7 (.nil) (.tw 19 (.nil) (.nil)))
noncomputable def sp_valid_head_az : Spec := ⟨84, ⟨[(0, .dat Yq1), (1, .nilp)], []⟩, [⟨[(0, .agg [.dat Yq2, .dat Yq2, .dat Yq2, .dat Yq2])], []⟩], fun x => fn_valid_head_az x⟩
theorem valid_head_az_is : SpecOk Tryz.prog sp_valid_head_az := fn_is func84 h_valid_head_az (by kernel_rfl) (by kernel_rfl)
noncomputable def ok_valid_head_az : OkSpec Tryz.prog := ⟨sp_valid_head_az, valid_head_az_is, call84⟩

noncomputable def fn_valid_bounds_1_ip0_iikkkkk (xa : Int) (qa0 : Int) (qa1 : Int) (qa2 : Tq5) (qa3 : (List Tq3)) (qa4 : Tq3) (qa5 : (List Tq12)) (qa6 : (List ((List Tq4) × Tq6))) : Option Bool :=
  some ((decide (0 ≤ xa)) && (decide (xa < qa0)))
noncomputable def h_valid_bounds_1_ip0_iikkkkk : Hn Tryz.prog := .gp 4 (.nil)
noncomputable def sp_valid_bounds_1_ip0_iikkkkk : Spec := ⟨108, ⟨[kdI 0, (1, .ptr 0 0)], [bkN 30 [.is 1 (.dat Yq2), .is 2 (.dat Yq2), .is 3 (.dat Yq5), .is 4 (.dat (.sl Yq8)), .is 5 (.dat (.sl Yq3)), .is 6 (.dat (.sl Yq9)), .is 7 (.dat (.sl (.cons (.sl Yq6) (.one Yq10))))], bkM, bkM, bkM, bkM, bkM, bkM, bkM]⟩, [⟨[kdB 0], [bkC 0 30 [.is 1 (.any), .is 2 (.any), .is 3 (.any), .is 4 (.any), .is 5 (.any), .is 6 (.any), .is 7 (.any)], bkU 1, bkU 2, bkU 3, bkU 4, bkU 5, bkU 6, bkU 7]⟩], fun x => fn_valid_bounds_1_ip0_iikkkkk x.1 x.2.1 x.2.2.1 x.2.2.2.1 x.2.2.2.2.1 x.2.2.2.2.2.1 x.2.2.2.2.2.2.1 x.2.2.2.2.2.2.2⟩
theorem valid_bounds_1_ip0_iikkkkk_is : SpecOk Tryz.prog sp_valid_bounds_1_ip0_iikkkkk := fn_is func108 h_valid_bounds_1_ip0_iikkkkk (by kernel_rfl) (by kernel_rfl)
noncomputable def ok_valid_bounds_1_ip0_iikkkkk : OkSpec Tryz.prog := ⟨sp_valid_bounds_1_ip0_iikkkkk, valid_bounds_1_ip0_iikkkkk_is, call108⟩
noncomputable def fn_valid_bounds_az_l1 (xa : Tq1) : Int → Option (Int ⊕ (Unit ⊕ Tq8)) := fun (i404 : Int) => cond (decide (i404 < (xa.2.2.1.length : Int))) ((getI xa.2.2.1 i404).bind fun x446 => (fn_tick_Counter_Add_zii 1 1).bind fun _ => (fn_valid_bounds_1_ip0_iikkkkk x446.1 xa.1 xa.2.1 xa.2.2.1 xa.2.2.2.1 xa.2.2.2.2.1 xa.2.2.2.2.2.1 xa.2.2.2.2.2.2).bind fun t463 => (cond (!t463) (some (true)) ((fn_valid_bounds_1_ip0_iikkkkk x446.2 xa.1 xa.2.1 xa.2.2.1 xa.2.2.2.1 xa.2.2.2.2.1 xa.2.2.2.2.2.1 xa.2.2.2.2.2.2).bind fun t478 => some (!t478))).bind fun t474 => cond (t474) (some (.inr ((.inr ((7, 1, i404, 0)))))) (some (.inl (IntKind.wrap .i64 (i404 + 1))))) (some (.inr ((.inl ()))))
noncomputable def fn_valid_bounds_az (xa : Tq1) : Option Tq8 :=
  cond (decide (65536 < (xa.2.2.1.length : Int))) (some ((6, 1, 0, 0))) ((loop (fn_valid_bounds_az_l1 xa) 0 : Option (Unit ⊕ Tq8)).bind fun o => match o with | .inr r => some r | .inl () => some ((0, 0, 0, 0)))
noncomputable def h_valid_bounds_az : Hn Tryz.prog := .tw 11 (.nil) (.jx [] ⟨[], [bkC 2 140 [.lit (.int .i64 0), .lit (.int .i64 0), .lit (.int .i64 0), .lit (.int .i64 0)]]⟩ [2, 0] (.mc 0 0 1 (.mc 0 1 1 (.mc 0 2 1 (.mc 0 3 1 (.mc 0 4 1 (.mc 0 5 1 (.mc 0 6 1 (.lp ⟨[kdI 17], [bkC 2 140 [.lit (.int .i64 0), .lit (.int .i64 0), .lit (.int .i64 0), .lit (.int .i64 0)], bkC 0 30 [.is 2 (.any), .is 3 (.any), .is 4 (.any), .is 5 (.any), .is 6 (.any), .is 7 (.any), .is 8 (.any)], bkU 4, bkU 5, bkU 6, bkU 7, bkU 8, bkU 9, bkU 10]⟩ (.tw 18 (.cl ok_tick_Counter_Add_zii [] (.cl ok_valid_bounds_1_ip0_iikkkkk [] (.gj 5 ⟨[kdB 35], [bkC 0 30 [.is 1 (.any), .is 2 (.any), .is 3 (.any), .is 4 (.any), .is 5 (.any), .is 6 (.any), .is 7 (.any)], bkU 4, bkU 5, bkU 6, bkU 7, bkU 8, bkU 9, bkU 10]⟩ [0] (.two 29 (.nil) (.cl ok_valid_bounds_1_ip0_iikkkkk [] (.nil))) (.tw 35 (.nil) (.nil))))) (.nil)))))))))) (.nil))
noncomputable def sp_valid_bounds_az : Spec := ⟨85, ⟨[(0, .dat Yq1), (1, .nilp)], []⟩, [⟨[(0, .agg [.dat Yq2, .dat Yq2, .dat Yq2, .dat Yq2])], []⟩], fun x => fn_valid_bounds_az x⟩
theorem valid_bounds_az_is : SpecOk Tryz.prog sp_valid_bounds_az := fn_is func85 h_valid_bounds_az (by kernel_rfl) (by kernel_rfl)
noncomputable def ok_valid_bounds_az : OkSpec Tryz.prog := ⟨sp_valid_bounds_az, valid_bounds_az_is, call85⟩

noncomputable def fn_row_within_1_ap0_i (xa : (Int × Bool)) (qa0 : Int) : Option Bool :=
  some ((decide (xa.1 < 0)) || (decide (qa0 ≤ xa.1)))
noncomputable def h_row_within_1_ap0_i : Hn Tryz.prog := .gp 4 (.nil)
noncomputable def sp_row_within_1_ap0_i : Spec := ⟨141, ⟨[(0, .dat Yq3), (1, .ptr 0 0)], [bkN 3 [.is 1 (.dat Yq2)], bkM]⟩, [⟨[kdB 0], [bkC 0 3 [.is 1 (.any)], bkU 1]⟩], fun x => fn_row_within_1_ap0_i x.1 x.2⟩
theorem row_within_1_ap0_i_is : SpecOk Tryz.prog sp_row_within_1_ap0_i := fn_is func141 h_row_within_1_ap0_i (by kernel_rfl) (by kernel_rfl)
noncomputable def ok_row_within_1_ap0_i : OkSpec Tryz.prog := ⟨sp_row_within_1_ap0_i, row_within_1_ap0_i_is, call141⟩
noncomputable def fn_slices_IndexFunc_api_Slot_api_Slot_k_row_within_1_p0_i_l1 (xa : Tq3) (qa0 : Int) : Int → Option (Int ⊕ (Unit ⊕ Int)) := fun (i185 : Int) => cond (decide (i185 < (xa.length : Int))) ((getI xa i185).bind fun x206 => (fn_row_within_1_ap0_i (x206.1, x206.2) qa0).bind fun t217 => cond (t217) (some (.inr ((.inr (i185))))) (some (.inl (IntKind.wrap .i64 (i185 + 1))))) (some (.inr ((.inl ()))))
noncomputable def fn_slices_IndexFunc_api_Slot_api_Slot_k_row_within_1_p0_i (xa : Tq3) (qa0 : Int) : Option Int :=
  (loop (fn_slices_IndexFunc_api_Slot_api_Slot_k_row_within_1_p0_i_l1 xa qa0) 0 : Option (Unit ⊕ Int)).bind fun o => match o with | .inr r => some r | .inl () => some ((-1))
noncomputable def h_slices_IndexFunc_api_Slot_api_Slot_k_row_within_1_p0_i : Hn Tryz.prog := .jx [] ⟨[], [bkC 0 3 [.is 1 (.any)], bkU 1]⟩ [0] (.lp ⟨[kdI 8], [bkC 0 3 [.is 1 (.any)], bkU 1]⟩ (.tw 9 (.cl ok_row_within_1_ap0_i [] (.tw 16 (.nil) (.nil))) (.nil))) (.nil)
noncomputable def sp_slices_IndexFunc_api_Slot_api_Slot_k_row_within_1_p0_i : Spec := ⟨150, ⟨[(0, .dat (.sl Yq3)), (1, .fn 141 [.ptr 0 0])], [bkN 3 [.is 1 (.dat Yq2)], bkM]⟩, [⟨[kdI 0], [bkC 0 3 [.is 1 (.any)], bkU 1]⟩], fun x => fn_slices_IndexFunc_api_Slot_api_Slot_k_row_within_1_p0_i x.1 x.2⟩
theorem slices_IndexFunc_api_Slot_api_Slot_k_row_within_1_p0_i_is : SpecOk Tryz.prog sp_slices_IndexFunc_api_Slot_api_Slot_k_row_within_1_p0_i := fn_is func150 h_slices_IndexFunc_api_Slot_api_Slot_k_row_within_1_p0_i (by kernel_rfl) (by kernel_rfl)
noncomputable def ok_slices_IndexFunc_api_Slot_api_Slot_k_row_within_1_p0_i : OkSpec Tryz.prog := ⟨sp_slices_IndexFunc_api_Slot_api_Slot_k_row_within_1_p0_i, slices_IndexFunc_api_Slot_api_Slot_k_row_within_1_p0_i_is, call150⟩

noncomputable def fn_slices_ContainsFunc_api_Slot_api_Slot_k_row_within_1_p0_i (xa : Tq3) (qa0 : Int) : Option Bool :=
  (fn_slices_IndexFunc_api_Slot_api_Slot_k_row_within_1_p0_i xa qa0).bind fun i10 => some (decide (0 ≤ i10))
noncomputable def h_slices_ContainsFunc_api_Slot_api_Slot_k_row_within_1_p0_i : Hn Tryz.prog := .cl ok_slices_IndexFunc_api_Slot_api_Slot_k_row_within_1_p0_i [] (.nil)
noncomputable def sp_slices_ContainsFunc_api_Slot_api_Slot_k_row_within_1_p0_i : Spec := ⟨140, ⟨[(0, .dat (.sl Yq3)), (1, .fn 141 [.ptr 0 0])], [bkN 3 [.is 1 (.dat Yq2)], bkM]⟩, [⟨[kdB 0], [bkC 0 3 [.is 1 (.any)], bkU 1]⟩], fun x => fn_slices_ContainsFunc_api_Slot_api_Slot_k_row_within_1_p0_i x.1 x.2⟩
theorem slices_ContainsFunc_api_Slot_api_Slot_k_row_within_1_p0_i_is : SpecOk Tryz.prog sp_slices_ContainsFunc_api_Slot_api_Slot_k_row_within_1_p0_i := fn_is func140 h_slices_ContainsFunc_api_Slot_api_Slot_k_row_within_1_p0_i (by kernel_rfl) (by kernel_rfl)
noncomputable def ok_slices_ContainsFunc_api_Slot_api_Slot_k_row_within_1_p0_i : OkSpec Tryz.prog := ⟨sp_slices_ContainsFunc_api_Slot_api_Slot_k_row_within_1_p0_i, slices_ContainsFunc_api_Slot_api_Slot_k_row_within_1_p0_i_is, call140⟩

noncomputable def fn_row_within (xa : Tq3) (xb : Int) : Option Bool :=
  (fn_slices_ContainsFunc_api_Slot_api_Slot_k_row_within_1_p0_i xa xb).bind fun t14 => some (!t14)
noncomputable def h_row_within : Hn Tryz.prog := .mc 2 0 3 (.cl ok_slices_ContainsFunc_api_Slot_api_Slot_k_row_within_1_p0_i [] (.nil))
noncomputable def sp_row_within : Spec := ⟨130, ⟨[(0, .dat Yq8), kdI 1], []⟩, [⟨[kdB 0], []⟩], fun x => fn_row_within x.1 x.2⟩
theorem row_within_is : SpecOk Tryz.prog sp_row_within := fn_is func130 h_row_within (by kernel_rfl) (by kernel_rfl)
noncomputable def ok_row_within : OkSpec Tryz.prog := ⟨sp_row_within, row_within_is, call130⟩

noncomputable def fn_row_Check (xa : Tq3) (xb : Int) : Option Int :=
  cond (decide (16 < (xa.length : Int))) (some (6)) ((fn_row_within xa xb).bind fun t15 => cond (!t15) (some (7)) (some (0)))
noncomputable def h_row_Check : Hn Tryz.prog := .tw 8 (.nil) (.cl ok_row_within [] (.tw 12 (.nil) (.nil)))
noncomputable def sp_row_Check : Spec := ⟨109, ⟨[(0, .dat Yq8), kdI 1], []⟩, [⟨[kdI 0], []⟩], fun x => fn_row_Check x.1 x.2⟩
theorem row_Check_is : SpecOk Tryz.prog sp_row_Check := fn_is func109 h_row_Check (by kernel_rfl) (by kernel_rfl)
noncomputable def ok_row_Check : OkSpec Tryz.prog := ⟨sp_row_Check, row_Check_is, call109⟩
noncomputable def fn_valid_locals_az_l1 (xa : Tq1) : Int → Option (Int ⊕ (Unit ⊕ Tq8)) := fun (i297 : Int) => cond (decide (i297 < (xa.2.2.2.1.length : Int))) ((getI xa.2.2.2.1 i297).bind fun x328 => (fn_tick_Counter_Add_zii 1 1).bind fun _ => (fn_row_Check x328 xa.2.1).bind fun i349 => cond (!decide (i349 = 0)) (some (.inr ((.inr ((i349, 2, i297, 0)))))) (some (.inl (IntKind.wrap .i64 (i297 + 1))))) (some (.inr ((.inl ()))))
noncomputable def fn_valid_locals_az (xa : Tq1) : Option Tq8 :=
  cond (decide ((xa.2.2.2.1.length : Int) = 0)) (some ((14, 2, 0, 0))) (cond (decide (65536 < (xa.2.2.2.1.length : Int))) (some ((6, 2, 0, 0))) ((loop (fn_valid_locals_az_l1 xa) 0 : Option (Unit ⊕ Tq8)).bind fun o => match o with | .inr r => some r | .inl () => some ((0, 0, 0, 0))))
noncomputable def h_valid_locals_az : Hn Tryz.prog := .tw 11 (.nil) (.tw 16 (.nil) (.jx [] ⟨[], [bkC 2 140 [.lit (.int .i64 0), .lit (.int .i64 0), .lit (.int .i64 0), .lit (.int .i64 0)]]⟩ [2] (.lp ⟨[kdI 21], [bkC 2 140 [.lit (.int .i64 0), .lit (.int .i64 0), .lit (.int .i64 0), .lit (.int .i64 0)]]⟩ (.tw 22 (.cl ok_tick_Counter_Add_zii [] (.cl ok_row_Check [] (.tw 33 (.nil) (.nil)))) (.nil))) (.nil)))
noncomputable def sp_valid_locals_az : Spec := ⟨86, ⟨[(0, .dat Yq1), (1, .nilp)], []⟩, [⟨[(0, .agg [.dat Yq2, .dat Yq2, .dat Yq2, .dat Yq2])], []⟩], fun x => fn_valid_locals_az x⟩
theorem valid_locals_az_is : SpecOk Tryz.prog sp_valid_locals_az := fn_is func86 h_valid_locals_az (by kernel_rfl) (by kernel_rfl)
noncomputable def ok_valid_locals_az : OkSpec Tryz.prog := ⟨sp_valid_locals_az, valid_locals_az_is, call86⟩

noncomputable def fn_row_Shape_1 (xa : (Int × Bool)) (xb : (Int × Bool)) : Option Bool :=
  some (xa.2 == xb.2)
noncomputable def h_row_Shape_1 : Hn Tryz.prog := .nil
noncomputable def sp_row_Shape_1 : Spec := ⟨132, ⟨[(0, .dat Yq3), (1, .dat Yq3)], []⟩, [⟨[kdB 0], []⟩], fun x => fn_row_Shape_1 x.1 x.2⟩
theorem row_Shape_1_is : SpecOk Tryz.prog sp_row_Shape_1 := fn_is func132 h_row_Shape_1 (by kernel_rfl) (by kernel_rfl)
noncomputable def ok_row_Shape_1 : OkSpec Tryz.prog := ⟨sp_row_Shape_1, row_Shape_1_is, call132⟩
noncomputable def fn_slices_EqualFunc_api_Slot_api_Slot_api_Slot_api_Slot_kk_row_Shape_1_l1 (xa : Tq3) (xb : Tq3) : Int → Option (Int ⊕ (Unit ⊕ Bool)) := fun (i297 : Int) => cond (decide (i297 < (xa.length : Int))) ((getI xa i297).bind fun x329 => (getI xb i297).bind fun x339 => (fn_row_Shape_1 (x329.1, x329.2) (x339.1, x339.2)).bind fun t351 => cond (!t351) (some (.inr ((.inr (false))))) (some (.inl (IntKind.wrap .i64 (i297 + 1))))) (some (.inr ((.inl ()))))
noncomputable def fn_slices_EqualFunc_api_Slot_api_Slot_api_Slot_api_Slot_kk_row_Shape_1 (xa : Tq3) (xb : Tq3) : Option Bool :=
  cond (!decide ((xa.length : Int) = (xb.length : Int))) (some (false)) ((loop (fn_slices_EqualFunc_api_Slot_api_Slot_api_Slot_api_Slot_kk_row_Shape_1_l1 xa xb) 0 : Option (Unit ⊕ Bool)).bind fun o => match o with | .inr r => some r | .inl () => some (true))
noncomputable def h_slices_EqualFunc_api_Slot_api_Slot_api_Slot_api_Slot_kk_row_Shape_1 : Hn Tryz.prog := .tw 14 (.nil) (.jx [] ⟨[], []⟩ [] (.lp ⟨[kdI 17], []⟩ (.tw 18 (.cl ok_row_Shape_1 [] (.tw 30 (.nil) (.nil))) (.nil))) (.nil))
noncomputable def sp_slices_EqualFunc_api_Slot_api_Slot_api_Slot_api_Slot_kk_row_Shape_1 : Spec := ⟨131, ⟨[(0, .dat (.sl Yq3)), (1, .dat (.sl Yq3)), (2, .fn 132 [])], []⟩, [⟨[kdB 0], []⟩], fun x => fn_slices_EqualFunc_api_Slot_api_Slot_api_Slot_api_Slot_kk_row_Shape_1 x.1 x.2⟩
theorem slices_EqualFunc_api_Slot_api_Slot_api_Slot_api_Slot_kk_row_Shape_1_is : SpecOk Tryz.prog sp_slices_EqualFunc_api_Slot_api_Slot_api_Slot_api_Slot_kk_row_Shape_1 := fn_is func131 h_slices_EqualFunc_api_Slot_api_Slot_api_Slot_api_Slot_kk_row_Shape_1 (by kernel_rfl) (by kernel_rfl)
noncomputable def ok_slices_EqualFunc_api_Slot_api_Slot_api_Slot_api_Slot_kk_row_Shape_1 : OkSpec Tryz.prog := ⟨sp_slices_EqualFunc_api_Slot_api_Slot_api_Slot_api_Slot_kk_row_Shape_1, slices_EqualFunc_api_Slot_api_Slot_api_Slot_api_Slot_kk_row_Shape_1_is, call131⟩

noncomputable def fn_row_Shape (xa : Tq3) (xb : Tq3) : Option Bool :=
  (fn_slices_EqualFunc_api_Slot_api_Slot_api_Slot_api_Slot_kk_row_Shape_1 xa xb).bind fun t14 => some (t14)
noncomputable def h_row_Shape : Hn Tryz.prog := .cl ok_slices_EqualFunc_api_Slot_api_Slot_api_Slot_api_Slot_kk_row_Shape_1 [] (.nil)
noncomputable def sp_row_Shape : Spec := ⟨110, ⟨[(0, .dat Yq8), (1, .dat Yq8)], []⟩, [⟨[kdB 0], []⟩], fun x => fn_row_Shape x.1 x.2⟩
theorem row_Shape_is : SpecOk Tryz.prog sp_row_Shape := fn_is func110 h_row_Shape (by kernel_rfl) (by kernel_rfl)
noncomputable def ok_row_Shape : OkSpec Tryz.prog := ⟨sp_row_Shape, row_Shape_is, call110⟩

noncomputable def fn_valid_ret_az (xa : Tq1) : Option Tq8 :=
  (fn_row_Check xa.2.2.2.2.1 xa.1).bind fun i81 => cond (decide (i81 = 0)) ((getI xa.2.2.2.1 0).bind fun x129 => (fn_row_Shape xa.2.2.2.2.1 x129).bind fun t144 => cond (!t144) (some ((8, 3, 0, 0))) (some ((i81, 3, 0, 0)))) (some ((i81, 3, 0, 0)))
noncomputable def h_valid_ret_az : Hn Tryz.prog := .cl ok_row_Check [] (.mix [] [0, 1, 2, 3, 4, 5, 6, 7, 8, 9] [10, 11, 12] [] (.two 15 (.cl ok_row_Shape [] (.tw 24 (.nil) (.nil))) (.nil)))
noncomputable def sp_valid_ret_az : Spec := ⟨87, ⟨[(0, .dat Yq1), (1, .nilp)], []⟩, [⟨[(0, .agg [.dat Yq2, .dat Yq2, .dat Yq2, .dat Yq2])], []⟩], fun x => fn_valid_ret_az x⟩
theorem valid_ret_az_is : SpecOk Tryz.prog sp_valid_ret_az := fn_is func87 h_valid_ret_az (by kernel_rfl) (by kernel_rfl)
noncomputable def ok_valid_ret_az : OkSpec Tryz.prog := ⟨sp_valid_ret_az, valid_ret_az_is, call87⟩

noncomputable def fn_sig_Check_1_ip0_ikkk (xa : Int) (qa0 : Int) (qa1 : Tq5) (qa2 : (List Tq3)) (qa3 : Tq3) : Option Bool :=
  some ((decide (0 ≤ xa)) && (decide (xa < qa0)))
noncomputable def h_sig_Check_1_ip0_ikkk : Hn Tryz.prog := .gp 4 (.nil)
noncomputable def sp_sig_Check_1_ip0_ikkk : Spec := ⟨133, ⟨[kdI 0, (1, .ptr 0 0)], [bkN 50 [.is 1 (.dat Yq2), .is 2 (.dat Yq5), .is 3 (.dat (.sl Yq8)), .is 4 (.dat (.sl Yq3))], bkM, bkM, bkM, bkM]⟩, [⟨[kdB 0], [bkC 0 50 [.is 1 (.any), .is 2 (.any), .is 3 (.any), .is 4 (.any)], bkU 1, bkU 2, bkU 3, bkU 4]⟩], fun x => fn_sig_Check_1_ip0_ikkk x.1 x.2.1 x.2.2.1 x.2.2.2.1 x.2.2.2.2⟩
theorem sig_Check_1_ip0_ikkk_is : SpecOk Tryz.prog sp_sig_Check_1_ip0_ikkk := fn_is func133 h_sig_Check_1_ip0_ikkk (by kernel_rfl) (by kernel_rfl)
noncomputable def ok_sig_Check_1_ip0_ikkk : OkSpec Tryz.prog := ⟨sp_sig_Check_1_ip0_ikkk, sig_Check_1_ip0_ikkk_is, call133⟩
noncomputable def fn_sig_Check_l1 (xa : Tq12) : Int → Option (Int ⊕ (Unit ⊕ Int)) := fun (i509 : Int) => cond (decide (i509 < (xa.2.1.length : Int))) ((getI xa.2.1 i509).bind fun x546 => (fn_sig_Check_1_ip0_ikkk x546.1 xa.1 xa.2.1 xa.2.2.1 xa.2.2.2).bind fun t558 => (cond (!t558) (some (true)) ((fn_sig_Check_1_ip0_ikkk x546.2 xa.1 xa.2.1 xa.2.2.1 xa.2.2.2).bind fun t573 => some (!t573))).bind fun t569 => cond (t569) (some (.inr ((.inr (7))))) (some (.inl (IntKind.wrap .i64 (i509 + 1))))) (some (.inr ((.inl ()))))
noncomputable def fn_sig_Check_l2 (xa : Tq12) : Int → Option (Int ⊕ (Unit ⊕ Int)) := fun (i671 : Int) => cond (decide (i671 < (xa.2.2.1.length : Int))) ((getI xa.2.2.1 i671).bind fun x697 => (fn_row_Check x697 xa.1).bind fun i713 => cond (!decide (i713 = 0)) (some (.inr ((.inr (i713))))) (some (.inl (IntKind.wrap .i64 (i671 + 1))))) (some (.inr ((.inl ()))))
noncomputable def fn_sig_Check (xa : Tq12) : Option Int :=
  cond (decide (xa.1 < 0)) (some (7)) (cond (((decide (16 < xa.1)) || (decide (16 < (xa.2.1.length : Int)))) || (decide (16 < (xa.2.2.1.length : Int)))) (some (6)) ((loop (fn_sig_Check_l1 xa) 0 : Option (Unit ⊕ Int)).bind fun o => match o with | .inr r => some r | .inl () => (loop (fn_sig_Check_l2 xa) 0 : Option (Unit ⊕ Int)).bind fun o => match o with | .inr r => some r | .inl () => (fn_row_Check xa.2.2.2 xa.1).bind fun i720 => some (i720)))
noncomputable def h_sig_Check : Hn Tryz.prog := .tw 11 (.nil) (.gp 4 (.wt 21 (.gp 4 (.tw 26 (.nil) (.jx [(0, 0), (0, 1), (0, 2), (0, 3)] ⟨[], [bkC 0 50 [.is 1 (.any), .is 2 (.any), .is 3 (.any), .is 4 (.any)], bkU 2, bkU 3, bkU 4, bkU 5]⟩ [0] (.lp ⟨[kdI 31], [bkC 0 50 [.is 1 (.any), .is 2 (.any), .is 3 (.any), .is 4 (.any)], bkU 2, bkU 3, bkU 4, bkU 5]⟩ (.tw 32 (.cl ok_sig_Check_1_ip0_ikkk [] (.gj 5 ⟨[kdB 46], [bkC 0 50 [.is 1 (.any), .is 2 (.any), .is 3 (.any), .is 4 (.any)], bkU 2, bkU 3, bkU 4, bkU 5]⟩ [0] (.two 40 (.nil) (.cl ok_sig_Check_1_ip0_ikkk [] (.nil))) (.tw 46 (.nil) (.nil)))) (.nil))) (.jx [] ⟨[], []⟩ [] (.lp ⟨[kdI 51], []⟩ (.tw 52 (.cl ok_row_Check [] (.tw 60 (.nil) (.nil))) (.nil))) (.cl ok_row_Check [] (.nil))))))))
noncomputable def sp_sig_Check : Spec := ⟨111, ⟨[(0, .dat Yq9)], []⟩, [⟨[kdI 0], []⟩], fun x => fn_sig_Check x⟩
theorem sig_Check_is : SpecOk Tryz.prog sp_sig_Check := fn_is func111 h_sig_Check (by kernel_rfl) (by kernel_rfl)
noncomputable def ok_sig_Check : OkSpec Tryz.prog := ⟨sp_sig_Check, sig_Check_is, call111⟩
noncomputable def fn_valid_sigs_az_l1 (xa : Tq1) : Int → Option (Int ⊕ (Unit ⊕ Tq8)) := fun (i374 : Int) => cond (decide (i374 < (xa.2.2.2.2.2.1.length : Int))) ((getI xa.2.2.2.2.2.1 i374).bind fun x413 => (fn_tick_Counter_Add_zii 1 1).bind fun _ => (fn_sig_Check (x413.1, x413.2.1, x413.2.2.1, x413.2.2.2)).bind fun i442 => cond (!decide (i442 = 0)) (some (.inr ((.inr ((i442, 4, i374, 0)))))) (some (.inl (IntKind.wrap .i64 (i374 + 1))))) (some (.inr ((.inl ()))))
noncomputable def fn_valid_sigs_az (xa : Tq1) : Option Tq8 :=
  cond (decide (65536 < (xa.2.2.2.2.2.1.length : Int))) (some ((6, 4, 0, 0))) ((loop (fn_valid_sigs_az_l1 xa) 0 : Option (Unit ⊕ Tq8)).bind fun o => match o with | .inr r => some r | .inl () => some ((0, 0, 0, 0)))
noncomputable def h_valid_sigs_az : Hn Tryz.prog := .tw 11 (.nil) (.jx [] ⟨[], [bkC 2 140 [.lit (.int .i64 0), .lit (.int .i64 0), .lit (.int .i64 0), .lit (.int .i64 0)]]⟩ [2, 0] (.lp ⟨[kdI 16], [bkC 2 140 [.lit (.int .i64 0), .lit (.int .i64 0), .lit (.int .i64 0), .lit (.int .i64 0)]]⟩ (.tw 17 (.cl ok_tick_Counter_Add_zii [] (.cl ok_sig_Check [] (.tw 26 (.nil) (.nil)))) (.nil))) (.nil))
noncomputable def sp_valid_sigs_az : Spec := ⟨88, ⟨[(0, .dat Yq1), (1, .nilp)], []⟩, [⟨[(0, .agg [.dat Yq2, .dat Yq2, .dat Yq2, .dat Yq2])], []⟩], fun x => fn_valid_sigs_az x⟩
theorem valid_sigs_az_is : SpecOk Tryz.prog sp_valid_sigs_az := fn_is func88 h_valid_sigs_az (by kernel_rfl) (by kernel_rfl)
noncomputable def ok_valid_sigs_az : OkSpec Tryz.prog := ⟨sp_valid_sigs_az, valid_sigs_az_is, call88⟩
noncomputable def fn_valid_blocks_az_l1 (xa : Tq1) : (Int × Int) → Option ((Int × Int) ⊕ (Unit ⊕ Tq8)) := fun ((i366, i367) : (Int × Int)) => cond (decide (i367 < (xa.2.2.2.2.2.2.length : Int))) ((getI xa.2.2.2.2.2.2 i367).bind fun x405 => (fn_tick_Counter_Add_zii 1 1).bind fun _ => cond (decide (65536 < (IntKind.wrap .i64 (i366 + (x405.1.length : Int))))) (some (.inr ((.inr ((6, 5, i367, 0)))))) (some (.inl ((IntKind.wrap .i64 (i366 + (x405.1.length : Int)), IntKind.wrap .i64 (i367 + 1)))))) (some (.inr ((.inl ()))))
noncomputable def fn_valid_blocks_az (xa : Tq1) : Option Tq8 :=
  cond (decide ((xa.2.2.2.2.2.2.length : Int) = 0)) (some ((14, 5, 0, 0))) (cond (decide (65536 < (xa.2.2.2.2.2.2.length : Int))) (some ((6, 5, 0, 0))) ((loop (fn_valid_blocks_az_l1 xa) (0, 0) : Option (Unit ⊕ Tq8)).bind fun o => match o with | .inr r => some r | .inl () => some ((0, 0, 0, 0))))
noncomputable def h_valid_blocks_az : Hn Tryz.prog := .tw 11 (.nil) (.tw 16 (.nil) (.jx [] ⟨[], [bkC 2 140 [.lit (.int .i64 0), .lit (.int .i64 0), .lit (.int .i64 0), .lit (.int .i64 0)]]⟩ [2, 0] (.lp ⟨[kdI 5, kdI 21], [bkC 2 140 [.lit (.int .i64 0), .lit (.int .i64 0), .lit (.int .i64 0), .lit (.int .i64 0)]]⟩ (.tw 22 (.cl ok_tick_Counter_Add_zii [] (.tw 34 (.nil) (.nil))) (.nil))) (.nil)))
noncomputable def sp_valid_blocks_az : Spec := ⟨89, ⟨[(0, .dat Yq1), (1, .nilp)], []⟩, [⟨[(0, .agg [.dat Yq2, .dat Yq2, .dat Yq2, .dat Yq2])], []⟩], fun x => fn_valid_blocks_az x⟩
theorem valid_blocks_az_is : SpecOk Tryz.prog sp_valid_blocks_az := fn_is func89 h_valid_blocks_az (by kernel_rfl) (by kernel_rfl)
noncomputable def ok_valid_blocks_az : OkSpec Tryz.prog := ⟨sp_valid_blocks_az, valid_blocks_az_is, call89⟩

noncomputable def fn_stmt_fieldsOf (xa : Int) : Option (Bool × Bool × Bool × Bool) :=
  cond (decide (xa = 0)) (some ((false, false, false, true))) (cond (decide (xa = 1)) (some ((true, true, false, true))) ((cond (decide (xa = 2)) (some (decide (xa = 2))) (some (decide (xa = 3))) : Option Bool).bind fun t18 => cond (t18) (some ((true, true, true, true))) (cond (decide (xa = 4)) (some ((false, true, false, true))) (cond (decide (xa = 5)) (some ((true, false, false, true))) (some ((false, false, false, false)))))))
noncomputable def h_stmt_fieldsOf : Hn Tryz.prog := .tw 5 (.nil) (.tw 8 (.nil) (.sq [] ⟨[kdB 11], []⟩ [] (.tw 11 (.nil) (.nil)) (.tw 11 (.nil) (.tw 15 (.nil) (.tw 18 (.nil) (.nil))))))
noncomputable def sp_stmt_fieldsOf : Spec := ⟨151, ⟨[kdI 0], []⟩, [⟨[(0, .tup [.agg [.dat .bool, .dat .bool, .dat .bool], .dat .bool])], []⟩], fun x => fn_stmt_fieldsOf x⟩
theorem stmt_fieldsOf_is : SpecOk Tryz.prog sp_stmt_fieldsOf := fn_is func151 h_stmt_fieldsOf (by kernel_rfl) (by kernel_rfl)
noncomputable def ok_stmt_fieldsOf : OkSpec Tryz.prog := ⟨sp_stmt_fieldsOf, stmt_fieldsOf_is, call151⟩

noncomputable def fn_stmt_own (xa : Tq4) (xb : (Bool × Bool × Bool)) : Option Tq4 :=
  (cond (xb.1) (some (xa.2.1)) (some (0)) : Option Int).bind fun i22 => (cond (xb.2.1) (some (xa.2.2.1)) (some (0)) : Option Int).bind fun i25 => cond (xb.2.2) (some ((xa.1, i22, i25, xa.2.2.2.1, xa.2.2.2.2))) (some ((xa.1, i22, i25, 0, false)))
noncomputable def h_stmt_own : Hn Tryz.prog := .pl (.pl (.sq [(6, 0)] ⟨[], [bkC 6 57 [.is 1 (.any), .dat Yq2, .lit (.int .i64 0), .lit (.int .i64 0), .lit (.bool false)], bkU 9]⟩ [6] (.tw 10 (.nil) (.nil)) (.sq [(6, 1)] ⟨[], [bkC 6 57 [.is 1 (.any), .is 2 (.any), .dat Yq2, .lit (.int .i64 0), .lit (.bool false)], bkU 9, bkU 11]⟩ [6] (.tw 15 (.nil) (.nil)) (.tw 20 (.mix [([0, 1, 2, 3, 4], 5)] [6] [7] [6] (.nil)) (.nil)))))
noncomputable def sp_stmt_own : Spec := ⟨152, ⟨[(0, .dat Yq6), (1, .dat (.cons .bool (.cons .bool (.one .bool))))], []⟩, [⟨[(0, .agg [.dat Yq2, .dat Yq2, .dat Yq2, .dat Yq2, .dat .bool])], []⟩], fun x => fn_stmt_own x.1 x.2⟩
theorem stmt_own_is : SpecOk Tryz.prog sp_stmt_own := fn_is func152 h_stmt_own (by kernel_rfl) (by kernel_rfl)
noncomputable def ok_stmt_own : OkSpec Tryz.prog := ⟨sp_stmt_own, stmt_own_is, call152⟩

noncomputable def fn_stmt_form (xa : Tq4) : Option (Bool × Bool × Bool × Int) :=
  (fn_stmt_fieldsOf xa.1).bind fun (t67, t68, t69, t70) => cond (!t70) (some ((false, false, false, 3))) ((fn_stmt_own (xa.1, xa.2.1, xa.2.2.1, xa.2.2.2.1, xa.2.2.2.2) (t67, t68, t69)).bind fun (i111, i112, i113, i114, t115) => cond (!((decide (xa.1 = i111)) && ((decide (xa.2.1 = i112)) && ((decide (xa.2.2.1 = i113)) && ((decide (xa.2.2.2.1 = i114)) && (xa.2.2.2.2 == t115)))))) (some ((false, false, false, 3))) (some ((t67, t68, t69, 0))))
noncomputable def h_stmt_form : Hn Tryz.prog := .cl ok_stmt_fieldsOf [] (.mix [([0, 1, 2, 3, 4, 5], 6)] [7, 8] [] [] (.two 14 (.nil) (.cl ok_stmt_own [] (.tw 20 (.nil) (.nil)))))
noncomputable def sp_stmt_form : Spec := ⟨142, ⟨[(0, .dat Yq6)], []⟩, [⟨[(0, .tup [.agg [.dat .bool, .dat .bool, .dat .bool], .dat Yq2])], []⟩], fun x => fn_stmt_form x⟩
theorem stmt_form_is : SpecOk Tryz.prog sp_stmt_form := fn_is func142 h_stmt_form (by kernel_rfl) (by kernel_rfl)
noncomputable def ok_stmt_form : OkSpec Tryz.prog := ⟨sp_stmt_form, stmt_form_is, call142⟩

noncomputable def fn_stmt_Needs_1_ip0_k (xa : Int) (qa0 : (List Tq3)) : Option Bool :=
  some ((decide (0 ≤ xa)) && (decide (xa < (qa0.length : Int))))
noncomputable def h_stmt_Needs_1_ip0_k : Hn Tryz.prog := .gp 4 (.nil)
noncomputable def sp_stmt_Needs_1_ip0_k : Spec := ⟨143, ⟨[kdI 0, (1, .ptr 0 0)], [bkN 23 [.is 1 (.dat (.sl Yq8))], bkM]⟩, [⟨[kdB 0], [bkC 0 23 [.is 1 (.any)], bkU 1]⟩], fun x => fn_stmt_Needs_1_ip0_k x.1 x.2⟩
theorem stmt_Needs_1_ip0_k_is : SpecOk Tryz.prog sp_stmt_Needs_1_ip0_k := fn_is func143 h_stmt_Needs_1_ip0_k (by kernel_rfl) (by kernel_rfl)
noncomputable def ok_stmt_Needs_1_ip0_k : OkSpec Tryz.prog := ⟨sp_stmt_Needs_1_ip0_k, stmt_Needs_1_ip0_k_is, call143⟩
noncomputable def fn_relate_related_l1 (xa : Tq3) (xb : Tq3) (xc : Int) (xd : Int) : Tq16 → Option (Tq16 ⊕ (List Tq4)) := fun ((l2000, i2005) : Tq16) => cond (decide (i2005 < (xa.length : Int))) ((getI xa i2005).bind fun x2269 => (getI xb i2005).bind fun x2278 => (app l2000 (([(x2269.1, x2278.1, xc, IntKind.wrap .i64 (xd + i2005), false)] : List Tq4))).bind fun z2290 => (getI xb i2005).bind fun x2296 => cond (x2296.2) ((getI xb i2005).bind fun x2369 => (getI xa i2005).bind fun x2378 => (app z2290 (([(x2369.1, x2378.1, xc, IntKind.wrap .i64 (xd + i2005), true)] : List Tq4))).bind fun z2390 => some (.inl ((z2390, IntKind.wrap .i64 (i2005 + 1))))) (some (.inl ((z2290, IntKind.wrap .i64 (i2005 + 1)))))) (some (.inr (l2000)))
noncomputable def fn_relate_related (xa : Tq3) (xb : Tq3) (xc : Int) (xd : Int) : Option ((List Tq4)) :=
  (loop (fn_relate_related_l1 xa xb xc xd) ([], 0) : Option ((List Tq4))).bind fun l1796 => some (l1796)
noncomputable def h_relate_related : Hn Tryz.prog := .jn [] ⟨[(9, .own 213 Yq6)], []⟩ [] (.lp ⟨[(9, .own 213 Yq6), kdI 13], []⟩ (.tw 14 (.mix [([0, 1, 2, 3, 4, 5, 6, 7, 8, 9, 10, 11, 12, 13, 14, 15], 16)] [] [17, 18] [] (.tw 38 (.mix [([0, 1, 2, 3, 4, 5, 6, 7, 8, 9, 10, 11, 12, 13, 14, 15], 16)] [] [17, 18] [] (.nil)) (.nil))) (.nil))) (.nil)
noncomputable def sp_relate_related : Spec := ⟨153, ⟨[(0, .dat (.sl Yq3)), (1, .dat (.sl Yq3)), kdI 2, kdI 3], []⟩, [⟨[(0, .own 213 Yq6)], []⟩], fun x => fn_relate_related x.1 x.2.1 x.2.2.1 x.2.2.2⟩
theorem relate_related_is : SpecOk Tryz.prog sp_relate_related := fn_is func153 h_relate_related (by kernel_rfl) (by kernel_rfl)
noncomputable def ok_relate_related : OkSpec Tryz.prog := ⟨sp_relate_related, relate_related_is, call153⟩

noncomputable def fn_relate_Flow (xa : Tq3) (xb : Tq3) (xc : Int) (xd : Int) : Option (Tq16) :=
  (fn_row_Shape xa xb).bind fun t30 => cond (!t30) (some (([], 8))) ((fn_relate_related xa xb xc xd).bind fun l38 => some ((l38, 0)))
noncomputable def h_relate_Flow : Hn Tryz.prog := .cl ok_row_Shape [] (.tw 13 (.nil) (.cl ok_relate_related [] (.nil)))
noncomputable def sp_relate_Flow : Spec := ⟨144, ⟨[(0, .dat Yq8), (1, .dat Yq8), kdI 2, kdI 3], []⟩, [⟨[(0, .tup [.own 213 Yq6, .dat Yq2])], []⟩], fun x => fn_relate_Flow x.1 x.2.1 x.2.2.1 x.2.2.2⟩
theorem relate_Flow_is : SpecOk Tryz.prog sp_relate_Flow := fn_is func144 h_relate_Flow (by kernel_rfl) (by kernel_rfl)
noncomputable def ok_relate_Flow : OkSpec Tryz.prog := ⟨sp_relate_Flow, relate_Flow_is, call144⟩
noncomputable def fn_row_Ref_l1 (xa : Tq3) (xc : Bool) : (Tq3 × Int) → Option ((Tq3 × Int) ⊕ Tq3) := fun ((l430, i435) : (Tq3 × Int)) => cond (decide (i435 < (xa.length : Int))) ((getI xa i435).bind fun x467 => (app l430 (([(x467.1, x467.2 || xc)] : List (Int × Bool)))).bind fun z483 => some (.inl ((z483, IntKind.wrap .i64 (i435 + 1))))) (some (.inr (l430)))
noncomputable def fn_row_Ref (xa : Tq3) (xb : Int) (xc : Bool) : Option (Tq3) :=
  (loop (fn_row_Ref_l1 xa xc) ((([(xb, false)] : List (Int × Bool)), 0)) : Option (Tq3)).bind fun l396 => some (l396)
noncomputable def h_row_Ref : Hn Tryz.prog := .jn [] ⟨[(7, .own 176 Yq3), (12, .any)], []⟩ [4, 0] (.lp ⟨[(7, .own 176 Yq3), kdI 16], []⟩ (.tw 17 (.gp 1 (.nil)) (.nil))) (.nil)
noncomputable def sp_row_Ref : Spec := ⟨154, ⟨[(0, .dat Yq8), kdI 1, kdB 2], []⟩, [⟨[(0, .agg [.own 176 Yq3])], []⟩], fun x => fn_row_Ref x.1 x.2.1 x.2.2⟩
theorem row_Ref_is : SpecOk Tryz.prog sp_row_Ref := fn_is func154 h_row_Ref (by kernel_rfl) (by kernel_rfl)
noncomputable def ok_row_Ref : OkSpec Tryz.prog := ⟨sp_row_Ref, row_Ref_is, call154⟩

noncomputable def fn_relate_Loan (xa : Tq3) (xb : Tq3) (xc : Int) (xd : Bool) : Option (Tq16) :=
  (fn_row_Ref xa xc xd).bind fun l175 => (fn_row_Shape xb l175).bind fun t188 => cond (!t188) (some (([], 8))) ((getI xb 0).bind fun x194 => (subL xb 1 (xb.length : Int)).bind fun y254 => (fn_relate_related xa y254 1 1).bind fun l262 => (app (([(xc, x194.1, 2, 0, false)] : List Tq4)) l262).bind fun z270 => some ((z270, 0)))
noncomputable def h_relate_Loan : Hn Tryz.prog := .mix [([0, 1, 2, 3], 4)] [] [5, 6] [] (.cl ok_row_Ref [] (.cl ok_row_Shape [4] (.tw 17 (.nil) (.mix [([0, 1, 2, 3, 4, 5], 6)] [] [7, 8, 9] [] (.cl ok_relate_related [] (.nil))))))
noncomputable def sp_relate_Loan : Spec := ⟨145, ⟨[(0, .dat Yq8), (1, .dat Yq8), kdI 2, kdB 3], []⟩, [⟨[(0, .tup [.own 213 Yq6, .dat Yq2])], []⟩], fun x => fn_relate_Loan x.1 x.2.1 x.2.2.1 x.2.2.2⟩
theorem relate_Loan_is : SpecOk Tryz.prog sp_relate_Loan := fn_is func145 h_relate_Loan (by kernel_rfl) (by kernel_rfl)
noncomputable def ok_relate_Loan : OkSpec Tryz.prog := ⟨sp_relate_Loan, relate_Loan_is, call145⟩

noncomputable def fn_relate_mayBorrowAgain_1 (xa : (Int × Bool)) : Option Bool :=
  some (!xa.2)
noncomputable def h_relate_mayBorrowAgain_1 : Hn Tryz.prog := .nil
noncomputable def sp_relate_mayBorrowAgain_1 : Spec := ⟨161, ⟨[(0, .dat Yq3)], []⟩, [⟨[kdB 0], []⟩], fun x => fn_relate_mayBorrowAgain_1 x⟩
theorem relate_mayBorrowAgain_1_is : SpecOk Tryz.prog sp_relate_mayBorrowAgain_1 := fn_is func161 h_relate_mayBorrowAgain_1 (by kernel_rfl) (by kernel_rfl)
noncomputable def ok_relate_mayBorrowAgain_1 : OkSpec Tryz.prog := ⟨sp_relate_mayBorrowAgain_1, relate_mayBorrowAgain_1_is, call161⟩
noncomputable def fn_slices_IndexFunc_api_Slot_api_Slot_k_relate_mayBorrowAgain_1_l1 (xa : Tq3) : Int → Option (Int ⊕ (Unit ⊕ Int)) := fun (i185 : Int) => cond (decide (i185 < (xa.length : Int))) ((getI xa i185).bind fun x206 => (fn_relate_mayBorrowAgain_1 (x206.1, x206.2)).bind fun t217 => cond (t217) (some (.inr ((.inr (i185))))) (some (.inl (IntKind.wrap .i64 (i185 + 1))))) (some (.inr ((.inl ()))))
noncomputable def fn_slices_IndexFunc_api_Slot_api_Slot_k_relate_mayBorrowAgain_1 (xa : Tq3) : Option Int :=
  (loop (fn_slices_IndexFunc_api_Slot_api_Slot_k_relate_mayBorrowAgain_1_l1 xa) 0 : Option (Unit ⊕ Int)).bind fun o => match o with | .inr r => some r | .inl () => some ((-1))
noncomputable def h_slices_IndexFunc_api_Slot_api_Slot_k_relate_mayBorrowAgain_1 : Hn Tryz.prog := .jx [] ⟨[], []⟩ [] (.lp ⟨[kdI 8], []⟩ (.tw 9 (.cl ok_relate_mayBorrowAgain_1 [] (.tw 16 (.nil) (.nil))) (.nil))) (.nil)
noncomputable def sp_slices_IndexFunc_api_Slot_api_Slot_k_relate_mayBorrowAgain_1 : Spec := ⟨150, ⟨[(0, .dat (.sl Yq3)), (1, .fn 161 [])], []⟩, [⟨[kdI 0], []⟩], fun x => fn_slices_IndexFunc_api_Slot_api_Slot_k_relate_mayBorrowAgain_1 x⟩
theorem slices_IndexFunc_api_Slot_api_Slot_k_relate_mayBorrowAgain_1_is : SpecOk Tryz.prog sp_slices_IndexFunc_api_Slot_api_Slot_k_relate_mayBorrowAgain_1 := fn_is func150 h_slices_IndexFunc_api_Slot_api_Slot_k_relate_mayBorrowAgain_1 (by kernel_rfl) (by kernel_rfl)
noncomputable def ok_slices_IndexFunc_api_Slot_api_Slot_k_relate_mayBorrowAgain_1 : OkSpec Tryz.prog := ⟨sp_slices_IndexFunc_api_Slot_api_Slot_k_relate_mayBorrowAgain_1, slices_IndexFunc_api_Slot_api_Slot_k_relate_mayBorrowAgain_1_is, call150⟩

noncomputable def fn_slices_ContainsFunc_api_Slot_api_Slot_k_relate_mayBorrowAgain_1 (xa : Tq3) : Option Bool :=
  (fn_slices_IndexFunc_api_Slot_api_Slot_k_relate_mayBorrowAgain_1 xa).bind fun i10 => some (decide (0 ≤ i10))
noncomputable def h_slices_ContainsFunc_api_Slot_api_Slot_k_relate_mayBorrowAgain_1 : Hn Tryz.prog := .cl ok_slices_IndexFunc_api_Slot_api_Slot_k_relate_mayBorrowAgain_1 [] (.nil)
noncomputable def sp_slices_ContainsFunc_api_Slot_api_Slot_k_relate_mayBorrowAgain_1 : Spec := ⟨140, ⟨[(0, .dat (.sl Yq3)), (1, .fn 161 [])], []⟩, [⟨[kdB 0], []⟩], fun x => fn_slices_ContainsFunc_api_Slot_api_Slot_k_relate_mayBorrowAgain_1 x⟩
theorem slices_ContainsFunc_api_Slot_api_Slot_k_relate_mayBorrowAgain_1_is : SpecOk Tryz.prog sp_slices_ContainsFunc_api_Slot_api_Slot_k_relate_mayBorrowAgain_1 := fn_is func140 h_slices_ContainsFunc_api_Slot_api_Slot_k_relate_mayBorrowAgain_1 (by kernel_rfl) (by kernel_rfl)
noncomputable def ok_slices_ContainsFunc_api_Slot_api_Slot_k_relate_mayBorrowAgain_1 : OkSpec Tryz.prog := ⟨sp_slices_ContainsFunc_api_Slot_api_Slot_k_relate_mayBorrowAgain_1, slices_ContainsFunc_api_Slot_api_Slot_k_relate_mayBorrowAgain_1_is, call140⟩

noncomputable def fn_relate_mayBorrowAgain (xa : Tq3) (xb : Tq3) (xc : Bool) : Option Bool :=
  (cond (decide ((xa.length : Int) = 0)) (some (true)) ((getI xa 0).bind fun x70 => some (x70.2))).bind fun t68 => (cond (t68) (some (true)) ((fn_row_Shape xa xb).bind fun t90 => some (!t90))).bind fun t86 => cond (t86) (some (false)) ((subL xa 1 (xa.length : Int)).bind fun y95 => (fn_slices_ContainsFunc_api_Slot_api_Slot_k_relate_mayBorrowAgain_1 y95).bind fun t103 => some ((!xc) || (!t103)))
noncomputable def h_relate_mayBorrowAgain : Hn Tryz.prog := .gj 5 ⟨[kdB 18], []⟩ [] (.two 12 (.nil) (.nil)) (.wt 19 (.gj 4 ⟨[kdB 24], []⟩ [] (.two 19 (.nil) (.cl ok_row_Shape [] (.nil))) (.tw 24 (.nil) (.cl ok_slices_ContainsFunc_api_Slot_api_Slot_k_relate_mayBorrowAgain_1 [] (.gp 2 (.nil))))))
noncomputable def sp_relate_mayBorrowAgain : Spec := ⟨155, ⟨[(0, .dat Yq8), (1, .dat Yq8), kdB 2], []⟩, [⟨[kdB 0], []⟩], fun x => fn_relate_mayBorrowAgain x.1 x.2.1 x.2.2⟩
theorem relate_mayBorrowAgain_is : SpecOk Tryz.prog sp_relate_mayBorrowAgain := fn_is func155 h_relate_mayBorrowAgain (by kernel_rfl) (by kernel_rfl)
noncomputable def ok_relate_mayBorrowAgain : OkSpec Tryz.prog := ⟨sp_relate_mayBorrowAgain, relate_mayBorrowAgain_is, call155⟩

noncomputable def fn_relate_Again (xa : Tq3) (xb : Tq3) (xc : Int) (xd : Bool) : Option (Tq16) :=
  (fn_relate_mayBorrowAgain xa xb xd).bind fun t198 => cond (!t198) (some (([], 8))) ((getI xa 0).bind fun x267 => (getI xb 0).bind fun x276 => (subL xa 1 (xa.length : Int)).bind fun y354 => (subL xb 1 (xb.length : Int)).bind fun y360 => (fn_relate_related y354 y360 1 1).bind fun l368 => (app (([(x267.1, xc, 3, 0, false), (xc, x276.1, 2, 0, false)] : List Tq4)) l368).bind fun z376 => some ((z376, 0)))
noncomputable def h_relate_Again : Hn Tryz.prog := .cl ok_relate_mayBorrowAgain [] (.tw 15 (.nil) (.mix [([0, 1, 2, 3, 4, 5, 6, 7, 8, 9, 10, 11, 12, 13], 14)] [15] [] [] (.mix [([0, 1, 2, 3, 4, 5, 6], 7)] [] [8, 9, 10] [] (.cl ok_relate_related [] (.nil)))))
noncomputable def sp_relate_Again : Spec := ⟨146, ⟨[(0, .dat Yq8), (1, .dat Yq8), kdI 2, kdB 3], []⟩, [⟨[(0, .tup [.own 213 Yq6, .dat Yq2])], []⟩], fun x => fn_relate_Again x.1 x.2.1 x.2.2.1 x.2.2.2⟩
theorem relate_Again_is : SpecOk Tryz.prog sp_relate_Again := fn_is func146 h_relate_Again (by kernel_rfl) (by kernel_rfl)
noncomputable def ok_relate_Again : OkSpec Tryz.prog := ⟨sp_relate_Again, relate_Again_is, call146⟩

noncomputable def fn_stmt_Needs (xa : Tq4) (xb : (List Tq3)) (xc : Int) : Option (Tq16) :=
  (fn_stmt_form (xa.1, xa.2.1, xa.2.2.1, xa.2.2.2.1, xa.2.2.2.2)).bind fun (t542, t543, t544, i545) => cond (!decide (i545 = 0)) (some (([], i545))) ((cond (t542) ((fn_stmt_Needs_1_ip0_k xa.2.1 xb).bind fun t563 => some (!t563)) (some (false))).bind fun t559 => (cond (t559) (some (true)) ((cond (t543) ((fn_stmt_Needs_1_ip0_k xa.2.2.1 xb).bind fun t596 => some (!t596)) (some (false))).bind fun t592 => some (t592))).bind fun t583 => cond (t583 || (t544 && ((decide (xa.2.2.2.1 < 0)) || (decide (xc ≤ xa.2.2.2.1))))) (some (([], 7))) (cond (decide (xa.1 = 1)) ((getI xb xa.2.2.1).bind fun x735 => (getI xb xa.2.1).bind fun x748 => (fn_relate_Flow x735 x748 1 0).bind fun (l763, i764) => some ((l763, i764))) (cond (decide (xa.1 = 2)) ((getI xb xa.2.2.1).bind fun x884 => (getI xb xa.2.1).bind fun x897 => (fn_relate_Loan x884 x897 xa.2.2.2.1 xa.2.2.2.2).bind fun (l912, i913) => some ((l912, i913))) (cond (decide (xa.1 = 3)) ((getI xb xa.2.2.1).bind fun x1033 => (getI xb xa.2.1).bind fun x1046 => (fn_relate_Again x1033 x1046 xa.2.2.2.1 xa.2.2.2.2).bind fun (l1061, i1062) => some ((l1061, i1062))) (some (([], 0)))))))
noncomputable def h_stmt_Needs : Hn Tryz.prog := .cl ok_stmt_form [] (.tw 17 (.nil) (.mc 2 0 3 (.gj 5 ⟨[kdB 28], [bkC 2 23 [.is 1 (.any)], bkU 7]⟩ [2] (.two 22 (.cl ok_stmt_Needs_1_ip0_k [] (.nil)) (.nil)) (.wt 29 (.gj 9 ⟨[kdB 39], [bkC 2 23 [.is 1 (.any)], bkU 7]⟩ [2] (.two 29 (.nil) (.wt 32 (.gj 5 ⟨[kdB 38], [bkC 2 23 [.is 1 (.any)], bkU 7]⟩ [2] (.two 32 (.cl ok_stmt_Needs_1_ip0_k [] (.nil)) (.nil)) (.nil)))) (.wt 40 (.gp 13 (.tw 54 (.nil) (.tw 57 (.mix [([0, 1, 2, 3, 4, 5, 6, 7, 8, 9], 10)] [11, 12, 13, 14] [] [] (.cl ok_relate_Flow [] (.nil))) (.tw 72 (.mix [([0, 1, 2, 3, 4, 5, 6, 7, 8, 9, 10, 11, 12, 13], 14)] [15, 16, 17, 18] [] [] (.cl ok_relate_Loan [] (.nil))) (.tw 91 (.mix [([0, 1, 2, 3, 4, 5, 6, 7, 8, 9, 10, 11, 12, 13], 14)] [15, 16, 17, 18] [] [] (.cl ok_relate_Again [] (.nil))) (.nil))))))))))))
noncomputable def sp_stmt_Needs : Spec := ⟨134, ⟨[(0, .dat Yq6), (1, .dat (.sl Yq8)), kdI 2], []⟩, [⟨[(0, .tup [.own 213 Yq6, .dat Yq2])], []⟩], fun x => fn_stmt_Needs x.1 x.2.1 x.2.2⟩
theorem stmt_Needs_is : SpecOk Tryz.prog sp_stmt_Needs := fn_is func134 h_stmt_Needs (by kernel_rfl) (by kernel_rfl)
noncomputable def ok_stmt_Needs : OkSpec Tryz.prog := ⟨sp_stmt_Needs, stmt_Needs_is, call134⟩

noncomputable def fn_stmt_Check (xa : Tq4) (xb : (List Tq3)) (xc : Int) : Option Int :=
  (fn_stmt_Needs (xa.1, xa.2.1, xa.2.2.1, xa.2.2.2.1, xa.2.2.2.2) xb xc).bind fun (l17, i18) => some (i18)
noncomputable def h_stmt_Check : Hn Tryz.prog := .cl ok_stmt_Needs [] (.nil)
noncomputable def sp_stmt_Check : Spec := ⟨112, ⟨[(0, .dat Yq6), (1, .dat (.sl Yq8)), kdI 2], []⟩, [⟨[kdI 0], []⟩], fun x => fn_stmt_Check x.1 x.2.1 x.2.2⟩
theorem stmt_Check_is : SpecOk Tryz.prog sp_stmt_Check := fn_is func112 h_stmt_Check (by kernel_rfl) (by kernel_rfl)
noncomputable def ok_stmt_Check : OkSpec Tryz.prog := ⟨sp_stmt_Check, stmt_Check_is, call112⟩

noncomputable def fn_term_calls (xa : Tq6) : Option Bool :=
  some (((!decide (xa.2.1 = 0)) || (!decide (xa.2.2.1 = 0))) || (decide (0 < (xa.2.2.2.2.2.length : Int))))
noncomputable def h_term_calls : Hn Tryz.prog := .gp 3 (.wt 11 (.gp 4 (.nil)))
noncomputable def sp_term_calls : Spec := ⟨156, ⟨[(0, .dat Yq10)], []⟩, [⟨[kdB 0], []⟩], fun x => fn_term_calls x⟩
theorem term_calls_is : SpecOk Tryz.prog sp_term_calls := fn_is func156 h_term_calls (by kernel_rfl) (by kernel_rfl)
noncomputable def ok_term_calls : OkSpec Tryz.prog := ⟨sp_term_calls, term_calls_is, call156⟩

noncomputable def fn_term_form (xa : Tq6) : Option Int :=
  (cond (decide (xa.1 = 1)) ((cond ((decide ((xa.2.2.2.1.length : Int) = 1)) && (decide ((xa.2.2.2.2.1.length : Int) = 0))) ((fn_term_calls (xa.1, xa.2.1, xa.2.2.1, xa.2.2.2.1, xa.2.2.2.2.1, xa.2.2.2.2.2)).bind fun t194 => some (!t194)) (some (false))).bind fun t190 => some (t190)) (cond (decide (xa.1 = 2)) ((cond (decide (0 < (xa.2.2.2.1.length : Int))) ((fn_term_calls (xa.1, xa.2.1, xa.2.2.1, xa.2.2.2.1, xa.2.2.2.2.1, xa.2.2.2.2.2)).bind fun t210 => some (!t210)) (some (false))).bind fun t206 => some (t206)) (cond (decide (xa.1 = 3)) ((cond ((decide ((xa.2.2.2.1.length : Int) = 0)) && (decide ((xa.2.2.2.2.1.length : Int) = 0))) ((fn_term_calls (xa.1, xa.2.1, xa.2.2.1, xa.2.2.2.1, xa.2.2.2.2.1, xa.2.2.2.2.2)).bind fun t229 => some (!t229)) (some (false))).bind fun t225 => some (t225)) (cond (decide (xa.1 = 4)) (some (decide ((xa.2.2.2.1.length : Int) = 1))) (some (false))))) : Option Bool).bind fun t178 => cond (!t178) (some (3)) (cond (((decide (16 < (xa.2.2.2.1.length : Int))) || (decide (16 < (xa.2.2.2.2.1.length : Int)))) || (decide (16 < (xa.2.2.2.2.2.length : Int)))) (some (6)) (some (0)))
noncomputable def h_term_form : Hn Tryz.prog := .pl (.pl (.sq [] ⟨[kdB 3], []⟩ [] (.tw 6 (.gp 4 (.wt 18 (.gj 3 ⟨[kdB 22], []⟩ [] (.two 18 (.cl ok_term_calls [] (.nil)) (.nil)) (.nil)))) (.tw 23 (.gj 3 ⟨[kdB 33], []⟩ [] (.two 29 (.cl ok_term_calls [] (.nil)) (.nil)) (.nil)) (.tw 34 (.gp 4 (.wt 46 (.gj 3 ⟨[kdB 50], []⟩ [] (.two 46 (.cl ok_term_calls [] (.nil)) (.nil)) (.nil)))) (.tw 51 (.nil) (.nil))))) (.tw 58 (.nil) (.gp 4 (.wt 69 (.gp 4 (.tw 74 (.nil) (.nil))))))))
noncomputable def sp_term_form : Spec := ⟨147, ⟨[(0, .dat Yq10)], []⟩, [⟨[kdI 0], []⟩], fun x => fn_term_form x⟩
theorem term_form_is : SpecOk Tryz.prog sp_term_form := fn_is func147 h_term_form (by kernel_rfl) (by kernel_rfl)
noncomputable def ok_term_form : OkSpec Tryz.prog := ⟨sp_term_form, term_form_is, call147⟩

noncomputable def fn_term_beyond (xa : Int) : Option Int :=
  some (xa)
noncomputable def h_term_beyond : Hn Tryz.prog := .nil
noncomputable def sp_term_beyond : Spec := ⟨157, ⟨[kdI 0], []⟩, [⟨[(0, .fn 162 [.ptr 0 0])], [bkN 3 [.dat Yq2]]⟩], fun x => fn_term_beyond x⟩
theorem term_beyond_is : SpecOk Tryz.prog sp_term_beyond := fn_is func157 h_term_beyond (by kernel_rfl) (by kernel_rfl)
noncomputable def ok_term_beyond : OkSpec Tryz.prog := ⟨sp_term_beyond, term_beyond_is, call157⟩

noncomputable def fn_term_beyond_1_ip0_i (xa : Int) (qa0 : Int) : Option Bool :=
  some ((decide (xa < 0)) || (decide (qa0 ≤ xa)))
noncomputable def h_term_beyond_1_ip0_i : Hn Tryz.prog := .gp 3 (.nil)
noncomputable def sp_term_beyond_1_ip0_i : Spec := ⟨162, ⟨[kdI 0, (1, .ptr 0 0)], [bkN 3 [.is 1 (.dat Yq2)], bkM]⟩, [⟨[kdB 0], [bkC 0 3 [.is 1 (.any)], bkU 1]⟩], fun x => fn_term_beyond_1_ip0_i x.1 x.2⟩
theorem term_beyond_1_ip0_i_is : SpecOk Tryz.prog sp_term_beyond_1_ip0_i := fn_is func162 h_term_beyond_1_ip0_i (by kernel_rfl) (by kernel_rfl)
noncomputable def ok_term_beyond_1_ip0_i : OkSpec Tryz.prog := ⟨sp_term_beyond_1_ip0_i, term_beyond_1_ip0_i_is, call162⟩
noncomputable def fn_slices_IndexFunc_int_int_k_term_beyond_1_p0_i_l1 (xa : (List Int)) (qa0 : Int) : Int → Option (Int ⊕ (Unit ⊕ Int)) := fun (i185 : Int) => cond (decide (i185 < (xa.length : Int))) ((getI xa i185).bind fun x206 => (fn_term_beyond_1_ip0_i x206 qa0).bind fun t217 => cond (t217) (some (.inr ((.inr (i185))))) (some (.inl (IntKind.wrap .i64 (i185 + 1))))) (some (.inr ((.inl ()))))
noncomputable def fn_slices_IndexFunc_int_int_k_term_beyond_1_p0_i (xa : (List Int)) (qa0 : Int) : Option Int :=
  (loop (fn_slices_IndexFunc_int_int_k_term_beyond_1_p0_i_l1 xa qa0) 0 : Option (Unit ⊕ Int)).bind fun o => match o with | .inr r => some r | .inl () => some ((-1))
noncomputable def h_slices_IndexFunc_int_int_k_term_beyond_1_p0_i : Hn Tryz.prog := .jx [] ⟨[], [bkC 0 3 [.is 1 (.any)], bkU 1]⟩ [0] (.lp ⟨[kdI 8], [bkC 0 3 [.is 1 (.any)], bkU 1]⟩ (.tw 9 (.cl ok_term_beyond_1_ip0_i [] (.tw 16 (.nil) (.nil))) (.nil))) (.nil)
noncomputable def sp_slices_IndexFunc_int_int_k_term_beyond_1_p0_i : Spec := ⟨163, ⟨[(0, .dat (.sl Yq2)), (1, .fn 162 [.ptr 0 0])], [bkN 3 [.is 1 (.dat Yq2)], bkM]⟩, [⟨[kdI 0], [bkC 0 3 [.is 1 (.any)], bkU 1]⟩], fun x => fn_slices_IndexFunc_int_int_k_term_beyond_1_p0_i x.1 x.2⟩
theorem slices_IndexFunc_int_int_k_term_beyond_1_p0_i_is : SpecOk Tryz.prog sp_slices_IndexFunc_int_int_k_term_beyond_1_p0_i := fn_is func163 h_slices_IndexFunc_int_int_k_term_beyond_1_p0_i (by kernel_rfl) (by kernel_rfl)
noncomputable def ok_slices_IndexFunc_int_int_k_term_beyond_1_p0_i : OkSpec Tryz.prog := ⟨sp_slices_IndexFunc_int_int_k_term_beyond_1_p0_i, slices_IndexFunc_int_int_k_term_beyond_1_p0_i_is, call163⟩

noncomputable def fn_slices_ContainsFunc_int_int_k_term_beyond_1_p0_i (xa : (List Int)) (qa0 : Int) : Option Bool :=
  (fn_slices_IndexFunc_int_int_k_term_beyond_1_p0_i xa qa0).bind fun i10 => some (decide (0 ≤ i10))
noncomputable def h_slices_ContainsFunc_int_int_k_term_beyond_1_p0_i : Hn Tryz.prog := .cl ok_slices_IndexFunc_int_int_k_term_beyond_1_p0_i [] (.nil)
noncomputable def sp_slices_ContainsFunc_int_int_k_term_beyond_1_p0_i : Spec := ⟨158, ⟨[(0, .dat (.sl Yq2)), (1, .fn 162 [.ptr 0 0])], [bkN 3 [.is 1 (.dat Yq2)], bkM]⟩, [⟨[kdB 0], [bkC 0 3 [.is 1 (.any)], bkU 1]⟩], fun x => fn_slices_ContainsFunc_int_int_k_term_beyond_1_p0_i x.1 x.2⟩
theorem slices_ContainsFunc_int_int_k_term_beyond_1_p0_i_is : SpecOk Tryz.prog sp_slices_ContainsFunc_int_int_k_term_beyond_1_p0_i := fn_is func158 h_slices_ContainsFunc_int_int_k_term_beyond_1_p0_i (by kernel_rfl) (by kernel_rfl)
noncomputable def ok_slices_ContainsFunc_int_int_k_term_beyond_1_p0_i : OkSpec Tryz.prog := ⟨sp_slices_ContainsFunc_int_int_k_term_beyond_1_p0_i, slices_ContainsFunc_int_int_k_term_beyond_1_p0_i_is, call158⟩

noncomputable def fn_term_within (xa : Tq6) (xb : Tq20) : Option Bool :=
  (fn_term_beyond (xb.2.2.1.length : Int)).bind fun i200 => (fn_term_beyond xb.1).bind fun i291 => (fn_slices_ContainsFunc_int_int_k_term_beyond_1_p0_i xa.2.2.2.1 i291).bind fun t298 => cond (t298) (some (false)) ((fn_slices_ContainsFunc_int_int_k_term_beyond_1_p0_i xa.2.2.2.2.1 i200).bind fun t305 => cond (t305) (some (false)) ((fn_term_beyond xb.2.1).bind fun i312 => (fn_slices_ContainsFunc_int_int_k_term_beyond_1_p0_i xa.2.2.2.2.2 i312).bind fun t319 => cond (t319) (some (false)) (cond (!decide (xa.1 = 4)) (some (true)) ((fn_term_beyond_1_ip0_i xa.2.2.1 i200).bind fun t372 => cond (!t372) ((fn_term_beyond (xb.2.2.2.2.length : Int)).bind fun i379 => (fn_term_beyond_1_ip0_i xa.2.1 i379).bind fun t386 => some (!t386)) (some (false))))))
noncomputable def h_term_within : Hn Tryz.prog := .cl ok_term_beyond [] (.mix [([0, 1, 2, 3], 4), ([], 5), ([6, 7, 8, 9], 10), ([11, 12, 13, 14, 15, 16], 17)] [] [18, 19] [4] (.cl ok_term_beyond [] (.mc 6 0 7 (.cl ok_slices_ContainsFunc_int_int_k_term_beyond_1_p0_i [] (.two 16 (.nil) (.wt 1000011 (.mc 4 0 5 (.cl ok_slices_ContainsFunc_int_int_k_term_beyond_1_p0_i [] (.two 22 (.nil) (.cl ok_term_beyond [] (.mc 14 0 15 (.cl ok_slices_ContainsFunc_int_int_k_term_beyond_1_p0_i [] (.tw 29 (.nil) (.mix [([0, 1, 2, 3, 4, 5, 6], 7), ([8, 9, 10, 11, 12, 14, 15], 13)] [] [16, 17, 18, 19, 20] [4] (.two 33 (.nil) (.cl ok_term_beyond_1_ip0_i [] (.two 39 (.cl ok_term_beyond [] (.mc 21 0 22 (.cl ok_term_beyond_1_ip0_i [] (.nil)))) (.nil))))))))))))))))))
noncomputable def sp_term_within : Spec := ⟨148, ⟨[(0, .dat Yq10), (1, .dat Yq13)], []⟩, [⟨[kdB 0], []⟩], fun x => fn_term_within x.1 x.2⟩
theorem term_within_is : SpecOk Tryz.prog sp_term_within := fn_is func148 h_term_within (by kernel_rfl) (by kernel_rfl)
noncomputable def ok_term_within : OkSpec Tryz.prog := ⟨sp_term_within, term_within_is, call148⟩
noncomputable def fn_sig_callable_l1 (xa : Tq12) (xc : (List Tq3)) : Int → Option (Int ⊕ (Unit ⊕ Int)) := fun (i788 : Int) => cond (decide (i788 < (xa.2.2.1.length : Int))) ((getI xa.2.2.1 i788).bind fun x866 => (getI xc i788).bind fun x919 => (fn_row_Shape x919 x866).bind fun t934 => cond (!t934) (some (.inr ((.inr (8))))) (some (.inl (IntKind.wrap .i64 (i788 + 1))))) (some (.inr ((.inl ()))))
noncomputable def fn_sig_callable (xa : Tq12) (xb : (List Int)) (xc : (List Tq3)) (xd : Tq3) : Option Int :=
  (fn_sig_Check (xa.1, xa.2.1, xa.2.2.1, xa.2.2.2)).bind fun i478 => cond (!decide (i478 = 0)) (some (i478)) (cond ((!decide ((xb.length : Int) = xa.1)) || (!decide ((xc.length : Int) = (xa.2.2.1.length : Int)))) (some (2)) ((loop (fn_sig_callable_l1 xa xc) 0 : Option (Unit ⊕ Int)).bind fun o => match o with | .inr r => some r | .inl () => (fn_row_Shape xd xa.2.2.2).bind fun t941 => cond (!t941) (some (8)) (some (0))))
noncomputable def h_sig_callable : Hn Tryz.prog := .cl ok_sig_Check [] (.tw 15 (.nil) (.gp 6 (.tw 29 (.nil) (.jx [] ⟨[], []⟩ [] (.lp ⟨[kdI 33], []⟩ (.tw 34 (.mix [] [0, 1, 2, 3, 4] [5, 6] [] (.cl ok_row_Shape [] (.tw 44 (.nil) (.nil)))) (.nil))) (.cl ok_row_Shape [] (.tw 50 (.nil) (.nil)))))))
noncomputable def sp_sig_callable : Spec := ⟨159, ⟨[(0, .dat Yq9), (1, .dat (.sl Yq2)), (2, .dat (.sl Yq8)), (3, .dat Yq8)], []⟩, [⟨[kdI 0], []⟩], fun x => fn_sig_callable x.1 x.2.1 x.2.2.1 x.2.2.2⟩
theorem sig_callable_is : SpecOk Tryz.prog sp_sig_callable := fn_is func159 h_sig_callable (by kernel_rfl) (by kernel_rfl)
noncomputable def ok_sig_callable : OkSpec Tryz.prog := ⟨sp_sig_callable, sig_callable_is, call159⟩

noncomputable def fn_slices_Clone_api_Slot_api_Slot (xa : Tq3) : Option (Tq3) :=
  nilb xa (some ([])) ((app (([] : List (Int × Bool))) xa).bind fun z21 => some (z21))
noncomputable def h_slices_Clone_api_Slot_api_Slot : Hn Tryz.prog := .two 4 (.nil) (.nil)
noncomputable def sp_slices_Clone_api_Slot_api_Slot : Spec := ⟨165, ⟨[(0, .dat (.sl Yq3))], []⟩, [⟨[(0, .own 176 Yq3)], []⟩], fun x => fn_slices_Clone_api_Slot_api_Slot x⟩
theorem slices_Clone_api_Slot_api_Slot_is : SpecOk Tryz.prog sp_slices_Clone_api_Slot_api_Slot := fn_is func165 h_slices_Clone_api_Slot_api_Slot (by kernel_rfl) (by kernel_rfl)
noncomputable def ok_slices_Clone_api_Slot_api_Slot : OkSpec Tryz.prog := ⟨sp_slices_Clone_api_Slot_api_Slot, slices_Clone_api_Slot_api_Slot_is, call165⟩

noncomputable def fn_row_Clone (xa : Tq3) : Option (Tq3) :=
  (fn_slices_Clone_api_Slot_api_Slot xa).bind fun l22 => some (l22)
noncomputable def h_row_Clone : Hn Tryz.prog := .cl ok_slices_Clone_api_Slot_api_Slot [] (.nil)
noncomputable def sp_row_Clone : Spec := ⟨164, ⟨[(0, .dat Yq8)], []⟩, [⟨[(0, .agg [.own 176 Yq3])], []⟩], fun x => fn_row_Clone x⟩
theorem row_Clone_is : SpecOk Tryz.prog sp_row_Clone := fn_is func164 h_row_Clone (by kernel_rfl) (by kernel_rfl)
noncomputable def ok_row_Clone : OkSpec Tryz.prog := ⟨sp_row_Clone, row_Clone_is, call164⟩
noncomputable def fn_row_Subst_l1 (xb : (List Int)) (l881 : Tq3) : (Tq3 × Int) → Option ((Tq3 × Int) ⊕ Tq3) := fun ((l1232, i1237) : (Tq3 × Int)) => cond (decide (i1237 < (l881.length : Int))) ((getI l1232 i1237).bind fun x1324 => (getI xb x1324.1).bind fun x1380 => (getI l1232 i1237).bind fun x1389 => (some (l1232.set i1237.toNat (x1380, x1389.2))).bind fun z1396 => some (.inl ((z1396, IntKind.wrap .i64 (i1237 + 1))))) (some (.inr (l1232)))
noncomputable def fn_row_Subst (xa : Tq3) (xb : (List Int)) : Option ((Tq3 × Int)) :=
  (fn_row_within xa (xb.length : Int)).bind fun t873 => cond (!t873) (some (([], 7))) ((fn_row_Clone xa).bind fun l881 => (loop (fn_row_Subst_l1 xb l881) (l881, 0) : Option (Tq3)).bind fun l1143 => some ((l1143, 0)))
noncomputable def h_row_Subst : Hn Tryz.prog := .cl ok_row_within [] (.tw 13 (.nil) (.cl ok_row_Clone [] (.jn [] ⟨[(16, .any), (18, .any)], [bkC 6 26 [.own 176 Yq3]]⟩ [6, 4, 0] (.lp ⟨[(18, .own 176 Yq3), kdI 20], [bkC 6 26 [.al 0]]⟩ (.tw 21 (.mix [] [0, 1, 2, 3, 4, 5, 6, 7, 8, 9] [10] [] (.nil)) (.nil))) (.nil))))
noncomputable def sp_row_Subst : Spec := ⟨160, ⟨[(0, .dat Yq8), (1, .dat (.sl Yq2))], []⟩, [⟨[(0, .tup [.agg [.own 176 Yq3], .dat Yq2])], []⟩], fun x => fn_row_Subst x.1 x.2⟩
theorem row_Subst_is : SpecOk Tryz.prog sp_row_Subst := fn_is func160 h_row_Subst (by kernel_rfl) (by kernel_rfl)
noncomputable def ok_row_Subst : OkSpec Tryz.prog := ⟨sp_row_Subst, row_Subst_is, call160⟩
noncomputable def fn_sig_Call_l1 (xa : Tq12) (xb : (List Int)) : Tq16 → Option (Tq16 ⊕ (List Tq4)) := fun ((l2157, i2162) : Tq16) => cond (decide (i2162 < (xa.2.1.length : Int))) ((getI xa.2.1 i2162).bind fun x2273 => (getI xb x2273.1).bind fun x2346 => (getI xb x2273.2).bind fun x2355 => (app l2157 (([(x2346, x2355, 4, i2162, false)] : List Tq4))).bind fun z2367 => some (.inl ((z2367, IntKind.wrap .i64 (i2162 + 1))))) (some (.inr (l2157)))
noncomputable def fn_sig_Call_l2 (xa : Tq12) (xb : (List Int)) (xc : (List Tq3)) : Tq16 → Option (Tq16 ⊕ (List Tq4)) := fun ((l3044, i3049) : Tq16) => cond (decide (i3049 < (xa.2.2.1.length : Int))) ((getI xa.2.2.1 i3049).bind fun x3219 => (fn_row_Subst x3219 xb).bind fun (l3235, i3236) => (getI xc i3049).bind fun x3347 => (fn_relate_Flow x3347 l3235 5 (IntKind.wrap .i64 (16 * i3049))).bind fun (l3362, i3363) => (app l3044 l3362).bind fun z3371 => some (.inl ((z3371, IntKind.wrap .i64 (i3049 + 1))))) (some (.inr (l3044)))
noncomputable def fn_sig_Call (xa : Tq12) (xb : (List Int)) (xc : (List Tq3)) (xd : Tq3) : Option (Tq16) :=
  (fn_sig_callable (xa.1, xa.2.1, xa.2.2.1, xa.2.2.2) xb xc xd).bind fun i1712 => cond (!decide (i1712 = 0)) (some (([], i1712))) ((loop (fn_sig_Call_l1 xa xb) ([], 0) : Option ((List Tq4))).bind fun l2043 => (loop (fn_sig_Call_l2 xa xb xc) (l2043, 0) : Option ((List Tq4))).bind fun l2873 => (fn_row_Subst xa.2.2.2 xb).bind fun (l3380, i3381) => (fn_relate_Flow l3380 xd 6 0).bind fun (l3395, i3396) => (app l2873 l3395).bind fun z3404 => some ((z3404, 0)))
noncomputable def h_sig_Call : Hn Tryz.prog := .cl ok_sig_callable [] (.tw 30 (.nil) (.jn [] ⟨[(11, .own 213 Yq6)], []⟩ [] (.lp ⟨[(11, .own 213 Yq6), kdI 35], []⟩ (.tw 36 (.mix [([0, 1, 2, 3, 4, 5, 6, 7, 8, 9, 10, 11, 12], 13)] [] [14, 15] [] (.nil)) (.nil))) (.jn [] ⟨[(11, .own 213 Yq6)], []⟩ [4] (.lp ⟨[(11, .own 213 Yq6), kdI 59], []⟩ (.tw 60 (.cl ok_row_Subst [] (.per 11 12 (.mix [([0, 1, 2, 3, 4, 5, 6], 7)] [8, 9, 10, 11, 12] [] [] (.cl ok_relate_Flow [] (.nil))))) (.nil))) (.cl ok_row_Subst [] (.per 8 9 (.cl ok_relate_Flow [] (.nil)))))))
noncomputable def sp_sig_Call : Spec := ⟨149, ⟨[(0, .dat Yq9), (1, .dat (.sl Yq2)), (2, .dat (.sl Yq8)), (3, .dat Yq8)], []⟩, [⟨[(0, .tup [.own 213 Yq6, .dat Yq2])], []⟩], fun x => fn_sig_Call x.1 x.2.1 x.2.2.1 x.2.2.2⟩
theorem sig_Call_is : SpecOk Tryz.prog sp_sig_Call := fn_is func149 h_sig_Call (by kernel_rfl) (by kernel_rfl)
noncomputable def ok_sig_Call : OkSpec Tryz.prog := ⟨sp_sig_Call, sig_Call_is, call149⟩
noncomputable def fn_term_Needs_l1 (xa : Tq6) (xb : Tq20) : ((List Tq3) × Int) → Option (((List Tq3) × Int) ⊕ (List Tq3)) := fun ((l836, i841) : ((List Tq3) × Int)) => cond (decide (i841 < (xa.2.2.2.2.1.length : Int))) ((getI xa.2.2.2.2.1 i841).bind fun x883 => (getI xb.2.2.1 x883).bind fun x892 => (app l836 (([x892] : List Tq3))).bind fun z908 => some (.inl ((z908, IntKind.wrap .i64 (i841 + 1))))) (some (.inr (l836)))
noncomputable def fn_term_Needs (xa : Tq6) (xb : Tq20) : Option (Tq16) :=
  (fn_term_form (xa.1, xa.2.1, xa.2.2.1, xa.2.2.2.1, xa.2.2.2.2.1, xa.2.2.2.2.2)).bind fun i559 => cond (!decide (i559 = 0)) (some (([], i559))) ((fn_term_within (xa.1, xa.2.1, xa.2.2.1, xa.2.2.2.1, xa.2.2.2.2.1, xa.2.2.2.2.2) (xb.1, xb.2.1, xb.2.2.1, xb.2.2.2.1, xb.2.2.2.2)).bind fun t567 => cond (!t567) (some (([], 7))) (cond (decide (xa.1 = 3)) (cond (decide ((xb.2.2.1.length : Int) = 0)) (some (([], 14))) ((getI xb.2.2.1 0).bind fun x648 => (fn_relate_Flow x648 xb.2.2.2.1 7 0).bind fun (l663, i664) => some ((l663, i664)))) (cond (decide (xa.1 = 4)) ((loop (fn_term_Needs_l1 xa xb) ([], 0) : Option ((List Tq3))).bind fun l791 => (getI xb.2.2.2.2 xa.2.1).bind fun x1058 => (getI xb.2.2.1 xa.2.2.1).bind fun x1079 => (fn_sig_Call (x1058.1, x1058.2.1, x1058.2.2.1, x1058.2.2.2) xa.2.2.2.2.2 l791 x1079).bind fun (l1097, i1098) => some ((l1097, i1098))) (some (([], 0))))))
noncomputable def h_term_Needs : Hn Tryz.prog := .cl ok_term_form [] (.tw 13 (.nil) (.cl ok_term_within [] (.tw 18 (.nil) (.tw 21 (.tw 26 (.nil) (.mix [([0, 1, 2, 3, 4, 5], 6)] [7, 8, 9, 10] [] [] (.cl ok_relate_Flow [] (.nil)))) (.tw 36 (.jn [] ⟨[(7, .own 26 Yq8)], []⟩ [] (.lp ⟨[(7, .own 26 Yq8), kdI 41], []⟩ (.tw 42 (.nil) (.nil))) (.mix [([0, 1, 2, 3, 4, 5, 6, 7, 8, 9, 10, 11, 12, 13, 14], 15)] [16, 17, 18, 19] [] [4] (.per 4 5 (.cl ok_sig_Call [] (.nil))))) (.nil))))))
noncomputable def sp_term_Needs : Spec := ⟨135, ⟨[(0, .dat Yq10), (1, .dat Yq13)], []⟩, [⟨[(0, .tup [.own 213 Yq6, .dat Yq2])], []⟩], fun x => fn_term_Needs x.1 x.2⟩
theorem term_Needs_is : SpecOk Tryz.prog sp_term_Needs := fn_is func135 h_term_Needs (by kernel_rfl) (by kernel_rfl)
noncomputable def ok_term_Needs : OkSpec Tryz.prog := ⟨sp_term_Needs, term_Needs_is, call135⟩

noncomputable def fn_term_Check (xa : Tq6) (xb : Tq20) : Option Int :=
  (fn_term_Needs (xa.1, xa.2.1, xa.2.2.1, xa.2.2.2.1, xa.2.2.2.2.1, xa.2.2.2.2.2) (xb.1, xb.2.1, xb.2.2.1, xb.2.2.2.1, xb.2.2.2.2)).bind fun (l19, i20) => some (i20)
noncomputable def h_term_Check : Hn Tryz.prog := .cl ok_term_Needs [] (.nil)
noncomputable def sp_term_Check : Spec := ⟨113, ⟨[(0, .dat Yq10), (1, .dat Yq13)], []⟩, [⟨[kdI 0], []⟩], fun x => fn_term_Check x.1 x.2⟩
theorem term_Check_is : SpecOk Tryz.prog sp_term_Check := fn_is func113 h_term_Check (by kernel_rfl) (by kernel_rfl)
noncomputable def ok_term_Check : OkSpec Tryz.prog := ⟨sp_term_Check, term_Check_is, call113⟩
noncomputable def fn_valid_code_az_l1 (xa : Tq1) (i1874 : Int) (x2063 : ((List Tq4) × Tq6)) : Int → Option (Int ⊕ (Unit ⊕ (Int ⊕ (Unit ⊕ Tq8)))) := fun (i2186 : Int) => cond (decide (i2186 < (x2063.1.length : Int))) ((getI x2063.1 i2186).bind fun x2213 => (fn_tick_Counter_Add_zii 1 1).bind fun _ => (fn_stmt_Check (x2213.1, x2213.2.1, x2213.2.2.1, x2213.2.2.2.1, x2213.2.2.2.2) xa.2.2.2.1 xa.2.1).bind fun i2230 => cond (!decide (i2230 = 0)) (some (.inr ((.inr (.inr ((.inr ((i2230, 6, i1874, i2186))))))))) (some (.inl (IntKind.wrap .i64 (i2186 + 1))))) (some (.inr ((.inl ()))))
noncomputable def fn_valid_code_az_l2 (xa : Tq1) : Int → Option (Int ⊕ (Unit ⊕ Tq8)) := fun (i1874 : Int) => cond (decide (i1874 < (xa.2.2.2.2.2.2.length : Int))) ((getI xa.2.2.2.2.2.2 i1874).bind fun x2063 => (loop (fn_valid_code_az_l1 xa i1874 x2063) 0 : Option (Unit ⊕ (Int ⊕ (Unit ⊕ Tq8)))).bind fun o => match o with | .inr r => some r | .inl () => (fn_tick_Counter_Add_zii 1 1).bind fun _ => (fn_term_Check (x2063.2.1, x2063.2.2.1, x2063.2.2.2.1, x2063.2.2.2.2.1, x2063.2.2.2.2.2.1, x2063.2.2.2.2.2.2) (((xa.2.2.2.2.2.2.length : Int), xa.2.1, xa.2.2.2.1, xa.2.2.2.2.1, xa.2.2.2.2.2.1))).bind fun i2242 => cond (!decide (i2242 = 0)) (some (.inr ((.inr ((i2242, 7, i1874, 0)))))) (some (.inl (IntKind.wrap .i64 (i1874 + 1))))) (some (.inr ((.inl ()))))
noncomputable def fn_valid_code_az (xa : Tq1) : Option Tq8 :=
  (loop (fn_valid_code_az_l2 xa) 0 : Option (Unit ⊕ Tq8)).bind fun o => match o with | .inr r => some r | .inl () => some ((0, 0, 0, 0))
noncomputable def h_valid_code_az : Hn Tryz.prog := .jx [] ⟨[], [bkC 2 140 [.lit (.int .i64 0), .lit (.int .i64 0), .lit (.int .i64 0), .lit (.int .i64 0)]]⟩ [2] (.lp ⟨[kdI 27], [bkC 2 140 [.lit (.int .i64 0), .lit (.int .i64 0), .lit (.int .i64 0), .lit (.int .i64 0)]]⟩ (.tw 28 (.pl (.pl (.jx [] ⟨[], [bkC 2 140 [.lit (.int .i64 0), .lit (.int .i64 0), .lit (.int .i64 0), .lit (.int .i64 0)]]⟩ [2] (.lp ⟨[kdI 35], [bkC 2 140 [.lit (.int .i64 0), .lit (.int .i64 0), .lit (.int .i64 0), .lit (.int .i64 0)]]⟩ (.tw 36 (.cl ok_tick_Counter_Add_zii [] (.cl ok_stmt_Check [] (.tw 49 (.nil) (.nil)))) (.nil))) (.cl ok_tick_Counter_Add_zii [] (.cl ok_term_Check [] (.tw 62 (.nil) (.nil))))))) (.nil))) (.nil)
noncomputable def sp_valid_code_az : Spec := ⟨90, ⟨[(0, .dat Yq1), (1, .nilp)], []⟩, [⟨[(0, .agg [.dat Yq2, .dat Yq2, .dat Yq2, .dat Yq2])], []⟩], fun x => fn_valid_code_az x⟩
theorem valid_code_az_is : SpecOk Tryz.prog sp_valid_code_az := fn_is func90 h_valid_code_az (by kernel_rfl) (by kernel_rfl)
noncomputable def ok_valid_code_az : OkSpec Tryz.prog := ⟨sp_valid_code_az, valid_code_az_is, call90⟩

noncomputable def fn_valid_Check_az (xa : Tq1) : Option Tq8 :=
  (fn_tick_Counter_Add_zii 1 1).bind fun _ => (fn_valid_head_az xa).bind fun (i100, i101, i102, i103) => cond (!decide (i100 = 0)) (some ((i100, i101, i102, i103))) ((fn_valid_bounds_az xa).bind fun (i111, i112, i113, i114) => cond (!decide (i111 = 0)) (some ((i111, i112, i113, i114))) ((fn_valid_locals_az xa).bind fun (i122, i123, i124, i125) => cond (!decide (i122 = 0)) (some ((i122, i123, i124, i125))) ((fn_valid_ret_az xa).bind fun (i133, i134, i135, i136) => cond (!decide (i133 = 0)) (some ((i133, i134, i135, i136))) ((fn_valid_sigs_az xa).bind fun (i144, i145, i146, i147) => cond (!decide (i144 = 0)) (some ((i144, i145, i146, i147))) ((fn_valid_blocks_az xa).bind fun (i155, i156, i157, i158) => cond (!decide (i155 = 0)) (some ((i155, i156, i157, i158))) ((fn_valid_code_az xa).bind fun (i166, i167, i168, i169) => cond (!decide (i166 = 0)) (some ((i166, i167, i168, i169))) (some ((0, 0, 0, 0)))))))))
noncomputable def h_valid_Check_az : Hn Tryz.prog := .cl ok_tick_Counter_Add_zii [] (.un 64 (.cl ok_valid_head_az [] (.tw 24 (.nil) (.cl ok_valid_bounds_az [] (.tw 24 (.nil) (.cl ok_valid_locals_az [] (.tw 24 (.nil) (.cl ok_valid_ret_az [] (.tw 24 (.nil) (.cl ok_valid_sigs_az [] (.tw 24 (.nil) (.cl ok_valid_blocks_az [] (.tw 24 (.nil) (.cl ok_valid_code_az [] (.tw 24 (.nil) (.nil))))))))))))))))
noncomputable def sp_valid_Check_az : Spec := ⟨71, ⟨[(0, .dat Yq1), (1, .nilp)], []⟩, [⟨[(0, .agg [.dat Yq2, .dat Yq2, .dat Yq2, .dat Yq2])], []⟩], fun x => fn_valid_Check_az x⟩
theorem valid_Check_az_is : SpecOk Tryz.prog sp_valid_Check_az := fn_is func71 h_valid_Check_az (by kernel_rfl) (by kernel_rfl)
noncomputable def ok_valid_Check_az : OkSpec Tryz.prog := ⟨sp_valid_Check_az, valid_Check_az_is, call71⟩

noncomputable def fn_valid_OK (xa : Tq1) : Option Bool :=
  (fn_valid_Check_az xa).bind fun (i15, i17, i18, i19) => some (decide (i15 = 0))
noncomputable def h_valid_OK : Hn Tryz.prog := .cl ok_valid_Check_az [] (.nil)
noncomputable def sp_valid_OK : Spec := ⟨51, ⟨[(0, .dat Yq1)], []⟩, [⟨[kdB 0], []⟩], fun x => fn_valid_OK x⟩
theorem valid_OK_is : SpecOk Tryz.prog sp_valid_OK := fn_is func51 h_valid_OK (by kernel_rfl) (by kernel_rfl)
noncomputable def ok_valid_OK : OkSpec Tryz.prog := ⟨sp_valid_OK, valid_OK_is, call51⟩
noncomputable def fn_point_New_l1 (xa : Tq1) : (Int × (List Int) × Int) → Option ((Int × (List Int) × Int) ⊕ Tq15) := fun ((i784, l785, i790) : (Int × (List Int) × Int)) => cond (decide (i784 < (xa.2.2.2.2.2.2.length : Int))) ((getI xa.2.2.2.2.2.2 i784).bind fun x864 => (app l785 ([i790] : List Int)).bind fun z920 => some (.inl ((IntKind.wrap .i64 (i784 + 1), z920, IntKind.wrap .i64 (i790 + (IntKind.wrap .i64 ((x864.1.length : Int) + 1))))))) (some (.inr (((l785, i790)))))
noncomputable def fn_point_New (xa : Tq1) : Option ((Option Tq15)) :=
  (fn_valid_OK xa).bind fun t472 => cond (!t472) (some ((some ([], 0)))) ((loop (fn_point_New_l1 xa) (0, [], 0) : Option (Tq15)).bind fun (l700, i705) => some ((some (l700, i705))))
noncomputable def h_point_New : Hn Tryz.prog := .cl ok_valid_OK [] (.tw 10 (.perb 2 3 (.cons (.sl Yq2) (.one Yq2)) (.nil)) (.jn [] ⟨[], [bkC 2 120 [.own 3 Yq2, .dat Yq2]]⟩ [2, 0] (.lp ⟨[kdI 15], [bkC 2 120 [.own 3 Yq2, .dat Yq2]]⟩ (.tw 16 (.mix [([0, 1, 2, 3, 4, 5, 6, 7, 8], 9), ([], 10)] [11, 12] [13] [4] (.mix [] [0, 1, 2, 3, 4, 5, 6, 7, 8, 9, 10] [11] [] (.nil))) (.nil))) (.per 4 5 (.perb 2 6 (.cons (.sl Yq2) (.one Yq2)) (.nil)))))
noncomputable def sp_point_New : Spec := ⟨26, ⟨[(0, .dat Yq1)], []⟩, [⟨[(0, .dat Yq12)], []⟩], fun x => fn_point_New x⟩
theorem point_New_is : SpecOk Tryz.prog sp_point_New := fn_is func26 h_point_New (by kernel_rfl) (by kernel_rfl)
noncomputable def ok_point_New : OkSpec Tryz.prog := ⟨sp_point_New, point_New_is, call26⟩

noncomputable def fn_point_Points_Len (xa : (Option Tq15)) : Option Int :=
  cond (xa.isNone) (some (0)) ((xa : Option Tq15).bind fun y11 => some (y11.2))
noncomputable def h_point_Points_Len : Hn Tryz.prog := .tw 4 (.nil) (.nil)
noncomputable def sp_point_Points_Len : Spec := ⟨28, ⟨[(0, .dat Yq12)], []⟩, [⟨[kdI 0], []⟩], fun x => fn_point_Points_Len x⟩
theorem point_Points_Len_is : SpecOk Tryz.prog sp_point_Points_Len := fn_is func28 h_point_Points_Len (by kernel_rfl) (by kernel_rfl)
noncomputable def ok_point_Points_Len : OkSpec Tryz.prog := ⟨sp_point_Points_Len, point_Points_Len_is, call28⟩

noncomputable def fn_touch_byStmt (xa : Tq4) : Option (Tq2) :=
  (cond (decide (xa.1 = 1)) (some (decide (xa.1 = 1))) (cond (decide (xa.1 = 2)) (some (decide (xa.1 = 2))) (some (decide (xa.1 = 3)))) : Option Bool).bind fun t37 => cond (t37) (some ((([xa.2.2.1] : List Int), ([xa.2.1] : List Int)))) (cond (decide (xa.1 = 4)) (some ((([xa.2.2.1] : List Int), []))) (cond (decide (xa.1 = 5)) (some (([], ([xa.2.1] : List Int)))) (some (([], [])))))
noncomputable def h_touch_byStmt : Hn Tryz.prog := .pl (.pl (.pl (.sq [] ⟨[kdB 5], []⟩ [] (.tw 5 (.nil) (.tw 5 (.nil) (.nil))) (.tw 5 (.nil) (.tw 16 (.nil) (.tw 22 (.nil) (.nil)))))))
noncomputable def sp_touch_byStmt : Spec := ⟨34, ⟨[(0, .dat Yq6)], []⟩, [⟨[(0, .agg [.own 3 Yq2, .own 3 Yq2])], []⟩], fun x => fn_touch_byStmt x⟩
theorem touch_byStmt_is : SpecOk Tryz.prog sp_touch_byStmt := fn_is func34 h_touch_byStmt (by kernel_rfl) (by kernel_rfl)
noncomputable def ok_touch_byStmt : OkSpec Tryz.prog := ⟨sp_touch_byStmt, touch_byStmt_is, call34⟩
noncomputable def fn_touch_Touches_add_p0arr_nod_l1 (l1300 : List Int) : (Int × (List Tq2)) → Option ((Int × (List Tq2)) ⊕ (List Tq2)) := fun ((i1696, l1697) : (Int × (List Tq2))) => cond (decide (i1696 < (l1300.length : Int))) ((getI l1300 i1696).bind fun x1782 => (getI l1697 x1782).bind fun x1791 => (getI l1697 x1782).bind fun _ => (chkI x1782 x1782).bind fun _ => (app x1791.1 ([0] : List Int)).bind fun z1837 => (getI l1697 x1782).bind fun _ => (chkI x1782 x1782).bind fun _ => some (.inl ((IntKind.wrap .i64 (i1696 + 1), l1697.set x1782.toNat (z1837, x1791.2))))) (some (.inr (l1697)))
noncomputable def fn_touch_Touches_add_p0arr_rod_l1 (qa0 : (List Tq2)) (l1285 : List Int) : (Int × (List Tq2)) → Option ((Int × (List Tq2)) ⊕ (List Tq2)) := fun ((i1667, l1668) : (Int × (List Tq2))) => cond (decide (i1667 < (l1285.length : Int))) ((getI l1285 i1667).bind fun x1753 => (getI l1668 x1753).bind fun x1762 => (getI l1668 x1753).bind fun _ => (chkI x1753 x1753).bind fun _ => (app x1762.1 (([(qa0.length : Int)] : List Int))).bind fun z1808 => (getI l1668 x1753).bind fun _ => (chkI x1753 x1753).bind fun _ => some (.inl ((IntKind.wrap .i64 (i1667 + 1), l1668.set x1753.toNat (z1808, x1762.2))))) (some (.inr (l1668)))
noncomputable def fn_touch_Touches_add_p0arr_rod_l2 (qxb_1 : (List Int)) (qa0 : (List Tq2)) : (Int × (List Tq2)) → Option ((Int × (List Tq2)) ⊕ (List Tq2)) := fun ((i2108, l2109) : (Int × (List Tq2))) => cond (decide (i2108 < (qxb_1.length : Int))) ((getI qxb_1 i2108).bind fun x2194 => (getI l2109 x2194).bind fun x2203 => (getI l2109 x2194).bind fun _ => (chkI x2194 x2194).bind fun _ => (app x2203.2 (([(qa0.length : Int)] : List Int))).bind fun z2249 => (getI l2109 x2194).bind fun _ => (chkI x2194 x2194).bind fun _ => some (.inl ((IntKind.wrap .i64 (i2108 + 1), l2109.set x2194.toNat (x2203.1, z2249))))) (some (.inr (l2109)))
noncomputable def fn_touch_Touches_add_p0arr_rod (qxb_0 : (List Int)) (qxb_1 : (List Int)) (qa0 : (List Tq2)) (qa1 : (List Tq2)) : Option (Tq18) :=
  (srt qxb_0).bind fun l1280 => (cmpt l1280).bind fun l1285 => (app qa0 (([(l1285, qxb_1)] : List Tq2))).bind fun z1367 => (loop (fn_touch_Touches_add_p0arr_rod_l1 qa0 l1285) (0, qa1) : Option ((List Tq2))).bind fun l1593 => (loop (fn_touch_Touches_add_p0arr_rod_l2 qxb_1 qa0) (0, l1593) : Option ((List Tq2))).bind fun l2034 => some ((z1367, l2034))
noncomputable def h_touch_Touches_add_p0arr_rod : Hn Tryz.prog := .cl ok_Sort [] (.cl ok_Compact [] (.per 16 17 (.per 3 4 (.mix [([0, 1, 2, 3, 4, 5], 6), ([], 7)] [8, 9] [10] [5] (.jn [] ⟨[], [bkO 7 (.row 105 (.cons (.row 3 (.dat Yq2)) (.one (.row 3 (.dat Yq2)))))]⟩ [7] (.lp ⟨[kdI 34], [bkO 7 (.row 105 (.cons (.row 3 (.dat Yq2)) (.one (.row 3 (.dat Yq2)))))]⟩ (.tw 35 (.opp [9] 7 47 (.mix [([0, 1, 2, 3, 4, 5, 6, 7, 8, 9, 10, 11, 12, 13], 14), ([], 15)] [16, 17] [18] [26] (.cls 7 34 (.nil)))) (.nil))) (.jn [] ⟨[], [bkO 7 (.row 105 (.cons (.row 3 (.dat Yq2)) (.one (.row 3 (.dat Yq2)))))]⟩ [10, 7] (.lp ⟨[kdI 60], [bkO 7 (.row 105 (.cons (.row 3 (.dat Yq2)) (.one (.row 3 (.dat Yq2)))))]⟩ (.tw 61 (.opp [9] 7 73 (.mix [([0, 1, 2, 3, 4, 5, 6, 7, 8, 9, 10, 11, 12, 13], 14), ([], 15)] [16, 17] [18] [29] (.cls 7 35 (.nil)))) (.nil))) (.nil)))))))
noncomputable def sp_touch_Touches_add_p0arr_rod : Spec := ⟨33, ⟨[(0, .ptr 0 0), (1, .agg [.own 3 Yq2, .own 3 Yq2])], [bkN 89 [.own 92 Yq7, .od (.row 105 (.cons (.row 3 (.dat Yq2)) (.one (.row 3 (.dat Yq2)))))]]⟩, [⟨[], [bkC 0 89 [.own 92 Yq7, .od (.row 105 (.cons (.row 3 (.dat Yq2)) (.one (.row 3 (.dat Yq2)))))]]⟩], fun x => fn_touch_Touches_add_p0arr_rod x.1 x.2.1 x.2.2.1 x.2.2.2⟩
theorem touch_Touches_add_p0arr_rod_is : SpecOk Tryz.prog sp_touch_Touches_add_p0arr_rod := fn_is func33 h_touch_Touches_add_p0arr_rod (by kernel_rfl) (by kernel_rfl)
noncomputable def ok_touch_Touches_add_p0arr_rod : OkSpec Tryz.prog := ⟨sp_touch_Touches_add_p0arr_rod, touch_Touches_add_p0arr_rod_is, call33⟩

noncomputable def fn_slices_Clone_int_int (xa : (List Int)) : Option (List Int) :=
  nilb xa (some ([])) ((app ([] : List Int) xa).bind fun z21 => some (z21))
noncomputable def h_slices_Clone_int_int : Hn Tryz.prog := .two 4 (.nil) (.nil)
noncomputable def sp_slices_Clone_int_int : Spec := ⟨36, ⟨[(0, .dat (.sl Yq2))], []⟩, [⟨[(0, .own 3 Yq2)], []⟩], fun x => fn_slices_Clone_int_int x⟩
theorem slices_Clone_int_int_is : SpecOk Tryz.prog sp_slices_Clone_int_int := fn_is func36 h_slices_Clone_int_int (by kernel_rfl) (by kernel_rfl)
noncomputable def ok_slices_Clone_int_int : OkSpec Tryz.prog := ⟨sp_slices_Clone_int_int, slices_Clone_int_int_is, call36⟩

noncomputable def fn_touch_byTerm (xa : Tq6) : Option (Tq2) :=
  cond (decide (xa.1 = 2)) ((fn_slices_Clone_int_int xa.2.2.2.2.1).bind fun l156 => some ((l156, []))) (cond (decide (xa.1 = 4)) ((((fn_slices_Clone_int_int xa.2.2.2.2.1).bind fun l262 => some ((l262, ([xa.2.2.1] : List Int)))).bind fun x286 => ((fn_slices_Clone_int_int xa.2.2.2.2.1).bind fun l278 => some ((l278, ([xa.2.2.1] : List Int)))).bind fun y287 => agr x286 y287 (some x286) : Option (Tq2)).bind fun (l222, l227) => some ((l222, l227))) (cond (decide (xa.1 = 3)) (some ((([0] : List Int), []))) (some (([], [])))))
noncomputable def h_touch_byTerm : Hn Tryz.prog := .tw 5 (.cl ok_slices_Clone_int_int [] (.nil)) (.tw 11 (.tr (.still [0, 1, 3, 4] (.alt 2 (.alt 5 (.still [6] (.alt 7 (.leaf []) .done)) .done) (.alt 5 (.alt 2 (.still [6] (.alt 7 (.leaf []) .done)) .done) .done))) ⟨[], [bkC 2 92 [.own 3 Yq2, .own 3 Yq2]]⟩ [2] (.two 0 (.cl ok_slices_Clone_int_int [] (.nil)) (.cl ok_slices_Clone_int_int [] (.nil))) (.nil)) (.tw 20 (.nil) (.nil)))
noncomputable def sp_touch_byTerm : Spec := ⟨35, ⟨[(0, .dat Yq10)], []⟩, [⟨[(0, .agg [.own 3 Yq2, .own 3 Yq2])], []⟩], fun x => fn_touch_byTerm x⟩
theorem touch_byTerm_is : SpecOk Tryz.prog sp_touch_byTerm := fn_is func35 h_touch_byTerm (by kernel_rfl) (by kernel_rfl)
noncomputable def ok_touch_byTerm : OkSpec Tryz.prog := ⟨sp_touch_byTerm, touch_byTerm_is, call35⟩
noncomputable def fn_touch_New_l1 (x10197 : ((List Tq4) × Tq6)) : (Int × (List Tq2) × (List Tq2)) → Option ((Int × (List Tq2) × (List Tq2)) ⊕ Tq18) := fun ((i10592, l10593, l10598) : (Int × (List Tq2) × (List Tq2))) => cond (decide (i10592 < (x10197.1.length : Int))) ((getI x10197.1 i10592).bind fun x10703 => (fn_touch_byStmt (x10703.1, x10703.2.1, x10703.2.2.1, x10703.2.2.2.1, x10703.2.2.2.2)).bind fun (l10745, l10746) => (fn_touch_Touches_add_p0arr_rod l10745 l10746 l10593 l10598).bind fun (l10760, l10761) => some (.inl ((IntKind.wrap .i64 (i10592 + 1), l10760, l10761)))) (some (.inr (((l10593, l10598)))))
noncomputable def fn_touch_New_l2 (xa : Tq1) : (Int × (List Tq2) × (List Tq2)) → Option ((Int × (List Tq2) × (List Tq2)) ⊕ Tq18) := fun ((i9486, l9487, l9492) : (Int × (List Tq2) × (List Tq2))) => cond (decide (i9486 < (xa.2.2.2.2.2.2.length : Int))) ((getI xa.2.2.2.2.2.2 i9486).bind fun x10197 => (loop (fn_touch_New_l1 x10197) (0, l9487, l9492) : Option (Tq18)).bind fun (l10495, l10500) => (fn_touch_byTerm (x10197.2.1, x10197.2.2.1, x10197.2.2.2.1, x10197.2.2.2.2.1, x10197.2.2.2.2.2.1, x10197.2.2.2.2.2.2)).bind fun (l10806, l10807) => (fn_touch_Touches_add_p0arr_rod l10806 l10807 l10495 l10500).bind fun (l10821, l10822) => some (.inl ((IntKind.wrap .i64 (i9486 + 1), l10821, l10822)))) (some (.inr (((l9487, l9492)))))
noncomputable def fn_touch_New (xa : Tq1) : Option ((Option Tq18)) :=
  (fn_point_New xa).bind fun p6769 => (fn_point_Points_Len p6769).bind fun i6777 => cond (decide (i6777 = 0)) (some ((some ([], [])))) ((mk (xa.2.2.2.1.length : Int) (xa.2.2.2.1.length : Int) ([], []) : Option (List Tq2)).bind fun z6785 => (loop (fn_touch_New_l2 xa) (0, [], z6785) : Option (Tq18)).bind fun (l8808, l8813) => some ((some (l8808, l8813))))
noncomputable def h_touch_New : Hn Tryz.prog := .cl ok_point_New [] (.cl ok_point_Points_Len [] (.tw 13 (.perb 2 3 Yq14 (.nil)) (.ot (.cons (.row 3 (.dat Yq2)) (.one (.row 3 (.dat Yq2)))) (.jn [] ⟨[], [bkC 2 89 [.own 92 Yq7, .od (.row 105 (.cons (.row 3 (.dat Yq2)) (.one (.row 3 (.dat Yq2)))))]]⟩ [2, 4, 0] (.lp ⟨[kdI 25], [bkC 2 89 [.own 92 Yq7, .od (.row 105 (.cons (.row 3 (.dat Yq2)) (.one (.row 3 (.dat Yq2)))))]]⟩ (.tw 26 (.pl (.pl (.jn [] ⟨[], [bkC 2 89 [.own 92 Yq7, .od (.row 105 (.cons (.row 3 (.dat Yq2)) (.one (.row 3 (.dat Yq2)))))]]⟩ [2, 7, 9] (.lp ⟨[kdI 32], [bkC 2 89 [.own 92 Yq7, .od (.row 105 (.cons (.row 3 (.dat Yq2)) (.one (.row 3 (.dat Yq2)))))]]⟩ (.tw 33 (.cl ok_touch_byStmt [] (.cl ok_touch_Touches_add_p0arr_rod [] (.nil))) (.nil))) (.cl ok_touch_byTerm [] (.cl ok_touch_Touches_add_p0arr_rod [] (.nil)))))) (.nil))) (.per 7 8 (.per 9 10 (.perb 2 11 Yq14 (.nil))))))))
noncomputable def sp_touch_New : Spec := ⟨8, ⟨[(0, .dat Yq1)], []⟩, [⟨[(0, .dat (.ptr Yq14))], []⟩], fun x => fn_touch_New x⟩
theorem touch_New_is : SpecOk Tryz.prog sp_touch_New := fn_is func8 h_touch_New (by kernel_rfl) (by kernel_rfl)
noncomputable def ok_touch_New : OkSpec Tryz.prog := ⟨sp_touch_New, touch_New_is, call8⟩

noncomputable def fn_touch_Touches_Len (xa : (Option Tq18)) : Option Int :=
  cond (xa.isNone) (some (0)) ((xa : Option Tq18).bind fun y14 => some (y14.1.length : Int))
noncomputable def h_touch_Touches_Len : Hn Tryz.prog := .tw 4 (.nil) (.nil)
noncomputable def sp_touch_Touches_Len : Spec := ⟨20, ⟨[(0, .dat (.ptr Yq14))], []⟩, [⟨[kdI 0], []⟩], fun x => fn_touch_Touches_Len x⟩
theorem touch_Touches_Len_is : SpecOk Tryz.prog sp_touch_Touches_Len := fn_is func20 h_touch_Touches_Len (by kernel_rfl) (by kernel_rfl)
noncomputable def ok_touch_Touches_Len : OkSpec Tryz.prog := ⟨sp_touch_Touches_Len, touch_Touches_Len_is, call20⟩

noncomputable def fn_point_Points_Begins (xa : (Option Tq15)) : Option (List Int) :=
  cond (xa.isNone) (some ([])) ((xa : Option Tq15).bind fun y29 => (fn_slices_Clone_int_int y29.1).bind fun l41 => some (l41))
noncomputable def h_point_Points_Begins : Hn Tryz.prog := .tw 4 (.nil) (.cl ok_slices_Clone_int_int [] (.nil))
noncomputable def sp_point_Points_Begins : Spec := ⟨27, ⟨[(0, .dat Yq12)], []⟩, [⟨[(0, .own 3 Yq2)], []⟩], fun x => fn_point_Points_Begins x⟩
theorem point_Points_Begins_is : SpecOk Tryz.prog sp_point_Points_Begins := fn_is func27 h_point_Points_Begins (by kernel_rfl) (by kernel_rfl)
noncomputable def ok_point_Points_Begins : OkSpec Tryz.prog := ⟨sp_point_Points_Begins, point_Points_Begins_is, call27⟩

noncomputable def fn_point_Points_At_1_ip0p1_kp_i (xa : Int) (qa0 : (Option Tq15)) (qb0 : Int) : Option Bool :=
  (qa0 : Option Tq15).bind fun y135 => (getI y135.1 xa).bind fun x145 => some (decide (qb0 < x145))
noncomputable def h_point_Points_At_1_ip0p1_kp_i : Hn Tryz.prog := .mix [] [0, 1, 2, 3, 4, 5, 6, 7, 8, 9] [] [] (.nil)
noncomputable def sp_point_Points_At_1_ip0p1_kp_i : Spec := ⟨53, ⟨[kdI 0, (1, .ptr 0 0), (2, .ptr 1 0)], [bkN 70 [.is 2 (.dat Yq12)], bkN 3 [.is 3 (.dat Yq2)], bkM, bkM]⟩, [⟨[kdB 0], [bkC 0 70 [.is 2 (.any)], bkC 1 3 [.is 3 (.any)], bkU 2, bkU 3]⟩], fun x => fn_point_Points_At_1_ip0p1_kp_i x.1 x.2.1 x.2.2⟩
theorem point_Points_At_1_ip0p1_kp_i_is : SpecOk Tryz.prog sp_point_Points_At_1_ip0p1_kp_i := fn_is func53 h_point_Points_At_1_ip0p1_kp_i (by kernel_rfl) (by kernel_rfl)
noncomputable def ok_point_Points_At_1_ip0p1_kp_i : OkSpec Tryz.prog := ⟨sp_point_Points_At_1_ip0p1_kp_i, point_Points_At_1_ip0p1_kp_i_is, call53⟩
noncomputable def fn_sort_Search_i_point_Points_At_1_p0p1_kp_i_l1 (qa0 : (Option Tq15)) (qb0 : Int) : (Int × Int) → Option ((Int × Int) ⊕ Int) := fun ((i108, i109) : (Int × Int)) => cond (decide (i108 < i109)) ((fn_point_Points_At_1_ip0p1_kp_i (IntKind.wrap .i64 (Int.fdiv (IntKind.wrap .u64 (IntKind.wrap .i64 (i108 + i109))) (2 ^ (min (Int.toNat 1) (IntKind.bits .u64))))) qa0 qb0).bind fun t124 => cond (!t124) (some (.inl ((IntKind.wrap .i64 ((IntKind.wrap .i64 (Int.fdiv (IntKind.wrap .u64 (IntKind.wrap .i64 (i108 + i109))) (2 ^ (min (Int.toNat 1) (IntKind.bits .u64))))) + 1), i109)))) (some (.inl ((i108, IntKind.wrap .i64 (Int.fdiv (IntKind.wrap .u64 (IntKind.wrap .i64 (i108 + i109))) (2 ^ (min (Int.toNat 1) (IntKind.bits .u64))))))))) (some (.inr (i108)))
noncomputable def fn_sort_Search_i_point_Points_At_1_p0p1_kp_i (xa : Int) (qa0 : (Option Tq15)) (qb0 : Int) : Option Int :=
  (loop (fn_sort_Search_i_point_Points_At_1_p0p1_kp_i_l1 qa0 qb0) (0, xa) : Option Int).bind fun i97 => some (i97)
noncomputable def h_sort_Search_i_point_Points_At_1_p0p1_kp_i : Hn Tryz.prog := .jn [] ⟨[kdI 5], [bkC 0 70 [.is 2 (.any)], bkC 1 3 [.is 3 (.any)], bkU 2, bkU 3]⟩ [0, 1] (.lp ⟨[kdI 5, kdI 6], [bkC 0 70 [.is 2 (.any)], bkC 1 3 [.is 3 (.any)], bkU 2, bkU 3]⟩ (.tw 11 (.cl ok_point_Points_At_1_ip0p1_kp_i [] (.tw 21 (.nil) (.nil))) (.nil))) (.nil)
noncomputable def sp_sort_Search_i_point_Points_At_1_p0p1_kp_i : Spec := ⟨52, ⟨[kdI 0, (1, .fn 53 [.ptr 0 0, .ptr 1 0])], [bkN 70 [.is 2 (.dat Yq12)], bkN 3 [.is 3 (.dat Yq2)], bkM, bkM]⟩, [⟨[kdI 0], [bkC 0 70 [.is 2 (.any)], bkC 1 3 [.is 3 (.any)], bkU 2, bkU 3]⟩], fun x => fn_sort_Search_i_point_Points_At_1_p0p1_kp_i x.1 x.2.1 x.2.2⟩
theorem sort_Search_i_point_Points_At_1_p0p1_kp_i_is : SpecOk Tryz.prog sp_sort_Search_i_point_Points_At_1_p0p1_kp_i := fn_is func52 h_sort_Search_i_point_Points_At_1_p0p1_kp_i (by kernel_rfl) (by kernel_rfl)
noncomputable def ok_sort_Search_i_point_Points_At_1_p0p1_kp_i : OkSpec Tryz.prog := ⟨sp_sort_Search_i_point_Points_At_1_p0p1_kp_i, sort_Search_i_point_Points_At_1_p0p1_kp_i_is, call52⟩

noncomputable def fn_point_Points_At (xa : (Option Tq15)) (xb : Int) : Option Tq19 :=
  cond (decide (xb < 0)) (some ((0, 0, false))) ((fn_point_Points_Len xa).bind fun i130 => cond (decide (i130 ≤ xb)) (some ((0, 0, false))) ((xa : Option Tq15).bind fun y135 => (fn_sort_Search_i_point_Points_At_1_p0p1_kp_i (y135.1.length : Int) (some y135) xb).bind fun i147 => (getI y135.1 (IntKind.wrap .i64 (i147 - 1))).bind fun x194 => some ((IntKind.wrap .i64 (i147 - 1), IntKind.wrap .i64 (xb - x194), true))))
noncomputable def h_point_Points_At : Hn Tryz.prog := .mix [([0, 1, 2, 3, 4], 5)] [6, 7] [] [] (.two 10 (.nil) (.cl ok_point_Points_Len [] (.tw 15 (.nil) (.wt 1000004 (.mc 0 0 1 (.mc 2 0 3 (.cl ok_sort_Search_i_point_Points_At_1_p0p1_kp_i [] (.mix [] [0, 1, 2, 3, 4, 5, 6, 7, 8, 9, 10, 11, 12] [] [] (.nil)))))))))
noncomputable def sp_point_Points_At : Spec := ⟨29, ⟨[(0, .dat Yq12), kdI 1], []⟩, [⟨[(0, .tup [.dat Yq2, .dat Yq2, .dat .bool])], []⟩], fun x => fn_point_Points_At x.1 x.2⟩
theorem point_Points_At_is : SpecOk Tryz.prog sp_point_Points_At := fn_is func29 h_point_Points_At (by kernel_rfl) (by kernel_rfl)
noncomputable def ok_point_Points_At : OkSpec Tryz.prog := ⟨sp_point_Points_At, point_Points_At_is, call29⟩

noncomputable def fn_point_Points_end (xa : (Option Tq15)) (xb : Int) : Option Int :=
  (xa : Option Tq15).bind fun y26 => cond (decide ((IntKind.wrap .i64 (xb + 1)) < (y26.1.length : Int))) ((getI y26.1 (IntKind.wrap .i64 (xb + 1))).bind fun x41 => some (x41)) (some (y26.2))
noncomputable def h_point_Points_end : Hn Tryz.prog := .ms 0 (.tw 12 (.nil) (.nil))
noncomputable def sp_point_Points_end : Spec := ⟨54, ⟨[(0, .dat Yq12), kdI 1], []⟩, [⟨[kdI 0], []⟩], fun x => fn_point_Points_end x.1 x.2⟩
theorem point_Points_end_is : SpecOk Tryz.prog sp_point_Points_end := fn_is func54 h_point_Points_end (by kernel_rfl) (by kernel_rfl)
noncomputable def ok_point_Points_end : OkSpec Tryz.prog := ⟨sp_point_Points_end, point_Points_end_is, call54⟩

noncomputable def fn_point_Points_Ends (xa : (Option Tq15)) (xb : Int) : Option Bool :=
  (fn_point_Points_At xa xb).bind fun (i27, i28, t29) => (cond (t29) ((fn_point_Points_end xa i27).bind fun i44 => some (decide ((IntKind.wrap .i64 (xb + 1)) = i44))) (some (false))).bind fun t40 => some (t40)
noncomputable def h_point_Points_Ends : Hn Tryz.prog := .cl ok_point_Points_At [] (.gj 6 ⟨[kdB 23], []⟩ [] (.two 16 (.cl ok_point_Points_end [] (.nil)) (.nil)) (.nil))
noncomputable def sp_point_Points_Ends : Spec := ⟨30, ⟨[(0, .dat Yq12), kdI 1], []⟩, [⟨[kdB 0], []⟩], fun x => fn_point_Points_Ends x.1 x.2⟩
theorem point_Points_Ends_is : SpecOk Tryz.prog sp_point_Points_Ends := fn_is func30 h_point_Points_Ends (by kernel_rfl) (by kernel_rfl)
noncomputable def ok_point_Points_Ends : OkSpec Tryz.prog := ⟨sp_point_Points_Ends, point_Points_Ends_is, call30⟩
noncomputable def fn_flow_heads_l1 (xa : Tq6) (xb : (List Int)) : Tq15 → Option (Tq15 ⊕ (List Int)) := fun ((l377, i382) : Tq15) => cond (decide (i382 < (xa.2.2.2.1.length : Int))) ((getI xa.2.2.2.1 i382).bind fun x420 => (getI xb x420).bind fun x429 => (app l377 ([x429] : List Int)).bind fun z441 => some (.inl ((z441, IntKind.wrap .i64 (i382 + 1))))) (some (.inr (l377)))
noncomputable def fn_flow_heads (xa : Tq6) (xb : (List Int)) : Option (List Int) :=
  (loop (fn_flow_heads_l1 xa xb) ([], 0) : Option (List Int)).bind fun l336 => (srt l336).bind fun l447 => (cmpt l447).bind fun l448 => some (l448)
noncomputable def h_flow_heads : Hn Tryz.prog := .jn [] ⟨[(5, .own 3 Yq2)], []⟩ [0] (.lp ⟨[(5, .own 3 Yq2), kdI 11], []⟩ (.tw 12 (.nil) (.nil))) (.cl ok_Sort [] (.cl ok_Compact [] (.nil)))
noncomputable def sp_flow_heads : Spec := ⟨31, ⟨[(0, .dat Yq10), (1, .dat (.sl Yq2))], []⟩, [⟨[(0, .own 3 Yq2)], []⟩], fun x => fn_flow_heads x.1 x.2⟩
theorem flow_heads_is : SpecOk Tryz.prog sp_flow_heads := fn_is func31 h_flow_heads (by kernel_rfl) (by kernel_rfl)
noncomputable def ok_flow_heads : OkSpec Tryz.prog := ⟨sp_flow_heads, flow_heads_is, call31⟩

noncomputable def fn_slices_Clone_graph_Arc_graph_Arc (xa : Tq5) : Option (Tq5) :=
  nilb xa (some ([])) ((app (([] : List (Int × Int))) xa).bind fun z21 => some (z21))
noncomputable def h_slices_Clone_graph_Arc_graph_Arc : Hn Tryz.prog := .two 4 (.nil) (.nil)
noncomputable def sp_slices_Clone_graph_Arc_graph_Arc : Spec := ⟨57, ⟨[(0, .dat Yq5)], []⟩, [⟨[(0, .own 79 (.cons Yq2 (.one Yq2)))], []⟩], fun x => fn_slices_Clone_graph_Arc_graph_Arc x⟩
theorem slices_Clone_graph_Arc_graph_Arc_is : SpecOk Tryz.prog sp_slices_Clone_graph_Arc_graph_Arc := fn_is func57 h_slices_Clone_graph_Arc_graph_Arc (by kernel_rfl) (by kernel_rfl)
noncomputable def ok_slices_Clone_graph_Arc_graph_Arc : OkSpec Tryz.prog := ⟨sp_slices_Clone_graph_Arc_graph_Arc, slices_Clone_graph_Arc_graph_Arc_is, call57⟩

noncomputable def fn_graph_New_1 (xa : (Int × Int)) : Option Int :=
  some (xa.1)
noncomputable def h_graph_New_1 : Hn Tryz.prog := .nil
noncomputable def sp_graph_New_1 : Spec := ⟨59, ⟨[(0, .dat (.cons Yq2 (.one Yq2)))], []⟩, [⟨[kdI 0], []⟩], fun x => fn_graph_New_1 x⟩
theorem graph_New_1_is : SpecOk Tryz.prog sp_graph_New_1 := fn_is func59 h_graph_New_1 (by kernel_rfl) (by kernel_rfl)
noncomputable def ok_graph_New_1 : OkSpec Tryz.prog := ⟨sp_graph_New_1, graph_New_1_is, call59⟩
noncomputable def fn_graph_indexed_ik_graph_New_1_l1 (xb : Tq5) : Tq7 → Option (Tq7 ⊕ (List Int)) := fun ((i3260, l3261) : Tq7) => cond (decide (i3260 < (xb.length : Int))) ((getI xb i3260).bind fun x3370 => (fn_graph_New_1 (x3370.1, x3370.2)).bind fun i3442 => (getI l3261 (IntKind.wrap .i64 (i3442 + 1))).bind fun x3446 => (getI l3261 (IntKind.wrap .i64 (i3442 + 1))).bind fun x3453 => (some (l3261.set (IntKind.wrap .i64 (i3442 + 1)).toNat (IntKind.wrap .i64 (x3446 + 1)))).bind fun z3460 => some (.inl ((IntKind.wrap .i64 (i3260 + 1), z3460)))) (some (.inr (l3261)))
noncomputable def fn_graph_indexed_ik_graph_New_1_l2 (xa : Int) : Tq7 → Option (Tq7 ⊕ (List Int)) := fun ((i3855, l3856) : Tq7) => cond (decide (i3855 < xa)) ((getI l3856 (IntKind.wrap .i64 (i3855 + 1))).bind fun x4022 => (getI l3856 i3855).bind fun x4029 => (getI l3856 (IntKind.wrap .i64 (i3855 + 1))).bind fun x4036 => (some (l3856.set (IntKind.wrap .i64 (i3855 + 1)).toNat (IntKind.wrap .i64 (x4022 + x4029)))).bind fun z4043 => some (.inl ((IntKind.wrap .i64 (i3855 + 1), z4043)))) (some (.inr (l3856)))
noncomputable def fn_graph_indexed_ik_graph_New_1_l3 (xb : Tq5) : ((List Int) × Int × (List Int)) → Option (((List Int) × Int × (List Int)) ⊕ (List Int)) := fun ((l4499, i4504, l4505) : ((List Int) × Int × (List Int))) => cond (decide (i4504 < (xb.length : Int))) ((getI xb i4504).bind fun x4620 => (fn_graph_New_1 (x4620.1, x4620.2)).bind fun i4632 => (getI l4499 i4632).bind fun x4678 => (getI l4505 x4678).bind fun x4685 => (some (l4505.set x4678.toNat i4504)).bind fun z4692 => (getI l4499 i4632).bind fun x4697 => (getI l4499 i4632).bind fun x4704 => (some (l4499.set i4632.toNat (IntKind.wrap .i64 (x4697 + 1)))).bind fun z4711 => some (.inl ((z4711, IntKind.wrap .i64 (i4504 + 1), z4692)))) (some (.inr (l4505)))
noncomputable def fn_graph_indexed_ik_graph_New_1 (xa : Int) (xb : Tq5) : Option (Tq2) :=
  (((mk (IntKind.wrap .i64 (xa + 1)) (IntKind.wrap .i64 (xa + 1)) 0 : Option (List Int)).bind fun z2781 => ((mk (xb.length : Int) (xb.length : Int) 0 : Option (List Int)).bind fun z2786 => some ((z2781, z2786))).bind fun x2798 => ((mk (xb.length : Int) (xb.length : Int) 0 : Option (List Int)).bind fun z2793 => some ((z2781, z2793))).bind fun y2799 => agr x2798 y2799 (some x2798)).bind fun x2844 => (((mk (xb.length : Int) (xb.length : Int) 0 : Option (List Int)).bind fun z2800 => ((mk (IntKind.wrap .i64 (xa + 1)) (IntKind.wrap .i64 (xa + 1)) 0 : Option (List Int)).bind fun z2805 => some ((z2805, z2800))).bind fun x2817 => ((mk (IntKind.wrap .i64 (xa + 1)) (IntKind.wrap .i64 (xa + 1)) 0 : Option (List Int)).bind fun z2812 => some ((z2812, z2800))).bind fun y2818 => agr x2817 y2818 (some x2817)).bind fun x2842 => (((mk (IntKind.wrap .i64 (xa + 1)) (IntKind.wrap .i64 (xa + 1)) 0 : Option (List Int)).bind fun z2820 => (mk (xb.length : Int) (xb.length : Int) 0 : Option (List Int)).bind fun z2825 => some ((z2820, z2825))).bind fun x2840 => ((mk (xb.length : Int) (xb.length : Int) 0 : Option (List Int)).bind fun z2830 => (mk (IntKind.wrap .i64 (xa + 1)) (IntKind.wrap .i64 (xa + 1)) 0 : Option (List Int)).bind fun z2835 => some ((z2835, z2830))).bind fun y2841 => agr x2840 y2841 (some x2840)).bind fun y2843 => agr x2842 y2843 (some x2842)).bind fun y2845 => agr x2844 y2845 (some x2844) : Option (Tq2)).bind fun (l2706, l2711) => (loop (fn_graph_indexed_ik_graph_New_1_l1 xb) (0, l2706) : Option (List Int)).bind fun l3153 => (loop (fn_graph_indexed_ik_graph_New_1_l2 xa) (0, l3153) : Option (List Int)).bind fun l3754 => (fn_slices_Clone_int_int l3754).bind fun l4053 => (loop (fn_graph_indexed_ik_graph_New_1_l3 xb) (l4053, 0, l2711) : Option (List Int)).bind fun l4386 => some ((l3754, l4386))
noncomputable def h_graph_indexed_ik_graph_New_1 : Hn Tryz.prog := .tr (.still [0, 1, 3, 4] (.alt 2 (.alt 5 (.still [6] (.alt 7 (.alt 8 (.leaf []) .done) .done)) (.alt 7 (.alt 5 (.still [6] (.alt 8 (.leaf []) .done)) .done) .done)) (.alt 5 (.alt 2 (.still [6] (.alt 7 (.alt 8 (.leaf []) .done) .done)) (.alt 7 (.alt 2 (.still [6] (.alt 8 (.leaf []) .done)) .done) .done)) (.alt 7 (.alt 2 (.alt 5 (.still [6] (.alt 8 (.leaf []) .done)) .done) (.alt 5 (.alt 2 (.still [6] (.alt 8 (.leaf []) .done)) .done) .done)) .done)))) ⟨[(7, .ptr 0 0)], [bkN 126 [.own 3 Yq2, .own 3 Yq2]]⟩ [] (.two 0 (.two 0 (.nil) (.nil)) (.two 0 (.two 0 (.nil) (.nil)) (.two 0 (.nil) (.nil)))) (.jn [(2, 1)] ⟨[], [bkC 2 126 [.own 3 Yq2, .is 1 (.any)], bkU 8]⟩ [2, 3] (.lp ⟨[kdI 24], [bkC 2 126 [.own 3 Yq2, .is 1 (.any)], bkU 8]⟩ (.tw 25 (.mix [([0, 1, 2, 3], 4)] [5, 6, 7, 8, 9] [10] [] (.cl ok_graph_New_1 [] (.nil))) (.nil))) (.jn [] ⟨[], [bkC 2 126 [.own 3 Yq2, .is 1 (.any)], bkU 8]⟩ [2, 9] (.lp ⟨[kdI 40], [bkC 2 126 [.own 3 Yq2, .is 1 (.any)], bkU 8]⟩ (.tw 41 (.mix [] [0, 1, 2, 3, 4, 5, 6, 7, 8, 9, 10, 11, 12] [13] [] (.nil)) (.nil))) (.per 12 13 (.cl ok_slices_Clone_int_int [] (.jn [(2, 0)] ⟨[(59, .any), (11, .any)], [bkC 2 126 [.is 1 (.any), .own 3 Yq2], bkU 17]⟩ [15, 2, 5] (.lp ⟨[(11, .own 3 Yq2), kdI 62], [bkC 2 126 [.is 1 (.any), .own 3 Yq2], bkU 17]⟩ (.tw 63 (.cl ok_graph_New_1 [] (.mix [] [0, 1, 2, 3, 4, 5, 6, 7] [8] [] (.nil))) (.nil))) (.nil))))))
noncomputable def sp_graph_indexed_ik_graph_New_1 : Spec := ⟨58, ⟨[kdI 0, (1, .dat Yq5), (2, .fn 59 [])], []⟩, [⟨[(0, .agg [.dat (.sl Yq2), .own 3 Yq2])], []⟩], fun x => fn_graph_indexed_ik_graph_New_1 x.1 x.2⟩
theorem graph_indexed_ik_graph_New_1_is : SpecOk Tryz.prog sp_graph_indexed_ik_graph_New_1 := fn_is func58 h_graph_indexed_ik_graph_New_1 (by kernel_rfl) (by kernel_rfl)
noncomputable def ok_graph_indexed_ik_graph_New_1 : OkSpec Tryz.prog := ⟨sp_graph_indexed_ik_graph_New_1, graph_indexed_ik_graph_New_1_is, call58⟩

noncomputable def fn_graph_New_2 (xa : (Int × Int)) : Option Int :=
  some (xa.2)
noncomputable def h_graph_New_2 : Hn Tryz.prog := .nil
noncomputable def sp_graph_New_2 : Spec := ⟨60, ⟨[(0, .dat (.cons Yq2 (.one Yq2)))], []⟩, [⟨[kdI 0], []⟩], fun x => fn_graph_New_2 x⟩
theorem graph_New_2_is : SpecOk Tryz.prog sp_graph_New_2 := fn_is func60 h_graph_New_2 (by kernel_rfl) (by kernel_rfl)
noncomputable def ok_graph_New_2 : OkSpec Tryz.prog := ⟨sp_graph_New_2, graph_New_2_is, call60⟩
noncomputable def fn_graph_indexed_ik_graph_New_2_l1 (xb : Tq5) : Tq7 → Option (Tq7 ⊕ (List Int)) := fun ((i3260, l3261) : Tq7) => cond (decide (i3260 < (xb.length : Int))) ((getI xb i3260).bind fun x3370 => (fn_graph_New_2 (x3370.1, x3370.2)).bind fun i3442 => (getI l3261 (IntKind.wrap .i64 (i3442 + 1))).bind fun x3446 => (getI l3261 (IntKind.wrap .i64 (i3442 + 1))).bind fun x3453 => (some (l3261.set (IntKind.wrap .i64 (i3442 + 1)).toNat (IntKind.wrap .i64 (x3446 + 1)))).bind fun z3460 => some (.inl ((IntKind.wrap .i64 (i3260 + 1), z3460)))) (some (.inr (l3261)))
noncomputable def fn_graph_indexed_ik_graph_New_2_l2 (xa : Int) : Tq7 → Option (Tq7 ⊕ (List Int)) := fun ((i3855, l3856) : Tq7) => cond (decide (i3855 < xa)) ((getI l3856 (IntKind.wrap .i64 (i3855 + 1))).bind fun x4022 => (getI l3856 i3855).bind fun x4029 => (getI l3856 (IntKind.wrap .i64 (i3855 + 1))).bind fun x4036 => (some (l3856.set (IntKind.wrap .i64 (i3855 + 1)).toNat (IntKind.wrap .i64 (x4022 + x4029)))).bind fun z4043 => some (.inl ((IntKind.wrap .i64 (i3855 + 1), z4043)))) (some (.inr (l3856)))
noncomputable def fn_graph_indexed_ik_graph_New_2_l3 (xb : Tq5) : ((List Int) × Int × (List Int)) → Option (((List Int) × Int × (List Int)) ⊕ (List Int)) := fun ((l4499, i4504, l4505) : ((List Int) × Int × (List Int))) => cond (decide (i4504 < (xb.length : Int))) ((getI xb i4504).bind fun x4620 => (fn_graph_New_2 (x4620.1, x4620.2)).bind fun i4632 => (getI l4499 i4632).bind fun x4678 => (getI l4505 x4678).bind fun x4685 => (some (l4505.set x4678.toNat i4504)).bind fun z4692 => (getI l4499 i4632).bind fun x4697 => (getI l4499 i4632).bind fun x4704 => (some (l4499.set i4632.toNat (IntKind.wrap .i64 (x4697 + 1)))).bind fun z4711 => some (.inl ((z4711, IntKind.wrap .i64 (i4504 + 1), z4692)))) (some (.inr (l4505)))
noncomputable def fn_graph_indexed_ik_graph_New_2 (xa : Int) (xb : Tq5) : Option (Tq2) :=
  (((mk (IntKind.wrap .i64 (xa + 1)) (IntKind.wrap .i64 (xa + 1)) 0 : Option (List Int)).bind fun z2781 => ((mk (xb.length : Int) (xb.length : Int) 0 : Option (List Int)).bind fun z2786 => some ((z2781, z2786))).bind fun x2798 => ((mk (xb.length : Int) (xb.length : Int) 0 : Option (List Int)).bind fun z2793 => some ((z2781, z2793))).bind fun y2799 => agr x2798 y2799 (some x2798)).bind fun x2844 => (((mk (xb.length : Int) (xb.length : Int) 0 : Option (List Int)).bind fun z2800 => ((mk (IntKind.wrap .i64 (xa + 1)) (IntKind.wrap .i64 (xa + 1)) 0 : Option (List Int)).bind fun z2805 => some ((z2805, z2800))).bind fun x2817 => ((mk (IntKind.wrap .i64 (xa + 1)) (IntKind.wrap .i64 (xa + 1)) 0 : Option (List Int)).bind fun z2812 => some ((z2812, z2800))).bind fun y2818 => agr x2817 y2818 (some x2817)).bind fun x2842 => (((mk (IntKind.wrap .i64 (xa + 1)) (IntKind.wrap .i64 (xa + 1)) 0 : Option (List Int)).bind fun z2820 => (mk (xb.length : Int) (xb.length : Int) 0 : Option (List Int)).bind fun z2825 => some ((z2820, z2825))).bind fun x2840 => ((mk (xb.length : Int) (xb.length : Int) 0 : Option (List Int)).bind fun z2830 => (mk (IntKind.wrap .i64 (xa + 1)) (IntKind.wrap .i64 (xa + 1)) 0 : Option (List Int)).bind fun z2835 => some ((z2835, z2830))).bind fun y2841 => agr x2840 y2841 (some x2840)).bind fun y2843 => agr x2842 y2843 (some x2842)).bind fun y2845 => agr x2844 y2845 (some x2844) : Option (Tq2)).bind fun (l2706, l2711) => (loop (fn_graph_indexed_ik_graph_New_2_l1 xb) (0, l2706) : Option (List Int)).bind fun l3153 => (loop (fn_graph_indexed_ik_graph_New_2_l2 xa) (0, l3153) : Option (List Int)).bind fun l3754 => (fn_slices_Clone_int_int l3754).bind fun l4053 => (loop (fn_graph_indexed_ik_graph_New_2_l3 xb) (l4053, 0, l2711) : Option (List Int)).bind fun l4386 => some ((l3754, l4386))
noncomputable def h_graph_indexed_ik_graph_New_2 : Hn Tryz.prog := .tr (.still [0, 1, 3, 4] (.alt 2 (.alt 5 (.still [6] (.alt 7 (.alt 8 (.leaf []) .done) .done)) (.alt 7 (.alt 5 (.still [6] (.alt 8 (.leaf []) .done)) .done) .done)) (.alt 5 (.alt 2 (.still [6] (.alt 7 (.alt 8 (.leaf []) .done) .done)) (.alt 7 (.alt 2 (.still [6] (.alt 8 (.leaf []) .done)) .done) .done)) (.alt 7 (.alt 2 (.alt 5 (.still [6] (.alt 8 (.leaf []) .done)) .done) (.alt 5 (.alt 2 (.still [6] (.alt 8 (.leaf []) .done)) .done) .done)) .done)))) ⟨[(7, .ptr 0 0)], [bkN 126 [.own 3 Yq2, .own 3 Yq2]]⟩ [] (.two 0 (.two 0 (.nil) (.nil)) (.two 0 (.two 0 (.nil) (.nil)) (.two 0 (.nil) (.nil)))) (.jn [(2, 1)] ⟨[], [bkC 2 126 [.own 3 Yq2, .is 1 (.any)], bkU 8]⟩ [2, 3] (.lp ⟨[kdI 24], [bkC 2 126 [.own 3 Yq2, .is 1 (.any)], bkU 8]⟩ (.tw 25 (.mix [([0, 1, 2, 3], 4)] [5, 6, 7, 8, 9] [10] [] (.cl ok_graph_New_2 [] (.nil))) (.nil))) (.jn [] ⟨[], [bkC 2 126 [.own 3 Yq2, .is 1 (.any)], bkU 8]⟩ [2, 9] (.lp ⟨[kdI 40], [bkC 2 126 [.own 3 Yq2, .is 1 (.any)], bkU 8]⟩ (.tw 41 (.mix [] [0, 1, 2, 3, 4, 5, 6, 7, 8, 9, 10, 11, 12] [13] [] (.nil)) (.nil))) (.per 12 13 (.cl ok_slices_Clone_int_int [] (.jn [(2, 0)] ⟨[(59, .any), (11, .any)], [bkC 2 126 [.is 1 (.any), .own 3 Yq2], bkU 17]⟩ [15, 2, 5] (.lp ⟨[(11, .own 3 Yq2), kdI 62], [bkC 2 126 [.is 1 (.any), .own 3 Yq2], bkU 17]⟩ (.tw 63 (.cl ok_graph_New_2 [] (.mix [] [0, 1, 2, 3, 4, 5, 6, 7] [8] [] (.nil))) (.nil))) (.nil))))))
noncomputable def sp_graph_indexed_ik_graph_New_2 : Spec := ⟨58, ⟨[kdI 0, (1, .dat Yq5), (2, .fn 60 [])], []⟩, [⟨[(0, .agg [.dat (.sl Yq2), .own 3 Yq2])], []⟩], fun x => fn_graph_indexed_ik_graph_New_2 x.1 x.2⟩
theorem graph_indexed_ik_graph_New_2_is : SpecOk Tryz.prog sp_graph_indexed_ik_graph_New_2 := fn_is func58 h_graph_indexed_ik_graph_New_2 (by kernel_rfl) (by kernel_rfl)
noncomputable def ok_graph_indexed_ik_graph_New_2 : OkSpec Tryz.prog := ⟨sp_graph_indexed_ik_graph_New_2, graph_indexed_ik_graph_New_2_is, call58⟩
noncomputable def fn_graph_New_l1 (xa : Int) (xb : Tq5) : Int → Option (Int ⊕ (Unit ⊕ (Tq10 × Int))) := fun (i289 : Int) => cond (decide (i289 < (xb.length : Int))) ((getI xb i289).bind fun x314 => cond ((((decide (x314.1 < 0)) || (decide (xa ≤ x314.1))) || (decide (x314.2 < 0))) || (decide (xa ≤ x314.2))) (some (.inr ((.inr ((none, 7)))))) (some (.inl (IntKind.wrap .i64 (i289 + 1))))) (some (.inr ((.inl ()))))
noncomputable def fn_graph_New (xa : Int) (xb : Tq5) : Option ((Tq10 × Int)) :=
  cond (decide (xa < 0)) (some ((none, 2))) (cond ((decide (1048576 < xa)) || (decide (67108864 < (xb.length : Int)))) (some ((none, 5))) ((loop (fn_graph_New_l1 xa xb) 0 : Option (Unit ⊕ (Tq10 × Int))).bind fun o => match o with | .inr r => some r | .inl () => (fn_slices_Clone_graph_Arc_graph_Arc xb).bind fun l336 => (fn_graph_indexed_ik_graph_New_1 xa l336).bind fun (l350, l351) => (fn_graph_indexed_ik_graph_New_2 xa l336).bind fun (l364, l365) => some (((some ((xa, l336, (l350, l351), (l364, l365)))), 0))))
noncomputable def h_graph_New : Hn Tryz.prog := .tw 10 (.nil) (.gp 3 (.tw 17 (.nil) (.jx [] ⟨[], []⟩ [] (.lp ⟨[kdI 20], []⟩ (.tw 21 (.gp 4 (.wt 33 (.gp 3 (.wt 38 (.gp 4 (.tw 43 (.nil) (.nil))))))) (.nil))) (.cl ok_slices_Clone_graph_Arc_graph_Arc [] (.per 0 1 (.cl ok_graph_indexed_ik_graph_New_1 [] (.cl ok_graph_indexed_ik_graph_New_2 [] (.per 4 5 (.per 7 8 (.perb 2 9 Yq4 (.nil)))))))))))
noncomputable def sp_graph_New : Spec := ⟨32, ⟨[kdI 0, (1, .dat Yq5)], []⟩, [⟨[(0, .tup [.dat (.ptr Yq4), .dat Yq2])], []⟩], fun x => fn_graph_New x.1 x.2⟩
theorem graph_New_is : SpecOk Tryz.prog sp_graph_New := fn_is func32 h_graph_New (by kernel_rfl) (by kernel_rfl)
noncomputable def ok_graph_New : OkSpec Tryz.prog := ⟨sp_graph_New, graph_New_is, call32⟩
noncomputable def fn_flow_New_l1 (i3768 : Int) (l4065 : (List Int)) : (Tq5 × Int) → Option ((Tq5 × Int) ⊕ Tq5) := fun ((l4206, i4211) : (Tq5 × Int)) => cond (decide (i4211 < (l4065.length : Int))) ((getI l4065 i4211).bind fun x4237 => (app l4206 (([(i3768, x4237)] : List (Int × Int)))).bind fun z4247 => some (.inl ((z4247, IntKind.wrap .i64 (i4211 + 1))))) (some (.inr (l4206)))
noncomputable def fn_flow_New_l2 (xa : Tq1) (p2743 : (Option Tq15)) (l2751 : (List Int)) (i2761 : Int) : (Tq5 × Int) → Option ((Tq5 × Int) ⊕ Tq5) := fun ((l3763, i3768) : (Tq5 × Int)) => cond (decide (i3768 < i2761)) ((fn_point_Points_At p2743 i3768).bind fun (i4018, i4019, t4020) => ((fn_point_Points_Ends p2743 i3768).bind fun t4072 => cond (t4072) ((getI xa.2.2.2.2.2.2 i4018).bind fun x4077 => (fn_flow_heads (x4077.2.1, x4077.2.2.1, x4077.2.2.2.1, x4077.2.2.2.2.1, x4077.2.2.2.2.2.1, x4077.2.2.2.2.2.2) l2751).bind fun l4100 => some (l4100)) (some (([IntKind.wrap .i64 (i3768 + 1)] : List Int))) : Option (List Int)).bind fun l4065 => (loop (fn_flow_New_l1 i3768 l4065) (l3763, 0) : Option (Tq5)).bind fun l4178 => some (.inl ((l4178, IntKind.wrap .i64 (i3768 + 1))))) (some (.inr (l3763)))
noncomputable def fn_flow_New (xa : Tq1) : Option (Tq21) :=
  (fn_point_New xa).bind fun p2743 => (fn_point_Points_Begins p2743).bind fun l2751 => (fn_point_Points_Len p2743).bind fun i2761 => (loop (fn_flow_New_l2 xa p2743 l2751 i2761) ([], 0) : Option (Tq5)).bind fun l3508 => (fn_point_Points_Len p2743).bind fun i4255 => (fn_graph_New i4255 l3508).bind fun (p4264, i4265) => some ((some (p2743, p4264)))
noncomputable def h_flow_New : Hn Tryz.prog := .cl ok_point_New [] (.cl ok_point_Points_Begins [] (.cl ok_point_Points_Len [] (.per 2 3 (.jn [] ⟨[(5, .own 79 (.cons Yq2 (.one Yq2)))], []⟩ [] (.lp ⟨[(5, .own 79 (.cons Yq2 (.one Yq2))), kdI 21], []⟩ (.tw 22 (.cl ok_point_Points_At [] (.pl (.sq [] ⟨[(10, .own 3 Yq2)], []⟩ [6] (.cl ok_point_Points_Ends [] (.tw 36 (.cl ok_flow_heads [] (.nil)) (.nil))) (.jn [] ⟨[(5, .own 79 (.cons Yq2 (.one Yq2)))], []⟩ [4] (.lp ⟨[(5, .own 79 (.cons Yq2 (.one Yq2))), kdI 47], []⟩ (.tw 48 (.nil) (.nil))) (.nil))))) (.nil))) (.cl ok_point_Points_Len [] (.per 4 5 (.cl ok_graph_New [] (.perb 6 7 (.cons Yq12 (.one (.ptr Yq4))) (.nil)))))))))
noncomputable def sp_flow_New : Spec := ⟨7, ⟨[(0, .dat Yq1)], []⟩, [⟨[(0, .dat (.ptr (.cons Yq12 (.one (.ptr Yq4)))))], []⟩], fun x => fn_flow_New x⟩
theorem flow_New_is : SpecOk Tryz.prog sp_flow_New := fn_is func7 h_flow_New (by kernel_rfl) (by kernel_rfl)
noncomputable def ok_flow_New : OkSpec Tryz.prog := ⟨sp_flow_New, flow_New_is, call7⟩

noncomputable def fn_flow_Flow_ways (xa : Tq21) : Option (Tq10) :=
  cond (xa.isNone) (some (none)) ((xa : Option ((Option Tq15) × Tq10)).bind fun y15 => some (y15.2))
noncomputable def h_flow_Flow_ways : Hn Tryz.prog := .tw 4 (.nil) (.nil)
noncomputable def sp_flow_Flow_ways : Spec := ⟨39, ⟨[(0, .dat (.ptr (.cons Yq12 (.one (.ptr Yq4)))))], []⟩, [⟨[(0, .dat (.ptr Yq4))], []⟩], fun x => fn_flow_Flow_ways x⟩
theorem flow_Flow_ways_is : SpecOk Tryz.prog sp_flow_Flow_ways := fn_is func39 h_flow_Flow_ways (by kernel_rfl) (by kernel_rfl)
noncomputable def ok_flow_Flow_ways : OkSpec Tryz.prog := ⟨sp_flow_Flow_ways, flow_Flow_ways_is, call39⟩

noncomputable def fn_graph_Graph_Nodes (xa : Tq10) : Option Int :=
  cond (xa.isNone) (some (0)) ((xa : Option (Int × Tq5 × Tq2 × Tq2)).bind fun y11 => some (y11.1))
noncomputable def h_graph_Graph_Nodes : Hn Tryz.prog := .tw 4 (.nil) (.nil)
noncomputable def sp_graph_Graph_Nodes : Spec := ⟨102, ⟨[(0, .dat (.ptr Yq4))], []⟩, [⟨[kdI 0], []⟩], fun x => fn_graph_Graph_Nodes x⟩
theorem graph_Graph_Nodes_is : SpecOk Tryz.prog sp_graph_Graph_Nodes := fn_is func102 h_graph_Graph_Nodes (by kernel_rfl) (by kernel_rfl)
noncomputable def ok_graph_Graph_Nodes : OkSpec Tryz.prog := ⟨sp_graph_Graph_Nodes, graph_Graph_Nodes_is, call102⟩

noncomputable def fn_graph_Graph_isNode (xa : Tq10) (xb : Int) : Option Bool :=
  (cond (decide (0 ≤ xb)) ((fn_graph_Graph_Nodes xa).bind fun i28 => some (decide (xb < i28))) (some (false))).bind fun t24 => some (t24)
noncomputable def h_graph_Graph_isNode : Hn Tryz.prog := .gj 4 ⟨[kdB 12], []⟩ [] (.two 7 (.cl ok_graph_Graph_Nodes [] (.nil)) (.nil)) (.nil)
noncomputable def sp_graph_Graph_isNode : Spec := ⟨75, ⟨[(0, .dat (.ptr Yq4)), kdI 1], []⟩, [⟨[kdB 0], []⟩], fun x => fn_graph_Graph_isNode x.1 x.2⟩
theorem graph_Graph_isNode_is : SpecOk Tryz.prog sp_graph_Graph_isNode := fn_is func75 h_graph_Graph_isNode (by kernel_rfl) (by kernel_rfl)
noncomputable def ok_graph_Graph_isNode : OkSpec Tryz.prog := ⟨sp_graph_Graph_isNode, graph_Graph_isNode_is, call75⟩

noncomputable def fn_graph_index_of (xa : Tq2) (xb : Int) : Option (List Int) :=
  (getI xa.1 xb).bind fun x175 => (getI xa.1 (IntKind.wrap .i64 (xb + 1))).bind fun x184 => (subL xa.2 x175 x184).bind fun y193 => some (y193)
noncomputable def h_graph_index_of : Hn Tryz.prog := .mix [] [0, 1, 2, 3, 4, 5, 6, 7, 8, 9, 10, 11, 12, 13, 14] [] [] (.nil)
noncomputable def sp_graph_index_of : Spec := ⟨76, ⟨[(0, .dat Yq7), kdI 1], []⟩, [⟨[(0, .dat (.sl Yq2))], []⟩], fun x => fn_graph_index_of x.1 x.2⟩
theorem graph_index_of_is : SpecOk Tryz.prog sp_graph_index_of := fn_is func76 h_graph_index_of (by kernel_rfl) (by kernel_rfl)
noncomputable def ok_graph_index_of : OkSpec Tryz.prog := ⟨sp_graph_index_of, graph_index_of_is, call76⟩

noncomputable def fn_graph_Graph_In (xa : Tq10) (xb : Int) : Option (List Int) :=
  (fn_graph_Graph_isNode xa xb).bind fun t48 => cond (!t48) (some ([])) ((xa : Option (Int × Tq5 × Tq2 × Tq2)).bind fun y54 => (fn_graph_index_of (y54.2.2.2.1, y54.2.2.2.2) xb).bind fun l70 => (fn_slices_Clone_int_int l70).bind fun l79 => some (l79))
noncomputable def h_graph_Graph_In : Hn Tryz.prog := .cl ok_graph_Graph_isNode [] (.tw 8 (.nil) (.cl ok_graph_index_of [] (.cl ok_slices_Clone_int_int [] (.nil))))
noncomputable def sp_graph_Graph_In : Spec := ⟨64, ⟨[(0, .dat (.ptr Yq4)), kdI 1], []⟩, [⟨[(0, .own 3 Yq2)], []⟩], fun x => fn_graph_Graph_In x.1 x.2⟩
theorem graph_Graph_In_is : SpecOk Tryz.prog sp_graph_Graph_In := fn_is func64 h_graph_Graph_In (by kernel_rfl) (by kernel_rfl)
noncomputable def ok_graph_Graph_In : OkSpec Tryz.prog := ⟨sp_graph_Graph_In, graph_Graph_In_is, call64⟩

noncomputable def fn_graph_Graph_Arcs (xa : Tq10) : Option Int :=
  cond (xa.isNone) (some (0)) ((xa : Option (Int × Tq5 × Tq2 × Tq2)).bind fun y14 => some (y14.2.1.length : Int))
noncomputable def h_graph_Graph_Arcs : Hn Tryz.prog := .tw 4 (.nil) (.nil)
noncomputable def sp_graph_Graph_Arcs : Spec := ⟨80, ⟨[(0, .dat (.ptr Yq4))], []⟩, [⟨[kdI 0], []⟩], fun x => fn_graph_Graph_Arcs x⟩
theorem graph_Graph_Arcs_is : SpecOk Tryz.prog sp_graph_Graph_Arcs := fn_is func80 h_graph_Graph_Arcs (by kernel_rfl) (by kernel_rfl)
noncomputable def ok_graph_Graph_Arcs : OkSpec Tryz.prog := ⟨sp_graph_Graph_Arcs, graph_Graph_Arcs_is, call80⟩

noncomputable def fn_graph_Graph_Arc (xa : Tq10) (xb : Int) : Option Tq19 :=
  (cond (decide (xb < 0)) (some (true)) ((fn_graph_Graph_Arcs xa).bind fun i52 => some (decide (i52 ≤ xb)))).bind fun t48 => cond (t48) (some ((0, 0, false))) ((xa : Option (Int × Tq5 × Tq2 × Tq2)).bind fun y57 => (getI y57.2.1 xb).bind fun x67 => some ((x67.1, x67.2, true)))
noncomputable def h_graph_Graph_Arc : Hn Tryz.prog := .gj 4 ⟨[kdB 13], []⟩ [] (.two 8 (.nil) (.cl ok_graph_Graph_Arcs [] (.nil))) (.tw 13 (.nil) (.nil))
noncomputable def sp_graph_Graph_Arc : Spec := ⟨65, ⟨[(0, .dat (.ptr Yq4)), kdI 1], []⟩, [⟨[(0, .tup [.agg [.dat Yq2, .dat Yq2], .dat .bool])], []⟩], fun x => fn_graph_Graph_Arc x.1 x.2⟩
theorem graph_Graph_Arc_is : SpecOk Tryz.prog sp_graph_Graph_Arc := fn_is func65 h_graph_Graph_Arc (by kernel_rfl) (by kernel_rfl)
noncomputable def ok_graph_Graph_Arc : OkSpec Tryz.prog := ⟨sp_graph_Graph_Arc, graph_Graph_Arc_is, call65⟩
noncomputable def fn_flow_Flow_Back_l1 (xa : Tq21) (l476 : (List Int)) : Tq15 → Option (Tq15 ⊕ (List Int)) := fun ((l666, i671) : Tq15) => cond (decide (i671 < (l476.length : Int))) ((getI l666 i671).bind fun x718 => (xa : Option ((Option Tq15) × Tq10)).bind fun y725 => (fn_graph_Graph_Arc y725.2 x718).bind fun (i736, i737, t738) => (getI l666 i671).bind fun x743 => (some (l666.set i671.toNat i736)).bind fun z750 => some (.inl ((z750, IntKind.wrap .i64 (i671 + 1))))) (some (.inr (l666)))
noncomputable def fn_flow_Flow_Back (xa : Tq21) (xb : Int) : Option (List Int) :=
  (fn_flow_Flow_ways xa).bind fun p468 => (fn_graph_Graph_In p468 xb).bind fun l476 => (loop (fn_flow_Flow_Back_l1 xa l476) (l476, 0) : Option (List Int)).bind fun l617 => some (l617)
noncomputable def h_flow_Flow_Back : Hn Tryz.prog := .cl ok_flow_Flow_ways [] (.cl ok_graph_Graph_In [] (.jn [] ⟨[(5, .own 3 Yq2), (13, .any), (14, .any)], []⟩ [0] (.lp ⟨[(5, .own 3 Yq2), (14, .al 0), kdI 16], []⟩ (.tw 17 (.cl ok_graph_Graph_Arc [] (.nil)) (.nil))) (.nil)))
noncomputable def sp_flow_Flow_Back : Spec := ⟨44, ⟨[(0, .dat (.ptr (.cons Yq12 (.one (.ptr Yq4))))), kdI 1], []⟩, [⟨[(0, .own 3 Yq2)], []⟩], fun x => fn_flow_Flow_Back x.1 x.2⟩
theorem flow_Flow_Back_is : SpecOk Tryz.prog sp_flow_Flow_Back := fn_is func44 h_flow_Flow_Back (by kernel_rfl) (by kernel_rfl)
noncomputable def ok_flow_Flow_Back : OkSpec Tryz.prog := ⟨sp_flow_Flow_Back, flow_Flow_Back_is, call44⟩
noncomputable def fn_live_backs_l1 (xa : Tq21) (z344 : List (List Int)) : ((List (List Int)) × Int) → Option (((List (List Int)) × Int) ⊕ (List (List Int))) := fun ((l488, i493) : ((List (List Int)) × Int)) => cond (decide (i493 < (z344.length : Int))) ((fn_flow_Flow_Back xa i493).bind fun l532 => (getI l488 i493).bind fun x540 => (some (l488.set i493.toNat l532)).bind fun z550 => some (.inl ((z550, IntKind.wrap .i64 (i493 + 1))))) (some (.inr (l488)))
noncomputable def fn_live_backs (xa : Tq21) (xb : Int) : Option ((List (List Int))) :=
  (mk xb xb ([]) : Option (List (List Int))).bind fun z344 => (loop (fn_live_backs_l1 xa z344) (z344, 0) : Option ((List (List Int)))).bind fun l450 => some (l450)
noncomputable def h_live_backs : Hn Tryz.prog := .jn [] ⟨[(5, .own 40 (.sl Yq2)), (8, .any), (9, .any)], []⟩ [0] (.lp ⟨[(5, .own 40 (.sl Yq2)), kdI 11], []⟩ (.tw 12 (.cl ok_flow_Flow_Back [] (.per 4 5 (.nil))) (.nil))) (.nil)
noncomputable def sp_live_backs : Spec := ⟨22, ⟨[(0, .dat (.ptr (.cons Yq12 (.one (.ptr Yq4))))), kdI 1], []⟩, [⟨[(0, .own 40 (.sl Yq2))], []⟩], fun x => fn_live_backs x.1 x.2⟩
theorem live_backs_is : SpecOk Tryz.prog sp_live_backs := fn_is func22 h_live_backs (by kernel_rfl) (by kernel_rfl)
noncomputable def ok_live_backs : OkSpec Tryz.prog := ⟨sp_live_backs, live_backs_is, call22⟩

noncomputable def fn_touch_Touches_Of (xa : (Option Tq18)) (xb : Int) : Option (Tq2) :=
  (cond (xa.isNone || (decide (xb < 0))) (some (true)) ((xa : Option Tq18).bind fun y130 => some (decide ((y130.2.length : Int) ≤ xb)))).bind fun t128 => cond (t128) (some (([], []))) ((xa : Option Tq18).bind fun y143 => (getI y143.2 xb).bind fun x153 => (fn_slices_Clone_int_int x153.1).bind fun l203 => (fn_slices_Clone_int_int x153.2).bind fun l213 => some ((l203, l213)))
noncomputable def h_touch_Touches_Of : Hn Tryz.prog := .gp 2 (.wt 13 (.gj 7 ⟨[kdB 21], []⟩ [] (.two 13 (.nil) (.nil)) (.tw 21 (.nil) (.mix [([0, 1, 3, 4], 2)] [] [5, 6, 7] [] (.cl ok_slices_Clone_int_int [] (.cl ok_slices_Clone_int_int [] (.nil)))))))
noncomputable def sp_touch_Touches_Of : Spec := ⟨23, ⟨[(0, .dat (.ptr Yq14)), kdI 1], []⟩, [⟨[(0, .tup [.own 3 Yq2, .own 3 Yq2])], []⟩], fun x => fn_touch_Touches_Of x.1 x.2⟩
theorem touch_Touches_Of_is : SpecOk Tryz.prog sp_touch_Touches_Of := fn_is func23 h_touch_Touches_Of (by kernel_rfl) (by kernel_rfl)
noncomputable def ok_touch_Touches_Of : OkSpec Tryz.prog := ⟨sp_touch_Touches_Of, touch_Touches_Of_is, call23⟩

noncomputable def fn_dense_New (xa : Int) : Option ((Int ⊕ (Int × Int × (List Int)))) :=
  cond (decide (xa < 0)) (some (.inl 2)) (cond (decide (1048576 < xa)) (some (.inl 5)) ((mk (IntKind.wrap .i64 (Int.tdiv (IntKind.wrap .i64 ((IntKind.wrap .i64 (xa + 64)) - 1)) 64)) (IntKind.wrap .i64 (Int.tdiv (IntKind.wrap .i64 ((IntKind.wrap .i64 (xa + 64)) - 1)) 64)) 0 : Option (List Int)).bind fun z20 => some (.inr (0, xa, z20))))
noncomputable def h_dense_New : Hn Tryz.prog := .tw 5 (.nil) (.tw 7 (.nil) (.pl (.pl (.nil))))
noncomputable def sp_dense_New : Spec := ⟨45, ⟨[kdI 0], []⟩, [⟨[(0, .tup [.nilp, .dat Yq2])], []⟩, ⟨[(0, .tup [.ptr 0 0, .dat Yq2])], [bkN 116 [.dat Yq2, .own 117 (.int .u64)]]⟩], fun x => fn_dense_New x⟩
theorem dense_New_is : SpecOk Tryz.prog sp_dense_New := fn_is func45 h_dense_New (by kernel_rfl) (by kernel_rfl)
noncomputable def ok_dense_New : OkSpec Tryz.prog := ⟨sp_dense_New, dense_New_is, call45⟩

noncomputable def fn_dense_Set_Size (xa : (Option Tq7)) : Option Int :=
  cond (xa.isNone) (some (0)) ((xa : Option Tq7).bind fun y11 => some (y11.1))
noncomputable def h_dense_Set_Size : Hn Tryz.prog := .tw 4 (.nil) (.nil)
noncomputable def sp_dense_Set_Size : Spec := ⟨74, ⟨[(0, .dat Yq11)], []⟩, [⟨[kdI 0], []⟩], fun x => fn_dense_Set_Size x⟩
theorem dense_Set_Size_is : SpecOk Tryz.prog sp_dense_Set_Size := fn_is func74 h_dense_Set_Size (by kernel_rfl) (by kernel_rfl)
noncomputable def ok_dense_Set_Size : OkSpec Tryz.prog := ⟨sp_dense_Set_Size, dense_Set_Size_is, call74⟩

noncomputable def fn_dense_Set_mayHave (xa : (Option Tq7)) (xb : Int) : Option Bool :=
  (cond (decide (0 ≤ xb)) ((fn_dense_Set_Size xa).bind fun i28 => some (decide (xb < i28))) (some (false))).bind fun t24 => some (t24)
noncomputable def h_dense_Set_mayHave : Hn Tryz.prog := .gj 4 ⟨[kdB 12], []⟩ [] (.two 7 (.cl ok_dense_Set_Size [] (.nil)) (.nil)) (.nil)
noncomputable def sp_dense_Set_mayHave : Spec := ⟨61, ⟨[(0, .dat Yq11), kdI 1], []⟩, [⟨[kdB 0], []⟩], fun x => fn_dense_Set_mayHave x.1 x.2⟩
theorem dense_Set_mayHave_is : SpecOk Tryz.prog sp_dense_Set_mayHave := fn_is func61 h_dense_Set_mayHave (by kernel_rfl) (by kernel_rfl)
noncomputable def ok_dense_Set_mayHave : OkSpec Tryz.prog := ⟨sp_dense_Set_mayHave, dense_Set_mayHave_is, call61⟩

noncomputable def fn_dense_Set_Has (xa : (Option Tq7)) (xb : Int) : Option Bool :=
  (fn_dense_Set_mayHave xa xb).bind fun t200 => cond (t200) ((xa : Option Tq7).bind fun y205 => (getI y205.2 (IntKind.wrap .i64 (Int.tdiv xb 64))).bind fun x215 => (ge0 (Int.tmod xb 64)).bind fun u224 => some (!decide ((IntKind.wrap .u64 ((BitVec.ofInt (IntKind.bits .u64) x215 &&& BitVec.ofInt (IntKind.bits .u64) (IntKind.wrap .u64 (1 * 2 ^ (min (Int.toNat (Int.tmod xb 64)) (IntKind.bits .u64))))).toNat : Int)) = 0))) (some (false))
noncomputable def h_dense_Set_Has : Hn Tryz.prog := .mix [([0, 1], 2)] [3, 4, 5, 6, 7, 8, 9, 10, 11, 12, 13, 14, 15, 16, 17, 18] [] [] (.cl ok_dense_Set_mayHave [] (.two 8 (.nil) (.nil)))
noncomputable def sp_dense_Set_Has : Spec := ⟨38, ⟨[(0, .dat Yq11), kdI 1], []⟩, [⟨[kdB 0], []⟩], fun x => fn_dense_Set_Has x.1 x.2⟩
theorem dense_Set_Has_is : SpecOk Tryz.prog sp_dense_Set_Has := fn_is func38 h_dense_Set_Has (by kernel_rfl) (by kernel_rfl)
noncomputable def ok_dense_Set_Has : OkSpec Tryz.prog := ⟨sp_dense_Set_Has, dense_Set_Has_is, call38⟩

noncomputable def fn_dense_Set_Add_zi (xb : Int) : Option Bool :=
  (fn_dense_Set_mayHave ((none : (Option Tq7))) xb).bind fun t26 => (cond (!t26) (some (true)) ((fn_dense_Set_Has ((none : (Option Tq7))) xb).bind fun t41 => some (t41))).bind fun t37 => cond (t37) (some (false)) (none)
noncomputable def h_dense_Set_Add_zi : Hn Tryz.prog := .cl ok_dense_Set_mayHave [] (.gj 3 ⟨[kdB 13], []⟩ [] (.two 9 (.nil) (.cl ok_dense_Set_Has [] (.nil))) (.tw 13 (.nil) (.mix [] [0, 1, 2, 3, 4, 5, 6, 7, 8, 9, 10, 11, 12] [13] [] (.nil))))
noncomputable def sp_dense_Set_Add_zi : Spec := ⟨46, ⟨[(0, .nilp), kdI 1], []⟩, [⟨[kdB 0], []⟩], fun x => fn_dense_Set_Add_zi x⟩
theorem dense_Set_Add_zi_is : SpecOk Tryz.prog sp_dense_Set_Add_zi := fn_is func46 h_dense_Set_Add_zi (by kernel_rfl) (by kernel_rfl)
noncomputable def ok_dense_Set_Add_zi : OkSpec Tryz.prog := ⟨sp_dense_Set_Add_zi, dense_Set_Add_zi_is, call46⟩

noncomputable def fn_stack_Queue_int_grow_p0_riiod (qa0 : (List Int)) (qa1 : Int) (qa2 : Int) (qa3 : (Option Tq5)) : Option (((List Int) × (Option Tq5))) :=
  (mk (IntKind.wrap .i64 ((IntKind.wrap .i64 (2 * (qa0.length : Int))) + 1)) (IntKind.wrap .i64 ((IntKind.wrap .i64 (2 * (qa0.length : Int))) + 1)) 0 : Option (List Int)).bind fun z31 => (subL qa0 qa1 (qa0.length : Int)).bind fun _ => (some (cpy z31 ((0 : Int).toNat) ((List.drop (qa1 : Int).toNat (List.take ((qa0.length : Int) : Int).toNat qa0)).take (z31.length - (0 : Int).toNat)))).bind fun z38 => (subL z38 (((min (List.drop (qa1 : Int).toNat (List.take ((qa0.length : Int) : Int).toNat qa0)).length (z31.length - (0 : Int).toNat) : Nat) : Int)) (z31.length : Int)).bind fun _ => (subL qa0 0 qa1).bind fun _ => (some (cpy z38 ((((min (List.drop (qa1 : Int).toNat (List.take ((qa0.length : Int) : Int).toNat qa0)).length (z31.length - (0 : Int).toNat) : Nat) : Int) : Int).toNat) ((List.drop (0 : Int).toNat (List.take (qa1 : Int).toNat qa0)).take ((((z31.length : Int) : Int).toNat) - (((min (List.drop (qa1 : Int).toNat (List.take ((qa0.length : Int) : Int).toNat qa0)).length (z31.length - (0 : Int).toNat) : Nat) : Int) : Int).toNat)))).bind fun z42 => some ((z42, qa3))
noncomputable def h_stack_Queue_int_grow_p0_riiod : Hn Tryz.prog := .mix [] [0, 1, 2, 3, 4, 5, 6, 7, 8, 9] [10, 11] [] (.mix [] [0, 1, 2, 3, 4, 5, 6, 7, 8, 9, 10, 11] [12] [] (.nil))
noncomputable def sp_stack_Queue_int_grow_p0_riiod : Spec := ⟨82, ⟨[(0, .ptr 0 0)], [bkN 112 [.own 3 Yq2, .dat Yq2, .is 1 (.dat Yq2), .od (.obj 0 Yq5)], bkM]⟩, [⟨[], [bkC 0 112 [.own 3 Yq2, .lit (.int .i64 0), .is 1 (.any), .od (.obj 0 Yq5)], bkU 1]⟩], fun x => fn_stack_Queue_int_grow_p0_riiod x.1 x.2.1 x.2.2.1 x.2.2.2⟩
theorem stack_Queue_int_grow_p0_riiod_is : SpecOk Tryz.prog sp_stack_Queue_int_grow_p0_riiod := fn_is func82 h_stack_Queue_int_grow_p0_riiod (by kernel_rfl) (by kernel_rfl)
noncomputable def ok_stack_Queue_int_grow_p0_riiod : OkSpec Tryz.prog := ⟨sp_stack_Queue_int_grow_p0_riiod, stack_Queue_int_grow_p0_riiod_is, call82⟩
noncomputable def fn_stack_Queue_int_Push_p0k_riiod_l1 (xb : (List Int)) : Tq13 → Option (Tq13 ⊕ Tq14) := fun ((i1491, l1492, i1497, i1498, l1499) : Tq13) => cond (decide (i1491 < (xb.length : Int))) ((getI xb i1491).bind fun x1658 => (cond (decide (i1498 = (l1492.length : Int))) ((fn_stack_Queue_int_grow_p0_riiod l1492 i1497 i1498 l1499).bind fun (l1718, l1719) => some ((l1718, 0, l1719))) (some ((l1492, i1497, l1499))) : Option (((List Int) × Int × (Option Tq5)))).bind fun (l1694, i1699, l1700) => (nz (l1694.length : Int)).bind fun u1770 => (getI l1694 (Int.tmod (IntKind.wrap .i64 (i1699 + i1498)) (l1694.length : Int))).bind fun x1772 => (some (l1694.set (Int.tmod (IntKind.wrap .i64 (i1699 + i1498)) (l1694.length : Int)).toNat x1658)).bind fun z1779 => some (.inl ((IntKind.wrap .i64 (i1491 + 1), z1779, i1699, IntKind.wrap .i64 (i1498 + 1), l1700)))) (some (.inr (((l1492, i1497, i1498, l1499)))))
noncomputable def fn_stack_Queue_int_Push_p0k_riiod (xb : (List Int)) (qa0 : (List Int)) (qa1 : Int) (qa2 : Int) (qa3 : (Option Tq5)) : Option (Tq14) :=
  (loop (fn_stack_Queue_int_Push_p0k_riiod_l1 xb) (0, qa0, qa1, qa2, qa3) : Option (Tq14)).bind fun (l1336, i1341, i1342, l1343) => some ((l1336, i1341, i1342, l1343))
noncomputable def h_stack_Queue_int_Push_p0k_riiod : Hn Tryz.prog := .jn [] ⟨[], [bkC 0 112 [.own 3 Yq2, .dat Yq2, .dat Yq2, .od (.obj 0 Yq5)]]⟩ [1, 0, 3] (.lp ⟨[kdI 10], [bkC 0 112 [.own 3 Yq2, .dat Yq2, .dat Yq2, .od (.obj 0 Yq5)]]⟩ (.tw 11 (.pl (.pl (.sq [(0, 2)] ⟨[], [bkC 0 112 [.own 3 Yq2, .dat Yq2, .is 1 (.any), .od (.obj 0 Yq5)], bkU 11]⟩ [0, 6, 8] (.mix [] [0, 1, 2, 3, 4, 5, 6, 7, 8, 9] [] [] (.tw 23 (.cl ok_stack_Queue_int_grow_p0_riiod [] (.nil)) (.nil))) (.mix [] [0, 1, 2, 3, 4, 5, 6, 7, 8, 9, 10, 11, 12, 13, 14, 15, 16, 17, 18, 19, 20] [21] [] (.nil))))) (.nil))) (.nil)
noncomputable def sp_stack_Queue_int_Push_p0k_riiod : Spec := ⟨67, ⟨[(0, .ptr 0 0), (1, .dat (.sl Yq2))], [bkN 112 [.own 3 Yq2, .dat Yq2, .dat Yq2, .od (.obj 0 Yq5)]]⟩, [⟨[], [bkC 0 112 [.own 3 Yq2, .dat Yq2, .dat Yq2, .od (.obj 0 Yq5)]]⟩], fun x => fn_stack_Queue_int_Push_p0k_riiod x.1 x.2.1 x.2.2.1 x.2.2.2.1 x.2.2.2.2⟩
theorem stack_Queue_int_Push_p0k_riiod_is : SpecOk Tryz.prog sp_stack_Queue_int_Push_p0k_riiod := fn_is func67 h_stack_Queue_int_Push_p0k_riiod (by kernel_rfl) (by kernel_rfl)
noncomputable def ok_stack_Queue_int_Push_p0k_riiod : OkSpec Tryz.prog := ⟨sp_stack_Queue_int_Push_p0k_riiod, stack_Queue_int_Push_p0k_riiod_is, call67⟩

noncomputable def fn_stack_Work_int_Push_p0i_riiod (xb : Int) (qa0 : (List Int)) (qa1 : Int) (qa2 : Int) (qa3 : (Option Tq5)) : Option ((Bool × (List Int) × Int × Int × (Option Tq5))) :=
  (markF_int xb qa0 qa1 qa2 qa3).bind fun r69 => cond (!r69.1) (some ((false, r69.2.1, r69.2.2.1, r69.2.2.2.1, r69.2.2.2.2))) ((fn_stack_Queue_int_Push_p0k_riiod ([xb] : List Int) r69.2.1 r69.2.2.1 r69.2.2.2.1 r69.2.2.2.2).bind fun (l104, i105, i106, l107) => some ((true, l104, i105, i106, l107)))
noncomputable def h_stack_Work_int_Push_p0i_riiod : Hn Tryz.prog := .cl ok_mark_int [] (.tw 12 (.nil) (.cl ok_stack_Queue_int_Push_p0k_riiod [16] (.nil)))
noncomputable def sp_stack_Work_int_Push_p0i_riiod : Spec := ⟨47, ⟨[(0, .ptr 0 0), kdI 1], [bkN 112 [.own 3 Yq2, .dat Yq2, .dat Yq2, .od (.obj 0 Yq5)]]⟩, [⟨[kdB 0], [bkC 0 112 [.own 3 Yq2, .dat Yq2, .dat Yq2, .od (.obj 0 Yq5)]]⟩], fun x => fn_stack_Work_int_Push_p0i_riiod x.1 x.2.1 x.2.2.1 x.2.2.2.1 x.2.2.2.2⟩
theorem stack_Work_int_Push_p0i_riiod_is : SpecOk Tryz.prog sp_stack_Work_int_Push_p0i_riiod := fn_is func47 h_stack_Work_int_Push_p0i_riiod (by kernel_rfl) (by kernel_rfl)
noncomputable def ok_stack_Work_int_Push_p0i_riiod : OkSpec Tryz.prog := ⟨sp_stack_Work_int_Push_p0i_riiod, stack_Work_int_Push_p0i_riiod_is, call47⟩

noncomputable def fn_stack_Queue_int_Len_p0_riiod (qa0 : (List Int)) (qa1 : Int) (qa2 : Int) (qa3 : (Option Tq5)) : Option ((Int × (List Int) × (Option Tq5))) :=
  some ((qa2, qa0, qa3))
noncomputable def h_stack_Queue_int_Len_p0_riiod : Hn Tryz.prog := .nil
noncomputable def sp_stack_Queue_int_Len_p0_riiod : Spec := ⟨68, ⟨[(0, .ptr 0 0)], [bkN 112 [.own 3 Yq2, .is 1 (.dat Yq2), .is 2 (.dat Yq2), .od (.obj 0 Yq5)], bkM, bkM]⟩, [⟨[kdI 0], [bkC 0 112 [.own 3 Yq2, .is 1 (.any), .is 2 (.any), .od (.obj 0 Yq5)], bkU 1, bkU 2]⟩], fun x => fn_stack_Queue_int_Len_p0_riiod x.1 x.2.1 x.2.2.1 x.2.2.2⟩
theorem stack_Queue_int_Len_p0_riiod_is : SpecOk Tryz.prog sp_stack_Queue_int_Len_p0_riiod := fn_is func68 h_stack_Queue_int_Len_p0_riiod (by kernel_rfl) (by kernel_rfl)
noncomputable def ok_stack_Queue_int_Len_p0_riiod : OkSpec Tryz.prog := ⟨sp_stack_Queue_int_Len_p0_riiod, stack_Queue_int_Len_p0_riiod_is, call68⟩

noncomputable def fn_stack_Work_int_Len_p0_riiod (qa0 : (List Int)) (qa1 : Int) (qa2 : Int) (qa3 : (Option Tq5)) : Option ((Int × (List Int) × (Option Tq5))) :=
  (fn_stack_Queue_int_Len_p0_riiod qa0 qa1 qa2 qa3).bind fun (i53, l54, l55) => some ((i53, l54, l55))
noncomputable def h_stack_Work_int_Len_p0_riiod : Hn Tryz.prog := .cl ok_stack_Queue_int_Len_p0_riiod [] (.nil)
noncomputable def sp_stack_Work_int_Len_p0_riiod : Spec := ⟨48, ⟨[(0, .ptr 0 0)], [bkN 112 [.own 3 Yq2, .is 1 (.dat Yq2), .is 2 (.dat Yq2), .od (.obj 0 Yq5)], bkM, bkM]⟩, [⟨[kdI 0], [bkC 0 112 [.own 3 Yq2, .is 1 (.any), .is 2 (.any), .od (.obj 0 Yq5)], bkU 1, bkU 2]⟩], fun x => fn_stack_Work_int_Len_p0_riiod x.1 x.2.1 x.2.2.1 x.2.2.2⟩
theorem stack_Work_int_Len_p0_riiod_is : SpecOk Tryz.prog sp_stack_Work_int_Len_p0_riiod := fn_is func48 h_stack_Work_int_Len_p0_riiod (by kernel_rfl) (by kernel_rfl)
noncomputable def ok_stack_Work_int_Len_p0_riiod : OkSpec Tryz.prog := ⟨sp_stack_Work_int_Len_p0_riiod, stack_Work_int_Len_p0_riiod_is, call48⟩

noncomputable def fn_stack_Queue_int_Pop_p0_riiod (qa0 : (List Int)) (qa1 : Int) (qa2 : Int) (qa3 : (Option Tq5)) : Option ((Int × Bool × (List Int) × Int × Int × (Option Tq5))) :=
  (fn_stack_Queue_int_Len_p0_riiod qa0 qa1 qa2 qa3).bind fun (i147, l148, l149) => cond (decide (i147 = 0)) (some ((0, false, l148, qa1, qa2, l149))) ((getI l148 qa1).bind fun x188 => (getI l148 qa1).bind fun x228 => (some (l148.set qa1.toNat 0)).bind fun z235 => (nz (l148.length : Int)).bind fun u248 => some ((x188, true, z235, Int.tmod (IntKind.wrap .i64 (qa1 + 1)) (l148.length : Int), IntKind.wrap .i64 (qa2 - 1), l149)))
noncomputable def h_stack_Queue_int_Pop_p0_riiod : Hn Tryz.prog := .mc 0 1 5 (.mc 0 2 5 (.cl ok_stack_Queue_int_Len_p0_riiod [] (.tw 8 (.nil) (.mix [] [0, 1, 2, 3, 4, 5, 6, 7, 8, 9, 10] [] [] (.mix [] [0, 1, 2, 3, 4, 5, 6, 7, 8, 9] [10] [] (.mix [] [0, 1, 2, 3, 4, 5, 6, 7, 8, 9, 10, 11, 12, 13] [14] [] (.nil)))))))
noncomputable def sp_stack_Queue_int_Pop_p0_riiod : Spec := ⟨69, ⟨[(0, .ptr 0 0)], [bkN 112 [.own 3 Yq2, .dat Yq2, .dat Yq2, .od (.obj 0 Yq5)]]⟩, [⟨[(0, .tup [.dat Yq2, .dat .bool])], [bkC 0 112 [.own 3 Yq2, .dat Yq2, .dat Yq2, .od (.obj 0 Yq5)]]⟩], fun x => fn_stack_Queue_int_Pop_p0_riiod x.1 x.2.1 x.2.2.1 x.2.2.2⟩
theorem stack_Queue_int_Pop_p0_riiod_is : SpecOk Tryz.prog sp_stack_Queue_int_Pop_p0_riiod := fn_is func69 h_stack_Queue_int_Pop_p0_riiod (by kernel_rfl) (by kernel_rfl)
noncomputable def ok_stack_Queue_int_Pop_p0_riiod : OkSpec Tryz.prog := ⟨sp_stack_Queue_int_Pop_p0_riiod, stack_Queue_int_Pop_p0_riiod_is, call69⟩

noncomputable def fn_stack_Work_int_Pop_p0_riiod (qa0 : (List Int)) (qa1 : Int) (qa2 : Int) (qa3 : (Option Tq5)) : Option ((Int × Bool × (List Int) × Int × Int × (Option Tq5))) :=
  (fn_stack_Queue_int_Pop_p0_riiod qa0 qa1 qa2 qa3).bind fun (i76, t77, l78, i79, i80, l81) => cond (t77) ((unmarkF_int i76 l78 i79 i80 l81).bind fun r97 => some ((i76, t77, r97.1, r97.2.1, r97.2.2.1, r97.2.2.2))) (some ((i76, t77, l78, i79, i80, l81)))
noncomputable def h_stack_Work_int_Pop_p0_riiod : Hn Tryz.prog := .cl ok_stack_Queue_int_Pop_p0_riiod [] (.tw 17 (.cl ok_unmark_int [] (.nil)) (.nil))
noncomputable def sp_stack_Work_int_Pop_p0_riiod : Spec := ⟨49, ⟨[(0, .ptr 0 0)], [bkN 112 [.own 3 Yq2, .dat Yq2, .dat Yq2, .od (.obj 0 Yq5)]]⟩, [⟨[(0, .tup [.dat Yq2, .dat .bool])], [bkC 0 112 [.own 3 Yq2, .dat Yq2, .dat Yq2, .od (.obj 0 Yq5)]]⟩], fun x => fn_stack_Work_int_Pop_p0_riiod x.1 x.2.1 x.2.2.1 x.2.2.2⟩
theorem stack_Work_int_Pop_p0_riiod_is : SpecOk Tryz.prog sp_stack_Work_int_Pop_p0_riiod := fn_is func49 h_stack_Work_int_Pop_p0_riiod (by kernel_rfl) (by kernel_rfl)
noncomputable def ok_stack_Work_int_Pop_p0_riiod : OkSpec Tryz.prog := ⟨sp_stack_Work_int_Pop_p0_riiod, stack_Work_int_Pop_p0_riiod_is, call49⟩

noncomputable def fn_dense_Set_Add_p0i_ir (xb : Int) (qa0 : Int) (qa1 : (List Int)) : Option ((Bool × (List Int))) :=
  (fn_dense_Set_mayHave (some (qa0, qa1)) xb).bind fun t100 => (cond (!t100) (some (true)) ((fn_dense_Set_Has (some (qa0, qa1)) xb).bind fun t115 => some (t115))).bind fun t111 => cond (t111) (some ((false, qa1))) ((getI qa1 (IntKind.wrap .i64 (Int.tdiv xb 64))).bind fun x168 => (ge0 (Int.tmod xb 64)).bind fun u175 => (getI qa1 (IntKind.wrap .i64 (Int.tdiv xb 64))).bind fun x177 => (some (qa1.set (IntKind.wrap .i64 (Int.tdiv xb 64)).toNat (IntKind.wrap .u64 ((BitVec.ofInt (IntKind.bits .u64) x168 ||| BitVec.ofInt (IntKind.bits .u64) (IntKind.wrap .u64 (1 * 2 ^ (min (Int.toNat (Int.tmod xb 64)) (IntKind.bits .u64))))).toNat : Int)))).bind fun z184 => some ((true, z184)))
noncomputable def h_dense_Set_Add_p0i_ir : Hn Tryz.prog := .cl ok_dense_Set_mayHave [2, 0] (.gj 3 ⟨[kdB 13], []⟩ [] (.two 9 (.nil) (.cl ok_dense_Set_Has [2, 0] (.nil))) (.tw 13 (.nil) (.mix [] [0, 1, 2, 3, 4, 5, 6, 7, 8, 9, 10, 11, 12] [13] [] (.nil))))
noncomputable def sp_dense_Set_Add_p0i_ir : Spec := ⟨46, ⟨[(0, .ptr 0 0), kdI 1], [bkN 116 [.is 1 (.dat Yq2), .own 117 (.int .u64)], bkM]⟩, [⟨[kdB 0], [bkC 0 116 [.is 1 (.any), .own 117 (.int .u64)], bkU 1]⟩], fun x => fn_dense_Set_Add_p0i_ir x.1 x.2.1 x.2.2⟩
theorem dense_Set_Add_p0i_ir_is : SpecOk Tryz.prog sp_dense_Set_Add_p0i_ir := fn_is func46 h_dense_Set_Add_p0i_ir (by kernel_rfl) (by kernel_rfl)
noncomputable def ok_dense_Set_Add_p0i_ir : OkSpec Tryz.prog := ⟨sp_dense_Set_Add_p0i_ir, dense_Set_Add_p0i_ir_is, call46⟩
noncomputable def fn_live_spread_l1 (xc : (List Int)) : Int → Option (Int ⊕ Unit) := fun (i21861 : Int) => cond (decide (i21861 < (xc.length : Int))) ((getI xc i21861).bind fun x21881 => (fn_dense_Set_Add_zi x21881).bind fun t21892 => some (.inl (IntKind.wrap .i64 (i21861 + 1)))) (some (.inr ((()))))
noncomputable def fn_live_spread_l2 (xb : (List Int)) : Tq13 → Option (Tq13 ⊕ Tq14) := fun ((i22150, l22151, i22156, i22157, l22158) : Tq13) => cond (decide (i22150 < (xb.length : Int))) ((getI xb i22150).bind fun x22245 => (fn_dense_Set_Add_zi x22245).bind fun t22262 => (fn_stack_Work_int_Push_p0i_riiod x22245 l22151 i22156 i22157 l22158).bind fun (t22284, l22285, i22286, i22287, l22288) => some (.inl ((IntKind.wrap .i64 (i22150 + 1), l22285, i22286, i22287, l22288)))) (some (.inr (((l22151, i22156, i22157, l22158)))))
noncomputable def fn_live_spread_l3 (x26050 : (List Int)) : Tq13 → Option (Tq13 ⊕ Tq14) := fun ((i26489, l26490, i26495, i26496, l26497) : Tq13) => cond (decide (i26489 < (x26050.length : Int))) ((getI x26050 i26489).bind fun x26614 => (fn_dense_Set_Has ((none : (Option Tq7))) x26614).bind fun t26646 => (cond (!t26646) ((fn_dense_Set_Add_zi x26614).bind fun t26661 => some (t26661)) (some (false))).bind fun t26657 => cond (t26657) ((fn_stack_Work_int_Push_p0i_riiod x26614 l26490 i26495 i26496 l26497).bind fun (t26684, l26685, i26686, i26687, l26688) => some (.inl ((IntKind.wrap .i64 (i26489 + 1), l26685, i26686, i26687, l26688)))) (some (.inl ((IntKind.wrap .i64 (i26489 + 1), l26490, i26495, i26496, l26497))))) (some (.inr (((l26490, i26495, i26496, l26497)))))
noncomputable def fn_live_spread_l4 (xa : (List (List Int))) : Tq14 → Option (Tq14 ⊕ Unit) := fun ((l25231, i25236, i25237, l25238) : Tq14) => (fn_stack_Work_int_Len_p0_riiod l25231 i25236 i25237 l25238).bind fun (i25990, l25991, l25992) => cond (decide (0 < i25990)) ((fn_stack_Work_int_Pop_p0_riiod l25991 i25236 i25237 l25992).bind fun (i26022, t26023, l26024, i26025, i26026, l26027) => (getI xa i26022).bind fun x26050 => (loop (fn_live_spread_l3 x26050) (0, l26024, i26025, i26026, l26027) : Option (Tq14)).bind fun (l26376, i26381, i26382, l26383) => some (.inl (l26376, i26381, i26382, l26383))) (some (.inr ((()))))
noncomputable def fn_live_spread_l5 (xb : (List Int)) (i26699 : Int) : Tq11 → Option (Tq11 ⊕ Tq9) := fun ((i27018, l27019, l27024, i27029, i27030, l27031) : Tq11) => cond (decide (i27018 < (xb.length : Int))) ((getI xb i27018).bind fun x27135 => (fn_dense_Set_Add_p0i_ir x27135 i26699 l27019).bind fun (t27158, l27159) => (fn_stack_Work_int_Push_p0i_riiod x27135 l27024 i27029 i27030 l27031).bind fun (t27186, l27187, i27188, i27189, l27190) => some (.inl ((IntKind.wrap .i64 (i27018 + 1), l27159, l27187, i27188, i27189, l27190)))) (some (.inr (((l27019, l27024, i27029, i27030, l27031)))))
noncomputable def fn_live_spread_l6 (i26699 : Int) (x31822 : (List Int)) : Tq11 → Option (Tq11 ⊕ Tq9) := fun ((i32374, l32375, l32380, i32385, i32386, l32387) : Tq11) => cond (decide (i32374 < (x31822.length : Int))) ((getI x31822 i32374).bind fun x32531 => (fn_dense_Set_Has ((none : (Option Tq7))) x32531).bind fun t32574 => cond (!t32574) ((fn_dense_Set_Add_p0i_ir x32531 i26699 l32375).bind fun (t32594, l32595) => cond (t32594) ((fn_stack_Work_int_Push_p0i_riiod x32531 l32380 i32385 i32386 l32387).bind fun (t32623, l32624, i32625, i32626, l32627) => some (.inl ((IntKind.wrap .i64 (i32374 + 1), l32595, l32624, i32625, i32626, l32627)))) (some (.inl ((IntKind.wrap .i64 (i32374 + 1), l32595, l32380, i32385, i32386, l32387))))) (some (.inl ((IntKind.wrap .i64 (i32374 + 1), l32375, l32380, i32385, i32386, l32387))))) (some (.inr (((l32375, l32380, i32385, i32386, l32387)))))
noncomputable def fn_live_spread_l7 (xa : (List (List Int))) (i26699 : Int) : Tq9 → Option (Tq9 ⊕ (List Int)) := fun ((l30826, l30831, i30836, i30837, l30838) : Tq9) => (fn_stack_Work_int_Len_p0_riiod l30831 i30836 i30837 l30838).bind fun (i31762, l31763, l31764) => cond (decide (0 < i31762)) ((fn_stack_Work_int_Pop_p0_riiod l31763 i30836 i30837 l31764).bind fun (i31794, t31795, l31796, i31797, i31798, l31799) => (getI xa i31794).bind fun x31822 => (loop (fn_live_spread_l6 i26699 x31822) (0, l30826, l31796, i31797, i31798, l31799) : Option (Tq9)).bind fun (l32229, l32234, i32239, i32240, l32241) => some (.inl (l32229, l32234, i32239, i32240, l32241))) (some (.inr (l30826)))
noncomputable def fn_live_spread_l8 (xc : (List Int)) (i32638 : Int) : Tq7 → Option (Tq7 ⊕ (List Int)) := fun ((i32766, l32767) : Tq7) => cond (decide (i32766 < (xc.length : Int))) ((getI xc i32766).bind fun x32802 => (fn_dense_Set_Add_p0i_ir x32802 i32638 l32767).bind fun (t32813, l32814) => some (.inl ((IntKind.wrap .i64 (i32766 + 1), l32814)))) (some (.inr (l32767)))
noncomputable def fn_live_spread_l9 (xb : (List Int)) : Tq13 → Option (Tq13 ⊕ Tq14) := fun ((i33077, l33078, i33083, i33084, l33085) : Tq13) => cond (decide (i33077 < (xb.length : Int))) ((getI xb i33077).bind fun x33172 => (fn_dense_Set_Add_zi x33172).bind fun t33189 => (fn_stack_Work_int_Push_p0i_riiod x33172 l33078 i33083 i33084 l33085).bind fun (t33211, l33212, i33213, i33214, l33215) => some (.inl ((IntKind.wrap .i64 (i33077 + 1), l33212, i33213, i33214, l33215)))) (some (.inr (((l33078, i33083, i33084, l33085)))))
noncomputable def fn_live_spread_l10 (i32638 : Int) (l32733 : (List Int)) (x36977 : (List Int)) : Tq13 → Option (Tq13 ⊕ Tq14) := fun ((i37416, l37417, i37422, i37423, l37424) : Tq13) => cond (decide (i37416 < (x36977.length : Int))) ((getI x36977 i37416).bind fun x37541 => (fn_dense_Set_Has (some (i32638, l32733)) x37541).bind fun t37573 => (cond (!t37573) ((fn_dense_Set_Add_zi x37541).bind fun t37588 => some (t37588)) (some (false))).bind fun t37584 => cond (t37584) ((fn_stack_Work_int_Push_p0i_riiod x37541 l37417 i37422 i37423 l37424).bind fun (t37611, l37612, i37613, i37614, l37615) => some (.inl ((IntKind.wrap .i64 (i37416 + 1), l37612, i37613, i37614, l37615)))) (some (.inl ((IntKind.wrap .i64 (i37416 + 1), l37417, i37422, i37423, l37424))))) (some (.inr (((l37417, i37422, i37423, l37424)))))
noncomputable def fn_live_spread_l11 (xa : (List (List Int))) (i32638 : Int) (l32733 : (List Int)) : Tq14 → Option (Tq14 ⊕ Unit) := fun ((l36158, i36163, i36164, l36165) : Tq14) => (fn_stack_Work_int_Len_p0_riiod l36158 i36163 i36164 l36165).bind fun (i36917, l36918, l36919) => cond (decide (0 < i36917)) ((fn_stack_Work_int_Pop_p0_riiod l36918 i36163 i36164 l36919).bind fun (i36949, t36950, l36951, i36952, i36953, l36954) => (getI xa i36949).bind fun x36977 => (loop (fn_live_spread_l10 i32638 l32733 x36977) (0, l36951, i36952, i36953, l36954) : Option (Tq14)).bind fun (l37303, i37308, i37309, l37310) => some (.inl (l37303, i37308, i37309, l37310))) (some (.inr ((()))))
noncomputable def fn_live_spread_l12 (xb : (List Int)) (i37626 : Int) : Tq11 → Option (Tq11 ⊕ Tq9) := fun ((i37945, l37946, l37951, i37956, i37957, l37958) : Tq11) => cond (decide (i37945 < (xb.length : Int))) ((getI xb i37945).bind fun x38062 => (fn_dense_Set_Add_p0i_ir x38062 i37626 l37946).bind fun (t38085, l38086) => (fn_stack_Work_int_Push_p0i_riiod x38062 l37951 i37956 i37957 l37958).bind fun (t38113, l38114, i38115, i38116, l38117) => some (.inl ((IntKind.wrap .i64 (i37945 + 1), l38086, l38114, i38115, i38116, l38117)))) (some (.inr (((l37946, l37951, i37956, i37957, l37958)))))
noncomputable def fn_live_spread_l13 (i32638 : Int) (l32733 : (List Int)) (i37626 : Int) (x42749 : (List Int)) : Tq11 → Option (Tq11 ⊕ Tq9) := fun ((i43301, l43302, l43307, i43312, i43313, l43314) : Tq11) => cond (decide (i43301 < (x42749.length : Int))) ((getI x42749 i43301).bind fun x43458 => (fn_dense_Set_Has (some (i32638, l32733)) x43458).bind fun t43501 => cond (!t43501) ((fn_dense_Set_Add_p0i_ir x43458 i37626 l43302).bind fun (t43521, l43522) => cond (t43521) ((fn_stack_Work_int_Push_p0i_riiod x43458 l43307 i43312 i43313 l43314).bind fun (t43550, l43551, i43552, i43553, l43554) => some (.inl ((IntKind.wrap .i64 (i43301 + 1), l43522, l43551, i43552, i43553, l43554)))) (some (.inl ((IntKind.wrap .i64 (i43301 + 1), l43522, l43307, i43312, i43313, l43314))))) (some (.inl ((IntKind.wrap .i64 (i43301 + 1), l43302, l43307, i43312, i43313, l43314))))) (some (.inr (((l43302, l43307, i43312, i43313, l43314)))))
noncomputable def fn_live_spread_l14 (xa : (List (List Int))) (i32638 : Int) (l32733 : (List Int)) (i37626 : Int) : Tq9 → Option (Tq9 ⊕ (List Int)) := fun ((l41753, l41758, i41763, i41764, l41765) : Tq9) => (fn_stack_Work_int_Len_p0_riiod l41758 i41763 i41764 l41765).bind fun (i42689, l42690, l42691) => cond (decide (0 < i42689)) ((fn_stack_Work_int_Pop_p0_riiod l42690 i41763 i41764 l42691).bind fun (i42721, t42722, l42723, i42724, i42725, l42726) => (getI xa i42721).bind fun x42749 => (loop (fn_live_spread_l13 i32638 l32733 i37626 x42749) (0, l41753, l42723, i42724, i42725, l42726) : Option (Tq9)).bind fun (l43156, l43161, i43166, i43167, l43168) => some (.inl (l43156, l43161, i43166, i43167, l43168))) (some (.inr (l41753)))
noncomputable def fn_live_spread (xa : (List (List Int))) (xb : (List Int)) (xc : (List Int)) : Option ((Unit ⊕ Tq7)) :=
  (fn_dense_New (xa.length : Int)).bind fun o => match o with | .inl i21788 => ((loop (fn_live_spread_l1 xc) 0 : Option Unit).bind fun () => (fn_dense_New (xa.length : Int)).bind fun o => match o with | .inl i21898 => (loop (fn_live_spread_l2 xb) (0, [], 0, 0, none) : Option (Tq14)).bind fun (l22096, i22101, i22102, l22103) => (loop (fn_live_spread_l4 xa) (l22096, i22101, i22102, l22103) : Option Unit).bind fun () => some (.inl ()) | .inr (i26698, i26699, l26700) => (loop (fn_live_spread_l5 xb i26699) (0, l26700, [], 0, 0, none) : Option (Tq9)).bind fun (l26948, l26953, i26958, i26959, l26960) => (loop (fn_live_spread_l7 xa i26699) (l26948, l26953, i26958, i26959, l26960) : Option (List Int)).bind fun l29916 => some (.inr (i26699, l29916))) | .inr (i32637, i32638, l32639) => (loop (fn_live_spread_l8 xc i32638) (0, l32639) : Option (List Int)).bind fun l32733 => (fn_dense_New (xa.length : Int)).bind fun o => match o with | .inl i32825 => (loop (fn_live_spread_l9 xb) (0, [], 0, 0, none) : Option (Tq14)).bind fun (l33023, i33028, i33029, l33030) => (loop (fn_live_spread_l11 xa i32638 l32733) (l33023, i33028, i33029, l33030) : Option Unit).bind fun () => some (.inl ()) | .inr (i37625, i37626, l37627) => (loop (fn_live_spread_l12 xb i37626) (0, l37627, [], 0, 0, none) : Option (Tq9)).bind fun (l37875, l37880, i37885, i37886, l37887) => (loop (fn_live_spread_l14 xa i32638 l32733 i37626) (l37875, l37880, i37885, i37886, l37887) : Option (List Int)).bind fun l40843 => some (.inr (i37626, l40843))
noncomputable def h_live_spread : Hn Tryz.prog := .c2 ok_dense_New [] (.jn [] ⟨[], []⟩ [] (.lp ⟨[kdI 28], []⟩ (.tw 29 (.cl ok_dense_Set_Add_zi [] (.nil)) (.nil))) (.c2 ok_dense_New [] (.jn [] ⟨[], [bkC 0 112 [.own 3 Yq2, .dat Yq2, .dat Yq2, .od (.obj 0 Yq5)]]⟩ [0] (.lp ⟨[kdI 44], [bkC 0 112 [.own 3 Yq2, .dat Yq2, .dat Yq2, .od (.obj 0 Yq5)]]⟩ (.tw 45 (.cl ok_dense_Set_Add_zi [] (.cl ok_stack_Work_int_Push_p0i_riiod [] (.nil))) (.nil))) (.jn [] ⟨[], []⟩ [0, 2, 4] (.lp ⟨[], [bkC 0 112 [.own 3 Yq2, .dat Yq2, .dat Yq2, .od (.obj 0 Yq5)]]⟩ (.mc 0 1 11 (.mc 0 2 11 (.cl ok_stack_Work_int_Len_p0_riiod [] (.tw 55 (.cl ok_stack_Work_int_Pop_p0_riiod [] (.jn [] ⟨[], [bkC 0 112 [.own 3 Yq2, .dat Yq2, .dat Yq2, .od (.obj 0 Yq5)]]⟩ [29, 0, 31] (.lp ⟨[kdI 65], [bkC 0 112 [.own 3 Yq2, .dat Yq2, .dat Yq2, .od (.obj 0 Yq5)]]⟩ (.tw 66 (.cl ok_dense_Set_Has [] (.gj 3 ⟨[kdB 77], []⟩ [] (.two 73 (.cl ok_dense_Set_Add_zi [] (.nil)) (.nil)) (.tw 77 (.cl ok_stack_Work_int_Push_p0i_riiod [] (.nil)) (.nil)))) (.nil))) (.nil))) (.nil)))))) (.nil))) (.jn [(0, 0)] ⟨[], [bkC 0 116 [.is 2 (.any), .own 117 (.int .u64)], bkC 4 112 [.own 3 Yq2, .dat Yq2, .dat Yq2, .od (.obj 0 Yq5)], bkU 6]⟩ [4, 1, 0] (.lp ⟨[kdI 44], [bkC 0 116 [.is 2 (.any), .own 117 (.int .u64)], bkC 4 112 [.own 3 Yq2, .dat Yq2, .dat Yq2, .od (.obj 0 Yq5)], bkU 6]⟩ (.tw 45 (.cl ok_dense_Set_Add_p0i_ir [] (.cl ok_stack_Work_int_Push_p0i_riiod [] (.nil))) (.nil))) (.jn [] ⟨[], [bkC 0 116 [.is 1 (.any), .own 117 (.int .u64)], bkU 6]⟩ [0, 4, 7, 10, 12] (.lp ⟨[], [bkC 0 116 [.is 2 (.any), .own 117 (.int .u64)], bkC 4 112 [.own 3 Yq2, .dat Yq2, .dat Yq2, .od (.obj 0 Yq5)], bkU 6]⟩ (.mc 4 1 22 (.mc 4 2 22 (.cl ok_stack_Work_int_Len_p0_riiod [] (.tw 55 (.cl ok_stack_Work_int_Pop_p0_riiod [] (.jn [] ⟨[], [bkC 0 116 [.is 2 (.any), .own 117 (.int .u64)], bkC 4 112 [.own 3 Yq2, .dat Yq2, .dat Yq2, .od (.obj 0 Yq5)], bkU 6]⟩ [40, 4, 42, 0, 15] (.lp ⟨[kdI 65], [bkC 0 116 [.is 2 (.any), .own 117 (.int .u64)], bkC 4 112 [.own 3 Yq2, .dat Yq2, .dat Yq2, .od (.obj 0 Yq5)], bkU 6]⟩ (.tw 66 (.cl ok_dense_Set_Has [] (.two 73 (.cl ok_dense_Set_Add_p0i_ir [] (.tw 77 (.cl ok_stack_Work_int_Push_p0i_riiod [] (.nil)) (.nil))) (.nil))) (.nil))) (.nil))) (.nil)))))) (.pl (.pl (.nil))))))) (.jn [(0, 0)] ⟨[], [bkC 0 116 [.is 1 (.any), .own 117 (.int .u64)], bkU 4]⟩ [1, 0] (.lp ⟨[kdI 28], [bkC 0 116 [.is 1 (.any), .own 117 (.int .u64)], bkU 4]⟩ (.tw 29 (.cl ok_dense_Set_Add_p0i_ir [] (.nil)) (.nil))) (.c2 ok_dense_New [] (.jn [] ⟨[], [bkC 8 112 [.own 3 Yq2, .dat Yq2, .dat Yq2, .od (.obj 0 Yq5)]]⟩ [8] (.lp ⟨[kdI 44], [bkC 8 112 [.own 3 Yq2, .dat Yq2, .dat Yq2, .od (.obj 0 Yq5)]]⟩ (.tw 45 (.cl ok_dense_Set_Add_zi [] (.cl ok_stack_Work_int_Push_p0i_riiod [] (.nil))) (.nil))) (.jn [] ⟨[], []⟩ [8, 10, 12] (.lp ⟨[], [bkC 8 112 [.own 3 Yq2, .dat Yq2, .dat Yq2, .od (.obj 0 Yq5)]]⟩ (.mc 8 1 19 (.mc 8 2 19 (.cl ok_stack_Work_int_Len_p0_riiod [] (.tw 55 (.cl ok_stack_Work_int_Pop_p0_riiod [] (.jn [] ⟨[], [bkC 8 112 [.own 3 Yq2, .dat Yq2, .dat Yq2, .od (.obj 0 Yq5)]]⟩ [37, 8, 39] (.lp ⟨[kdI 65], [bkC 8 112 [.own 3 Yq2, .dat Yq2, .dat Yq2, .od (.obj 0 Yq5)]]⟩ (.tw 66 (.cl ok_dense_Set_Has [5, 0] (.gj 3 ⟨[kdB 77], []⟩ [] (.two 73 (.cl ok_dense_Set_Add_zi [] (.nil)) (.nil)) (.tw 77 (.cl ok_stack_Work_int_Push_p0i_riiod [] (.nil)) (.nil)))) (.nil))) (.nil))) (.nil)))))) (.nil))) (.jn [(8, 0)] ⟨[], [bkC 8 116 [.is 2 (.any), .own 117 (.int .u64)], bkC 12 112 [.own 3 Yq2, .dat Yq2, .dat Yq2, .od (.obj 0 Yq5)], bkU 14]⟩ [12, 9, 8] (.lp ⟨[kdI 44], [bkC 8 116 [.is 2 (.any), .own 117 (.int .u64)], bkC 12 112 [.own 3 Yq2, .dat Yq2, .dat Yq2, .od (.obj 0 Yq5)], bkU 14]⟩ (.tw 45 (.cl ok_dense_Set_Add_p0i_ir [] (.cl ok_stack_Work_int_Push_p0i_riiod [] (.nil))) (.nil))) (.jn [] ⟨[], [bkC 8 116 [.is 1 (.any), .own 117 (.int .u64)], bkU 14]⟩ [8, 12, 15, 18, 20] (.lp ⟨[], [bkC 8 116 [.is 2 (.any), .own 117 (.int .u64)], bkC 12 112 [.own 3 Yq2, .dat Yq2, .dat Yq2, .od (.obj 0 Yq5)], bkU 14]⟩ (.mc 12 1 30 (.mc 12 2 30 (.cl ok_stack_Work_int_Len_p0_riiod [] (.tw 55 (.cl ok_stack_Work_int_Pop_p0_riiod [] (.jn [] ⟨[], [bkC 8 116 [.is 2 (.any), .own 117 (.int .u64)], bkC 12 112 [.own 3 Yq2, .dat Yq2, .dat Yq2, .od (.obj 0 Yq5)], bkU 14]⟩ [48, 12, 50, 8, 23] (.lp ⟨[kdI 65], [bkC 8 116 [.is 2 (.any), .own 117 (.int .u64)], bkC 12 112 [.own 3 Yq2, .dat Yq2, .dat Yq2, .od (.obj 0 Yq5)], bkU 14]⟩ (.tw 66 (.cl ok_dense_Set_Has [5, 0] (.two 73 (.cl ok_dense_Set_Add_p0i_ir [] (.tw 77 (.cl ok_stack_Work_int_Push_p0i_riiod [] (.nil)) (.nil))) (.nil))) (.nil))) (.nil))) (.nil)))))) (.pl (.pl (.nil)))))))
noncomputable def sp_live_spread : Spec := ⟨24, ⟨[(0, .dat (.sl (.sl Yq2))), (1, .dat (.sl Yq2)), (2, .dat (.sl Yq2))], []⟩, [⟨[(0, .nilp)], []⟩, ⟨[(0, .ptr 0 0)], [bkN 116 [.dat Yq2, .own 117 (.int .u64)]]⟩], fun x => fn_live_spread x.1 x.2.1 x.2.2⟩
theorem live_spread_is : SpecOk Tryz.prog sp_live_spread := fn_is func24 h_live_spread (by kernel_rfl) (by kernel_rfl)
noncomputable def ok_live_spread : OkSpec Tryz.prog := ⟨sp_live_spread, live_spread_is, call24⟩

noncomputable def fn_math_bits_OnesCount64 (xa : Int) : Option Int :=
  some (IntKind.wrap .i64 ((BitVec.ofInt (IntKind.bits .i64) (IntKind.wrap .i64 (IntKind.wrap .u64 ((IntKind.wrap .u64 ((IntKind.wrap .u64 ((IntKind.wrap .u64 ((BitVec.ofInt (IntKind.bits .u64) (IntKind.wrap .u64 ((Int.fdiv (IntKind.wrap .u64 ((IntKind.wrap .u64 ((BitVec.ofInt (IntKind.bits .u64) (Int.fdiv (IntKind.wrap .u64 ((IntKind.wrap .u64 ((BitVec.ofInt (IntKind.bits .u64) (Int.fdiv xa (2 ^ (min (Int.toNat 1) (IntKind.bits .u64)))) &&& BitVec.ofInt (IntKind.bits .u64) 6148914691236517205).toNat : Int)) + (IntKind.wrap .u64 ((BitVec.ofInt (IntKind.bits .u64) xa &&& BitVec.ofInt (IntKind.bits .u64) 6148914691236517205).toNat : Int)))) (2 ^ (min (Int.toNat 2) (IntKind.bits .u64)))) &&& BitVec.ofInt (IntKind.bits .u64) 3689348814741910323).toNat : Int)) + (IntKind.wrap .u64 ((BitVec.ofInt (IntKind.bits .u64) (IntKind.wrap .u64 ((IntKind.wrap .u64 ((BitVec.ofInt (IntKind.bits .u64) (Int.fdiv xa (2 ^ (min (Int.toNat 1) (IntKind.bits .u64)))) &&& BitVec.ofInt (IntKind.bits .u64) 6148914691236517205).toNat : Int)) + (IntKind.wrap .u64 ((BitVec.ofInt (IntKind.bits .u64) xa &&& BitVec.ofInt (IntKind.bits .u64) 6148914691236517205).toNat : Int)))) &&& BitVec.ofInt (IntKind.bits .u64) 3689348814741910323).toNat : Int)))) (2 ^ (min (Int.toNat 4) (IntKind.bits .u64)))) + (IntKind.wrap .u64 ((IntKind.wrap .u64 ((BitVec.ofInt (IntKind.bits .u64) (Int.fdiv (IntKind.wrap .u64 ((IntKind.wrap .u64 ((BitVec.ofInt (IntKind.bits .u64) (Int.fdiv xa (2 ^ (min (Int.toNat 1) (IntKind.bits .u64)))) &&& BitVec.ofInt (IntKind.bits .u64) 6148914691236517205).toNat : Int)) + (IntKind.wrap .u64 ((BitVec.ofInt (IntKind.bits .u64) xa &&& BitVec.ofInt (IntKind.bits .u64) 6148914691236517205).toNat : Int)))) (2 ^ (min (Int.toNat 2) (IntKind.bits .u64)))) &&& BitVec.ofInt (IntKind.bits .u64) 3689348814741910323).toNat : Int)) + (IntKind.wrap .u64 ((BitVec.ofInt (IntKind.bits .u64) (IntKind.wrap .u64 ((IntKind.wrap .u64 ((BitVec.ofInt (IntKind.bits .u64) (Int.fdiv xa (2 ^ (min (Int.toNat 1) (IntKind.bits .u64)))) &&& BitVec.ofInt (IntKind.bits .u64) 6148914691236517205).toNat : Int)) + (IntKind.wrap .u64 ((BitVec.ofInt (IntKind.bits .u64) xa &&& BitVec.ofInt (IntKind.bits .u64) 6148914691236517205).toNat : Int)))) &&& BitVec.ofInt (IntKind.bits .u64) 3689348814741910323).toNat : Int)))))) &&& BitVec.ofInt (IntKind.bits .u64) 1085102592571150095).toNat : Int)) + (Int.fdiv (IntKind.wrap .u64 ((BitVec.ofInt (IntKind.bits .u64) (IntKind.wrap .u64 ((Int.fdiv (IntKind.wrap .u64 ((IntKind.wrap .u64 ((BitVec.ofInt (IntKind.bits .u64) (Int.fdiv (IntKind.wrap .u64 ((IntKind.wrap .u64 ((BitVec.ofInt (IntKind.bits .u64) (Int.fdiv xa (2 ^ (min (Int.toNat 1) (IntKind.bits .u64)))) &&& BitVec.ofInt (IntKind.bits .u64) 6148914691236517205).toNat : Int)) + (IntKind.wrap .u64 ((BitVec.ofInt (IntKind.bits .u64) xa &&& BitVec.ofInt (IntKind.bits .u64) 6148914691236517205).toNat : Int)))) (2 ^ (min (Int.toNat 2) (IntKind.bits .u64)))) &&& BitVec.ofInt (IntKind.bits .u64) 3689348814741910323).toNat : Int)) + (IntKind.wrap .u64 ((BitVec.ofInt (IntKind.bits .u64) (IntKind.wrap .u64 ((IntKind.wrap .u64 ((BitVec.ofInt (IntKind.bits .u64) (Int.fdiv xa (2 ^ (min (Int.toNat 1) (IntKind.bits .u64)))) &&& BitVec.ofInt (IntKind.bits .u64) 6148914691236517205).toNat : Int)) + (IntKind.wrap .u64 ((BitVec.ofInt (IntKind.bits .u64) xa &&& BitVec.ofInt (IntKind.bits .u64) 6148914691236517205).toNat : Int)))) &&& BitVec.ofInt (IntKind.bits .u64) 3689348814741910323).toNat : Int)))) (2 ^ (min (Int.toNat 4) (IntKind.bits .u64)))) + (IntKind.wrap .u64 ((IntKind.wrap .u64 ((BitVec.ofInt (IntKind.bits .u64) (Int.fdiv (IntKind.wrap .u64 ((IntKind.wrap .u64 ((BitVec.ofInt (IntKind.bits .u64) (Int.fdiv xa (2 ^ (min (Int.toNat 1) (IntKind.bits .u64)))) &&& BitVec.ofInt (IntKind.bits .u64) 6148914691236517205).toNat : Int)) + (IntKind.wrap .u64 ((BitVec.ofInt (IntKind.bits .u64) xa &&& BitVec.ofInt (IntKind.bits .u64) 6148914691236517205).toNat : Int)))) (2 ^ (min (Int.toNat 2) (IntKind.bits .u64)))) &&& BitVec.ofInt (IntKind.bits .u64) 3689348814741910323).toNat : Int)) + (IntKind.wrap .u64 ((BitVec.ofInt (IntKind.bits .u64) (IntKind.wrap .u64 ((IntKind.wrap .u64 ((BitVec.ofInt (IntKind.bits .u64) (Int.fdiv xa (2 ^ (min (Int.toNat 1) (IntKind.bits .u64)))) &&& BitVec.ofInt (IntKind.bits .u64) 6148914691236517205).toNat : Int)) + (IntKind.wrap .u64 ((BitVec.ofInt (IntKind.bits .u64) xa &&& BitVec.ofInt (IntKind.bits .u64) 6148914691236517205).toNat : Int)))) &&& BitVec.ofInt (IntKind.bits .u64) 3689348814741910323).toNat : Int)))))) &&& BitVec.ofInt (IntKind.bits .u64) 1085102592571150095).toNat : Int)) (2 ^ (min (Int.toNat 8) (IntKind.bits .u64)))))) + (Int.fdiv (IntKind.wrap .u64 ((IntKind.wrap .u64 ((BitVec.ofInt (IntKind.bits .u64) (IntKind.wrap .u64 ((Int.fdiv (IntKind.wrap .u64 ((IntKind.wrap .u64 ((BitVec.ofInt (IntKind.bits .u64) (Int.fdiv (IntKind.wrap .u64 ((IntKind.wrap .u64 ((BitVec.ofInt (IntKind.bits .u64) (Int.fdiv xa (2 ^ (min (Int.toNat 1) (IntKind.bits .u64)))) &&& BitVec.ofInt (IntKind.bits .u64) 6148914691236517205).toNat : Int)) + (IntKind.wrap .u64 ((BitVec.ofInt (IntKind.bits .u64) xa &&& BitVec.ofInt (IntKind.bits .u64) 6148914691236517205).toNat : Int)))) (2 ^ (min (Int.toNat 2) (IntKind.bits .u64)))) &&& BitVec.ofInt (IntKind.bits .u64) 3689348814741910323).toNat : Int)) + (IntKind.wrap .u64 ((BitVec.ofInt (IntKind.bits .u64) (IntKind.wrap .u64 ((IntKind.wrap .u64 ((BitVec.ofInt (IntKind.bits .u64) (Int.fdiv xa (2 ^ (min (Int.toNat 1) (IntKind.bits .u64)))) &&& BitVec.ofInt (IntKind.bits .u64) 6148914691236517205).toNat : Int)) + (IntKind.wrap .u64 ((BitVec.ofInt (IntKind.bits .u64) xa &&& BitVec.ofInt (IntKind.bits .u64) 6148914691236517205).toNat : Int)))) &&& BitVec.ofInt (IntKind.bits .u64) 3689348814741910323).toNat : Int)))) (2 ^ (min (Int.toNat 4) (IntKind.bits .u64)))) + (IntKind.wrap .u64 ((IntKind.wrap .u64 ((BitVec.ofInt (IntKind.bits .u64) (Int.fdiv (IntKind.wrap .u64 ((IntKind.wrap .u64 ((BitVec.ofInt (IntKind.bits .u64) (Int.fdiv xa (2 ^ (min (Int.toNat 1) (IntKind.bits .u64)))) &&& BitVec.ofInt (IntKind.bits .u64) 6148914691236517205).toNat : Int)) + (IntKind.wrap .u64 ((BitVec.ofInt (IntKind.bits .u64) xa &&& BitVec.ofInt (IntKind.bits .u64) 6148914691236517205).toNat : Int)))) (2 ^ (min (Int.toNat 2) (IntKind.bits .u64)))) &&& BitVec.ofInt (IntKind.bits .u64) 3689348814741910323).toNat : Int)) + (IntKind.wrap .u64 ((BitVec.ofInt (IntKind.bits .u64) (IntKind.wrap .u64 ((IntKind.wrap .u64 ((BitVec.ofInt (IntKind.bits .u64) (Int.fdiv xa (2 ^ (min (Int.toNat 1) (IntKind.bits .u64)))) &&& BitVec.ofInt (IntKind.bits .u64) 6148914691236517205).toNat : Int)) + (IntKind.wrap .u64 ((BitVec.ofInt (IntKind.bits .u64) xa &&& BitVec.ofInt (IntKind.bits .u64) 6148914691236517205).toNat : Int)))) &&& BitVec.ofInt (IntKind.bits .u64) 3689348814741910323).toNat : Int)))))) &&& BitVec.ofInt (IntKind.bits .u64) 1085102592571150095).toNat : Int)) + (Int.fdiv (IntKind.wrap .u64 ((BitVec.ofInt (IntKind.bits .u64) (IntKind.wrap .u64 ((Int.fdiv (IntKind.wrap .u64 ((IntKind.wrap .u64 ((BitVec.ofInt (IntKind.bits .u64) (Int.fdiv (IntKind.wrap .u64 ((IntKind.wrap .u64 ((BitVec.ofInt (IntKind.bits .u64) (Int.fdiv xa (2 ^ (min (Int.toNat 1) (IntKind.bits .u64)))) &&& BitVec.ofInt (IntKind.bits .u64) 6148914691236517205).toNat : Int)) + (IntKind.wrap .u64 ((BitVec.ofInt (IntKind.bits .u64) xa &&& BitVec.ofInt (IntKind.bits .u64) 6148914691236517205).toNat : Int)))) (2 ^ (min (Int.toNat 2) (IntKind.bits .u64)))) &&& BitVec.ofInt (IntKind.bits .u64) 3689348814741910323).toNat : Int)) + (IntKind.wrap .u64 ((BitVec.ofInt (IntKind.bits .u64) (IntKind.wrap .u64 ((IntKind.wrap .u64 ((BitVec.ofInt (IntKind.bits .u64) (Int.fdiv xa (2 ^ (min (Int.toNat 1) (IntKind.bits .u64)))) &&& BitVec.ofInt (IntKind.bits .u64) 6148914691236517205).toNat : Int)) + (IntKind.wrap .u64 ((BitVec.ofInt (IntKind.bits .u64) xa &&& BitVec.ofInt (IntKind.bits .u64) 6148914691236517205).toNat : Int)))) &&& BitVec.ofInt (IntKind.bits .u64) 3689348814741910323).toNat : Int)))) (2 ^ (min (Int.toNat 4) (IntKind.bits .u64)))) + (IntKind.wrap .u64 ((IntKind.wrap .u64 ((BitVec.ofInt (IntKind.bits .u64) (Int.fdiv (IntKind.wrap .u64 ((IntKind.wrap .u64 ((BitVec.ofInt (IntKind.bits .u64) (Int.fdiv xa (2 ^ (min (Int.toNat 1) (IntKind.bits .u64)))) &&& BitVec.ofInt (IntKind.bits .u64) 6148914691236517205).toNat : Int)) + (IntKind.wrap .u64 ((BitVec.ofInt (IntKind.bits .u64) xa &&& BitVec.ofInt (IntKind.bits .u64) 6148914691236517205).toNat : Int)))) (2 ^ (min (Int.toNat 2) (IntKind.bits .u64)))) &&& BitVec.ofInt (IntKind.bits .u64) 3689348814741910323).toNat : Int)) + (IntKind.wrap .u64 ((BitVec.ofInt (IntKind.bits .u64) (IntKind.wrap .u64 ((IntKind.wrap .u64 ((BitVec.ofInt (IntKind.bits .u64) (Int.fdiv xa (2 ^ (min (Int.toNat 1) (IntKind.bits .u64)))) &&& BitVec.ofInt (IntKind.bits .u64) 6148914691236517205).toNat : Int)) + (IntKind.wrap .u64 ((BitVec.ofInt (IntKind.bits .u64) xa &&& BitVec.ofInt (IntKind.bits .u64) 6148914691236517205).toNat : Int)))) &&& BitVec.ofInt (IntKind.bits .u64) 3689348814741910323).toNat : Int)))))) &&& BitVec.ofInt (IntKind.bits .u64) 1085102592571150095).toNat : Int)) (2 ^ (min (Int.toNat 8) (IntKind.bits .u64)))))) (2 ^ (min (Int.toNat 16) (IntKind.bits .u64)))))) + (Int.fdiv (IntKind.wrap .u64 ((IntKind.wrap .u64 ((IntKind.wrap .u64 ((BitVec.ofInt (IntKind.bits .u64) (IntKind.wrap .u64 ((Int.fdiv (IntKind.wrap .u64 ((IntKind.wrap .u64 ((BitVec.ofInt (IntKind.bits .u64) (Int.fdiv (IntKind.wrap .u64 ((IntKind.wrap .u64 ((BitVec.ofInt (IntKind.bits .u64) (Int.fdiv xa (2 ^ (min (Int.toNat 1) (IntKind.bits .u64)))) &&& BitVec.ofInt (IntKind.bits .u64) 6148914691236517205).toNat : Int)) + (IntKind.wrap .u64 ((BitVec.ofInt (IntKind.bits .u64) xa &&& BitVec.ofInt (IntKind.bits .u64) 6148914691236517205).toNat : Int)))) (2 ^ (min (Int.toNat 2) (IntKind.bits .u64)))) &&& BitVec.ofInt (IntKind.bits .u64) 3689348814741910323).toNat : Int)) + (IntKind.wrap .u64 ((BitVec.ofInt (IntKind.bits .u64) (IntKind.wrap .u64 ((IntKind.wrap .u64 ((BitVec.ofInt (IntKind.bits .u64) (Int.fdiv xa (2 ^ (min (Int.toNat 1) (IntKind.bits .u64)))) &&& BitVec.ofInt (IntKind.bits .u64) 6148914691236517205).toNat : Int)) + (IntKind.wrap .u64 ((BitVec.ofInt (IntKind.bits .u64) xa &&& BitVec.ofInt (IntKind.bits .u64) 6148914691236517205).toNat : Int)))) &&& BitVec.ofInt (IntKind.bits .u64) 3689348814741910323).toNat : Int)))) (2 ^ (min (Int.toNat 4) (IntKind.bits .u64)))) + (IntKind.wrap .u64 ((IntKind.wrap .u64 ((BitVec.ofInt (IntKind.bits .u64) (Int.fdiv (IntKind.wrap .u64 ((IntKind.wrap .u64 ((BitVec.ofInt (IntKind.bits .u64) (Int.fdiv xa (2 ^ (min (Int.toNat 1) (IntKind.bits .u64)))) &&& BitVec.ofInt (IntKind.bits .u64) 6148914691236517205).toNat : Int)) + (IntKind.wrap .u64 ((BitVec.ofInt (IntKind.bits .u64) xa &&& BitVec.ofInt (IntKind.bits .u64) 6148914691236517205).toNat : Int)))) (2 ^ (min (Int.toNat 2) (IntKind.bits .u64)))) &&& BitVec.ofInt (IntKind.bits .u64) 3689348814741910323).toNat : Int)) + (IntKind.wrap .u64 ((BitVec.ofInt (IntKind.bits .u64) (IntKind.wrap .u64 ((IntKind.wrap .u64 ((BitVec.ofInt (IntKind.bits .u64) (Int.fdiv xa (2 ^ (min (Int.toNat 1) (IntKind.bits .u64)))) &&& BitVec.ofInt (IntKind.bits .u64) 6148914691236517205).toNat : Int)) + (IntKind.wrap .u64 ((BitVec.ofInt (IntKind.bits .u64) xa &&& BitVec.ofInt (IntKind.bits .u64) 6148914691236517205).toNat : Int)))) &&& BitVec.ofInt (IntKind.bits .u64) 3689348814741910323).toNat : Int)))))) &&& BitVec.ofInt (IntKind.bits .u64) 1085102592571150095).toNat : Int)) + (Int.fdiv (IntKind.wrap .u64 ((BitVec.ofInt (IntKind.bits .u64) (IntKind.wrap .u64 ((Int.fdiv (IntKind.wrap .u64 ((IntKind.wrap .u64 ((BitVec.ofInt (IntKind.bits .u64) (Int.fdiv (IntKind.wrap .u64 ((IntKind.wrap .u64 ((BitVec.ofInt (IntKind.bits .u64) (Int.fdiv xa (2 ^ (min (Int.toNat 1) (IntKind.bits .u64)))) &&& BitVec.ofInt (IntKind.bits .u64) 6148914691236517205).toNat : Int)) + (IntKind.wrap .u64 ((BitVec.ofInt (IntKind.bits .u64) xa &&& BitVec.ofInt (IntKind.bits .u64) 6148914691236517205).toNat : Int)))) (2 ^ (min (Int.toNat 2) (IntKind.bits .u64)))) &&& BitVec.ofInt (IntKind.bits .u64) 3689348814741910323).toNat : Int)) + (IntKind.wrap .u64 ((BitVec.ofInt (IntKind.bits .u64) (IntKind.wrap .u64 ((IntKind.wrap .u64 ((BitVec.ofInt (IntKind.bits .u64) (Int.fdiv xa (2 ^ (min (Int.toNat 1) (IntKind.bits .u64)))) &&& BitVec.ofInt (IntKind.bits .u64) 6148914691236517205).toNat : Int)) + (IntKind.wrap .u64 ((BitVec.ofInt (IntKind.bits .u64) xa &&& BitVec.ofInt (IntKind.bits .u64) 6148914691236517205).toNat : Int)))) &&& BitVec.ofInt (IntKind.bits .u64) 3689348814741910323).toNat : Int)))) (2 ^ (min (Int.toNat 4) (IntKind.bits .u64)))) + (IntKind.wrap .u64 ((IntKind.wrap .u64 ((BitVec.ofInt (IntKind.bits .u64) (Int.fdiv (IntKind.wrap .u64 ((IntKind.wrap .u64 ((BitVec.ofInt (IntKind.bits .u64) (Int.fdiv xa (2 ^ (min (Int.toNat 1) (IntKind.bits .u64)))) &&& BitVec.ofInt (IntKind.bits .u64) 6148914691236517205).toNat : Int)) + (IntKind.wrap .u64 ((BitVec.ofInt (IntKind.bits .u64) xa &&& BitVec.ofInt (IntKind.bits .u64) 6148914691236517205).toNat : Int)))) (2 ^ (min (Int.toNat 2) (IntKind.bits .u64)))) &&& BitVec.ofInt (IntKind.bits .u64) 3689348814741910323).toNat : Int)) + (IntKind.wrap .u64 ((BitVec.ofInt (IntKind.bits .u64) (IntKind.wrap .u64 ((IntKind.wrap .u64 ((BitVec.ofInt (IntKind.bits .u64) (Int.fdiv xa (2 ^ (min (Int.toNat 1) (IntKind.bits .u64)))) &&& BitVec.ofInt (IntKind.bits .u64) 6148914691236517205).toNat : Int)) + (IntKind.wrap .u64 ((BitVec.ofInt (IntKind.bits .u64) xa &&& BitVec.ofInt (IntKind.bits .u64) 6148914691236517205).toNat : Int)))) &&& BitVec.ofInt (IntKind.bits .u64) 3689348814741910323).toNat : Int)))))) &&& BitVec.ofInt (IntKind.bits .u64) 1085102592571150095).toNat : Int)) (2 ^ (min (Int.toNat 8) (IntKind.bits .u64)))))) + (Int.fdiv (IntKind.wrap .u64 ((IntKind.wrap .u64 ((BitVec.ofInt (IntKind.bits .u64) (IntKind.wrap .u64 ((Int.fdiv (IntKind.wrap .u64 ((IntKind.wrap .u64 ((BitVec.ofInt (IntKind.bits .u64) (Int.fdiv (IntKind.wrap .u64 ((IntKind.wrap .u64 ((BitVec.ofInt (IntKind.bits .u64) (Int.fdiv xa (2 ^ (min (Int.toNat 1) (IntKind.bits .u64)))) &&& BitVec.ofInt (IntKind.bits .u64) 6148914691236517205).toNat : Int)) + (IntKind.wrap .u64 ((BitVec.ofInt (IntKind.bits .u64) xa &&& BitVec.ofInt (IntKind.bits .u64) 6148914691236517205).toNat : Int)))) (2 ^ (min (Int.toNat 2) (IntKind.bits .u64)))) &&& BitVec.ofInt (IntKind.bits .u64) 3689348814741910323).toNat : Int)) + (IntKind.wrap .u64 ((BitVec.ofInt (IntKind.bits .u64) (IntKind.wrap .u64 ((IntKind.wrap .u64 ((BitVec.ofInt (IntKind.bits .u64) (Int.fdiv xa (2 ^ (min (Int.toNat 1) (IntKind.bits .u64)))) &&& BitVec.ofInt (IntKind.bits .u64) 6148914691236517205).toNat : Int)) + (IntKind.wrap .u64 ((BitVec.ofInt (IntKind.bits .u64) xa &&& BitVec.ofInt (IntKind.bits .u64) 6148914691236517205).toNat : Int)))) &&& BitVec.ofInt (IntKind.bits .u64) 3689348814741910323).toNat : Int)))) (2 ^ (min (Int.toNat 4) (IntKind.bits .u64)))) + (IntKind.wrap .u64 ((IntKind.wrap .u64 ((BitVec.ofInt (IntKind.bits .u64) (Int.fdiv (IntKind.wrap .u64 ((IntKind.wrap .u64 ((BitVec.ofInt (IntKind.bits .u64) (Int.fdiv xa (2 ^ (min (Int.toNat 1) (IntKind.bits .u64)))) &&& BitVec.ofInt (IntKind.bits .u64) 6148914691236517205).toNat : Int)) + (IntKind.wrap .u64 ((BitVec.ofInt (IntKind.bits .u64) xa &&& BitVec.ofInt (IntKind.bits .u64) 6148914691236517205).toNat : Int)))) (2 ^ (min (Int.toNat 2) (IntKind.bits .u64)))) &&& BitVec.ofInt (IntKind.bits .u64) 3689348814741910323).toNat : Int)) + (IntKind.wrap .u64 ((BitVec.ofInt (IntKind.bits .u64) (IntKind.wrap .u64 ((IntKind.wrap .u64 ((BitVec.ofInt (IntKind.bits .u64) (Int.fdiv xa (2 ^ (min (Int.toNat 1) (IntKind.bits .u64)))) &&& BitVec.ofInt (IntKind.bits .u64) 6148914691236517205).toNat : Int)) + (IntKind.wrap .u64 ((BitVec.ofInt (IntKind.bits .u64) xa &&& BitVec.ofInt (IntKind.bits .u64) 6148914691236517205).toNat : Int)))) &&& BitVec.ofInt (IntKind.bits .u64) 3689348814741910323).toNat : Int)))))) &&& BitVec.ofInt (IntKind.bits .u64) 1085102592571150095).toNat : Int)) + (Int.fdiv (IntKind.wrap .u64 ((BitVec.ofInt (IntKind.bits .u64) (IntKind.wrap .u64 ((Int.fdiv (IntKind.wrap .u64 ((IntKind.wrap .u64 ((BitVec.ofInt (IntKind.bits .u64) (Int.fdiv (IntKind.wrap .u64 ((IntKind.wrap .u64 ((BitVec.ofInt (IntKind.bits .u64) (Int.fdiv xa (2 ^ (min (Int.toNat 1) (IntKind.bits .u64)))) &&& BitVec.ofInt (IntKind.bits .u64) 6148914691236517205).toNat : Int)) + (IntKind.wrap .u64 ((BitVec.ofInt (IntKind.bits .u64) xa &&& BitVec.ofInt (IntKind.bits .u64) 6148914691236517205).toNat : Int)))) (2 ^ (min (Int.toNat 2) (IntKind.bits .u64)))) &&& BitVec.ofInt (IntKind.bits .u64) 3689348814741910323).toNat : Int)) + (IntKind.wrap .u64 ((BitVec.ofInt (IntKind.bits .u64) (IntKind.wrap .u64 ((IntKind.wrap .u64 ((BitVec.ofInt (IntKind.bits .u64) (Int.fdiv xa (2 ^ (min (Int.toNat 1) (IntKind.bits .u64)))) &&& BitVec.ofInt (IntKind.bits .u64) 6148914691236517205).toNat : Int)) + (IntKind.wrap .u64 ((BitVec.ofInt (IntKind.bits .u64) xa &&& BitVec.ofInt (IntKind.bits .u64) 6148914691236517205).toNat : Int)))) &&& BitVec.ofInt (IntKind.bits .u64) 3689348814741910323).toNat : Int)))) (2 ^ (min (Int.toNat 4) (IntKind.bits .u64)))) + (IntKind.wrap .u64 ((IntKind.wrap .u64 ((BitVec.ofInt (IntKind.bits .u64) (Int.fdiv (IntKind.wrap .u64 ((IntKind.wrap .u64 ((BitVec.ofInt (IntKind.bits .u64) (Int.fdiv xa (2 ^ (min (Int.toNat 1) (IntKind.bits .u64)))) &&& BitVec.ofInt (IntKind.bits .u64) 6148914691236517205).toNat : Int)) + (IntKind.wrap .u64 ((BitVec.ofInt (IntKind.bits .u64) xa &&& BitVec.ofInt (IntKind.bits .u64) 6148914691236517205).toNat : Int)))) (2 ^ (min (Int.toNat 2) (IntKind.bits .u64)))) &&& BitVec.ofInt (IntKind.bits .u64) 3689348814741910323).toNat : Int)) + (IntKind.wrap .u64 ((BitVec.ofInt (IntKind.bits .u64) (IntKind.wrap .u64 ((IntKind.wrap .u64 ((BitVec.ofInt (IntKind.bits .u64) (Int.fdiv xa (2 ^ (min (Int.toNat 1) (IntKind.bits .u64)))) &&& BitVec.ofInt (IntKind.bits .u64) 6148914691236517205).toNat : Int)) + (IntKind.wrap .u64 ((BitVec.ofInt (IntKind.bits .u64) xa &&& BitVec.ofInt (IntKind.bits .u64) 6148914691236517205).toNat : Int)))) &&& BitVec.ofInt (IntKind.bits .u64) 3689348814741910323).toNat : Int)))))) &&& BitVec.ofInt (IntKind.bits .u64) 1085102592571150095).toNat : Int)) (2 ^ (min (Int.toNat 8) (IntKind.bits .u64)))))) (2 ^ (min (Int.toNat 16) (IntKind.bits .u64)))))) (2 ^ (min (Int.toNat 32) (IntKind.bits .u64))))))) &&& BitVec.ofInt (IntKind.bits .i64) 127).toNat : Int))
noncomputable def h_math_bits_OnesCount64 : Hn Tryz.prog := .nil
noncomputable def sp_math_bits_OnesCount64 : Spec := ⟨50, ⟨[(0, .dat (.int .u64))], []⟩, [⟨[kdI 0], []⟩], fun x => fn_math_bits_OnesCount64 x⟩
theorem math_bits_OnesCount64_is : SpecOk Tryz.prog sp_math_bits_OnesCount64 := fn_is func50 h_math_bits_OnesCount64 (by kernel_rfl) (by kernel_rfl)
noncomputable def ok_math_bits_OnesCount64 : OkSpec Tryz.prog := ⟨sp_math_bits_OnesCount64, math_bits_OnesCount64_is, call50⟩
noncomputable def fn_dense_Set_Count_l1 (y125 : Tq7) : (Int × Int) → Option ((Int × Int) ⊕ Int) := fun ((i209, i210) : (Int × Int)) => cond (decide (i210 < (y125.2.length : Int))) ((getI y125.2 i210).bind fun x231 => (fn_math_bits_OnesCount64 x231).bind fun i242 => some (.inl ((IntKind.wrap .i64 (i209 + i242), IntKind.wrap .i64 (i210 + 1))))) (some (.inr (i209)))
noncomputable def fn_dense_Set_Count (xa : (Option Tq7)) : Option Int :=
  cond (xa.isNone) (some (0)) ((xa : Option Tq7).bind fun y125 => (loop (fn_dense_Set_Count_l1 y125) (0, 0) : Option Int).bind fun i190 => some (i190))
noncomputable def h_dense_Set_Count : Hn Tryz.prog := .tw 7 (.nil) (.jn [] ⟨[kdI 3], []⟩ [] (.lp ⟨[kdI 3, kdI 13], []⟩ (.tw 14 (.cl ok_math_bits_OnesCount64 [] (.nil)) (.nil))) (.nil))
noncomputable def sp_dense_Set_Count : Spec := ⟨25, ⟨[(0, .dat Yq11)], []⟩, [⟨[kdI 0], []⟩], fun x => fn_dense_Set_Count x⟩
theorem dense_Set_Count_is : SpecOk Tryz.prog sp_dense_Set_Count := fn_is func25 h_dense_Set_Count (by kernel_rfl) (by kernel_rfl)
noncomputable def ok_dense_Set_Count : OkSpec Tryz.prog := ⟨sp_dense_Set_Count, dense_Set_Count_is, call25⟩
noncomputable def fn_live_Of_az_l1 (p2923 : (Option Tq18)) (l2979 : (List (List Int))) (z2987 : List (Option Tq7)) : Tq17 → Option (Tq17 ⊕ (List (Option Tq7))) := fun ((i3800, l3801) : Tq17) => cond (decide (i3800 < (z2987.length : Int))) ((fn_touch_Touches_Of p2923 i3800).bind fun (l4023, l4024) => cond (decide (0 < (l4023.length : Int))) ((getI l3801 i3800).bind fun x4048 => (fn_live_spread l2979 l4023 l4024).bind fun o => match o with | .inl _ => (getI l3801 i3800).bind fun _ => (chkI i3800 i3800).bind fun _ => (getI (l3801.set i3800.toNat none) i3800).bind fun x4145 => (getI (l3801.set i3800.toNat none) i3800).bind fun _ => (chkI i3800 i3800).bind fun _ => (fn_dense_Set_Count x4145).bind fun i4160 => (fn_tick_Counter_Add_zii 2 i4160).bind fun _ => some (.inl ((IntKind.wrap .i64 (i3800 + 1), (l3801.set i3800.toNat none).set i3800.toNat x4145))) | .inr (i4169, l4170) => (getI l3801 i3800).bind fun _ => (chkI i3800 i3800).bind fun _ => (getI (l3801.set i3800.toNat (some (i4169, l4170))) i3800).bind fun x4179 => (getI (l3801.set i3800.toNat (some (i4169, l4170))) i3800).bind fun _ => (chkI i3800 i3800).bind fun _ => (fn_dense_Set_Count x4179).bind fun i4194 => (fn_tick_Counter_Add_zii 2 i4194).bind fun _ => some (.inl ((IntKind.wrap .i64 (i3800 + 1), (l3801.set i3800.toNat (some (i4169, l4170))).set i3800.toNat x4179)))) (some (.inl ((IntKind.wrap .i64 (i3800 + 1), l3801))))) (some (.inr (l3801)))
noncomputable def fn_live_Of_az (xa : Tq1) : Option ((Option Tq17)) :=
  (fn_touch_New xa).bind fun p2923 => (fn_touch_Touches_Len p2923).bind fun i2931 => cond (decide (i2931 = 0)) (some ((some (i2931, [])))) ((fn_tick_Counter_Add_zii 2 i2931).bind fun _ => (fn_flow_New xa).bind fun p2971 => (fn_live_backs p2971 i2931).bind fun l2979 => (mk (xa.2.2.2.1.length : Int) (xa.2.2.2.1.length : Int) none : Option (List (Option Tq7))).bind fun z2987 => (loop (fn_live_Of_az_l1 p2923 l2979 z2987) (0, z2987) : Option ((List (Option Tq7)))).bind fun l3598 => some ((some (i2931, l3598))))
noncomputable def h_live_Of_az : Hn Tryz.prog := .cl ok_touch_New [] (.cl ok_touch_Touches_Len [] (.tw 21 (.perb 2 3 Yq15 (.nil)) (.cl ok_tick_Counter_Add_zii [] (.mix [([0, 2, 3, 4, 5], 1)] [] [6, 7] [] (.cl ok_flow_New [] (.cl ok_live_backs [] (.ot (.box 116 (.cons (.dat Yq2) (.one (.row 117 (.dat (.int .u64)))))) (.per 4 5 (.jn [] ⟨[], [bkO 6 (.row 68 (.box 116 (.cons (.dat Yq2) (.one (.row 117 (.dat (.int .u64)))))))]⟩ [6, 0] (.lp ⟨[kdI 48], [bkO 6 (.row 68 (.box 116 (.cons (.dat Yq2) (.one (.row 117 (.dat (.int .u64)))))))]⟩ (.tw 49 (.cl ok_touch_Touches_Of [] (.tw 59 (.opp [4] 6 64 (.mix [([0, 1, 2, 3, 4, 5, 6, 7], 8)] [9] [10] [12, 10] (.per 10 11 (.per 12 13 (.c2 ok_live_spread [] (.cls 6 16 (.opn 6 75 (.cl ok_dense_Set_Count [19] (.cl ok_tick_Counter_Add_zii [] (.cls 6 18 (.nil)))))) (.cls 6 20 (.opn 6 75 (.cl ok_dense_Set_Count [23] (.cl ok_tick_Counter_Add_zii [] (.cls 6 22 (.nil))))))))))) (.nil))) (.nil))) (.per 6 9 (.perb 2 8 Yq15 (.nil))))))))))))
noncomputable def sp_live_Of_az : Spec := ⟨6, ⟨[(0, .dat Yq1), (1, .nilp)], []⟩, [⟨[(0, .dat (.ptr Yq15))], []⟩], fun x => fn_live_Of_az x⟩
theorem live_Of_az_is : SpecOk Tryz.prog sp_live_Of_az := fn_is func6 h_live_Of_az (by kernel_rfl) (by kernel_rfl)
noncomputable def ok_live_Of_az : OkSpec Tryz.prog := ⟨sp_live_Of_az, live_Of_az_is, call6⟩
noncomputable def fn_live_Live_In_l1 (xb : Int) (y242 : Tq17) : Tq15 → Option (Tq15 ⊕ (List Int)) := fun ((l403, i408) : Tq15) => cond (decide (i408 < (y242.2.length : Int))) ((getI y242.2 i408).bind fun x447 => (fn_dense_Set_Has x447 xb).bind fun t461 => cond (t461) ((app l403 ([i408] : List Int)).bind fun z469 => some (.inl ((z469, IntKind.wrap .i64 (i408 + 1))))) (some (.inl ((l403, IntKind.wrap .i64 (i408 + 1)))))) (some (.inr (l403)))
noncomputable def fn_live_Live_In (xa : (Option Tq17)) (xb : Int) : Option (List Int) :=
  cond (xa.isNone) (some ([])) ((xa : Option Tq17).bind fun y242 => (loop (fn_live_Live_In_l1 xb y242) ([], 0) : Option (List Int)).bind fun l361 => some (l361))
noncomputable def h_live_Live_In : Hn Tryz.prog := .tw 9 (.nil) (.jn [] ⟨[(5, .own 3 Yq2)], []⟩ [] (.lp ⟨[(5, .own 3 Yq2), kdI 15], []⟩ (.tw 16 (.cl ok_dense_Set_Has [] (.tw 22 (.nil) (.nil))) (.nil))) (.nil))
noncomputable def sp_live_Live_In : Spec := ⟨14, ⟨[(0, .dat (.ptr Yq15)), kdI 1], []⟩, [⟨[(0, .own 3 Yq2)], []⟩], fun x => fn_live_Live_In x.1 x.2⟩
theorem live_Live_In_is : SpecOk Tryz.prog sp_live_Live_In := fn_is func14 h_live_Live_In (by kernel_rfl) (by kernel_rfl)
noncomputable def ok_live_Live_In : OkSpec Tryz.prog := ⟨sp_live_Live_In, live_Live_In_is, call14⟩
noncomputable def fn_ref01_Same_l1 (xa : (List Int)) (xb : (List Int)) : Int → Option (Int ⊕ (Unit ⊕ Bool)) := fun (i757 : Int) => cond (decide (i757 < (xa.length : Int))) ((getI xa i757).bind fun x889 => (getI xb i757).bind fun x898 => cond (!decide (x889 = x898)) (some (.inr ((.inr (false))))) (some (.inl (IntKind.wrap .i64 (i757 + 1))))) (some (.inr ((.inl ()))))
noncomputable def fn_ref01_Same (xa : (List Int)) (xb : (List Int)) : Option Bool :=
  cond (!decide ((xa.length : Int) = (xb.length : Int))) (some (false)) ((loop (fn_ref01_Same_l1 xa xb) 0 : Option (Unit ⊕ Bool)).bind fun o => match o with | .inr r => some r | .inl () => some (true))
noncomputable def h_ref01_Same : Hn Tryz.prog := .tw 10 (.nil) (.jx [] ⟨[], []⟩ [] (.lp ⟨[kdI 5], []⟩ (.tw 14 (.mix [] [0, 1, 2, 3, 4, 5, 6, 7, 8] [] [] (.tw 25 (.nil) (.nil))) (.nil))) (.nil))
noncomputable def sp_ref01_Same : Spec := ⟨18, ⟨[(0, .dat (.sl Yq2)), (1, .dat (.sl Yq2))], []⟩, [⟨[kdB 0], []⟩], fun x => fn_ref01_Same x.1 x.2⟩
theorem ref01_Same_is : SpecOk Tryz.prog sp_ref01_Same := fn_is func18 h_ref01_Same (by kernel_rfl) (by kernel_rfl)
noncomputable def ok_ref01_Same : OkSpec Tryz.prog := ⟨sp_ref01_Same, ref01_Same_is, call18⟩
noncomputable def fn_live_Live_Count_l1 (y144 : Tq17) : (Int × Int) → Option ((Int × Int) ⊕ Int) := fun ((i240, i241) : (Int × Int)) => cond (decide (i241 < (y144.2.length : Int))) ((getI y144.2 i241).bind fun x265 => (fn_dense_Set_Count x265).bind fun i279 => some (.inl ((IntKind.wrap .i64 (i240 + i279), IntKind.wrap .i64 (i241 + 1))))) (some (.inr (i240)))
noncomputable def fn_live_Live_Count (xa : (Option Tq17)) : Option Int :=
  cond (xa.isNone) (some (0)) ((xa : Option Tq17).bind fun y144 => (loop (fn_live_Live_Count_l1 y144) (0, 0) : Option Int).bind fun i218 => some (i218))
noncomputable def h_live_Live_Count : Hn Tryz.prog := .tw 7 (.nil) (.jn [] ⟨[kdI 3], []⟩ [] (.lp ⟨[kdI 3, kdI 13], []⟩ (.tw 14 (.cl ok_dense_Set_Count [] (.nil)) (.nil))) (.nil))
noncomputable def sp_live_Live_Count : Spec := ⟨19, ⟨[(0, .dat (.ptr Yq15))], []⟩, [⟨[kdI 0], []⟩], fun x => fn_live_Live_Count x⟩
theorem live_Live_Count_is : SpecOk Tryz.prog sp_live_Live_Count := fn_is func19 h_live_Live_Count (by kernel_rfl) (by kernel_rfl)
noncomputable def ok_live_Live_Count : OkSpec Tryz.prog := ⟨sp_live_Live_Count, live_Live_Count_is, call19⟩

noncomputable def fn_law25_awake  : Option Bool :=
  (mk 3 3 ([]) : Option (List Tq3)).bind fun z176 => (fn_live_Of_az ((1, 1, [], z176, [], [], ([(([(1, 1, 2, 0, false), (4, 0, 1, 0, false)] : List Tq4), (3, 0, 0, [], [], []))] : List ((List Tq4) × Tq6))))).bind fun p198 => (fn_live_Live_In p198 0).bind fun l206 => (fn_ref01_Same l206 ([0, 2] : List Int)).bind fun t225 => (cond (t225) ((fn_live_Live_In p198 1).bind fun l259 => (fn_ref01_Same l259 ([0, 1] : List Int)).bind fun t278 => some (t278)) (some (false))).bind fun t255 => (cond (t255) ((fn_live_Live_In p198 2).bind fun l312 => (fn_ref01_Same l312 ([0] : List Int)).bind fun t331 => some (t331)) (some (false))).bind fun t308 => (cond (t308) ((fn_live_Live_Count p198).bind fun i346 => some (decide (i346 = 5))) (some (false))).bind fun t342 => some (t342)
noncomputable def h_law25_awake : Hn Tryz.prog := .per 2 3 (.per 0 1 (.per 4 5 (.cl ok_live_Of_az [] (.cl ok_live_Live_In [] (.cl ok_ref01_Same [6, 8] (.gj 4 ⟨[kdB 20], []⟩ [] (.two 15 (.cl ok_live_Live_In [] (.cl ok_ref01_Same [10, 12] (.nil))) (.nil)) (.wt 21 (.gj 4 ⟨[kdB 26], []⟩ [] (.two 21 (.cl ok_live_Live_In [] (.cl ok_ref01_Same [10, 12] (.nil))) (.nil)) (.wt 27 (.gj 3 ⟨[kdB 31], []⟩ [] (.two 27 (.cl ok_live_Live_Count [] (.nil)) (.nil)) (.nil)))))))))))
noncomputable def sp_law25_awake : Spec := ⟨5, ⟨[], []⟩, [⟨[kdB 0], []⟩], fun x => fn_law25_awake⟩
theorem law25_awake_is : SpecOk Tryz.prog sp_law25_awake := fn_is func5 h_law25_awake (by kernel_rfl) (by kernel_rfl)
noncomputable def ok_law25_awake : OkSpec Tryz.prog := ⟨sp_law25_awake, law25_awake_is, call5⟩

noncomputable def fn_live_Live_Len (xa : (Option Tq17)) : Option Int :=
  cond (xa.isNone) (some (0)) ((xa : Option Tq17).bind fun y11 => some (y11.1))
noncomputable def h_live_Live_Len : Hn Tryz.prog := .tw 4 (.nil) (.nil)
noncomputable def sp_live_Live_Len : Spec := ⟨9, ⟨[(0, .dat (.ptr Yq15))], []⟩, [⟨[kdI 0], []⟩], fun x => fn_live_Live_Len x⟩
theorem live_Live_Len_is : SpecOk Tryz.prog sp_live_Live_Len := fn_is func9 h_live_Live_Len (by kernel_rfl) (by kernel_rfl)
noncomputable def ok_live_Live_Len : OkSpec Tryz.prog := ⟨sp_live_Live_Len, live_Live_Len_is, call9⟩

noncomputable def fn_touch_Touches_Reads (xa : (Option Tq18)) (xb : Int) : Option (List Int) :=
  (cond (decide (xb < 0)) (some (true)) ((fn_touch_Touches_Len xa).bind fun i66 => some (decide (i66 ≤ xb)))).bind fun t62 => cond (t62) (some ([])) ((xa : Option Tq18).bind fun y72 => (getI y72.1 xb).bind fun x82 => (fn_slices_Clone_int_int x82.1).bind fun l97 => some (l97))
noncomputable def h_touch_Touches_Reads : Hn Tryz.prog := .gj 4 ⟨[kdB 12], []⟩ [] (.two 7 (.nil) (.cl ok_touch_Touches_Len [] (.nil))) (.tw 12 (.nil) (.cl ok_slices_Clone_int_int [] (.nil)))
noncomputable def sp_touch_Touches_Reads : Spec := ⟨10, ⟨[(0, .dat (.ptr Yq14)), kdI 1], []⟩, [⟨[(0, .own 3 Yq2)], []⟩], fun x => fn_touch_Touches_Reads x.1 x.2⟩
theorem touch_Touches_Reads_is : SpecOk Tryz.prog sp_touch_Touches_Reads := fn_is func10 h_touch_Touches_Reads (by kernel_rfl) (by kernel_rfl)
noncomputable def ok_touch_Touches_Reads : OkSpec Tryz.prog := ⟨sp_touch_Touches_Reads, touch_Touches_Reads_is, call10⟩

noncomputable def fn_live_Live_of (xa : (Option Tq17)) (xb : Int) : Option ((Option Tq7)) :=
  (cond (xa.isNone || (decide (xb < 0))) (some (true)) ((xa : Option Tq17).bind fun y68 => some (decide ((y68.2.length : Int) ≤ xb)))).bind fun t66 => cond (t66) (some (none)) ((xa : Option Tq17).bind fun y79 => (getI y79.2 xb).bind fun x89 => some (x89))
noncomputable def h_live_Live_of : Hn Tryz.prog := .gp 2 (.wt 11 (.gj 7 ⟨[kdB 19], []⟩ [] (.two 11 (.nil) (.nil)) (.tw 19 (.nil) (.nil))))
noncomputable def sp_live_Live_of : Spec := ⟨37, ⟨[(0, .dat (.ptr Yq15)), kdI 1], []⟩, [⟨[(0, .dat Yq11)], []⟩], fun x => fn_live_Live_of x.1 x.2⟩
theorem live_Live_of_is : SpecOk Tryz.prog sp_live_Live_of := fn_is func37 h_live_Live_of (by kernel_rfl) (by kernel_rfl)
noncomputable def ok_live_Live_of : OkSpec Tryz.prog := ⟨sp_live_Live_of, live_Live_of_is, call37⟩

noncomputable def fn_live_Live_Has (xa : (Option Tq17)) (xb : Int) (xc : Int) : Option Bool :=
  (fn_live_Live_of xa xc).bind fun p18 => (fn_dense_Set_Has p18 xb).bind fun t26 => some (t26)
noncomputable def h_live_Live_Has : Hn Tryz.prog := .cl ok_live_Live_of [] (.cl ok_dense_Set_Has [] (.nil))
noncomputable def sp_live_Live_Has : Spec := ⟨11, ⟨[(0, .dat (.ptr Yq15)), kdI 1, kdI 2], []⟩, [⟨[kdB 0], []⟩], fun x => fn_live_Live_Has x.1 x.2.1 x.2.2⟩
theorem live_Live_Has_is : SpecOk Tryz.prog sp_live_Live_Has := fn_is func11 h_live_Live_Has (by kernel_rfl) (by kernel_rfl)
noncomputable def ok_live_Live_Has : OkSpec Tryz.prog := ⟨sp_live_Live_Has, live_Live_Has_is, call11⟩

noncomputable def fn_touch_Touches_Write (xa : (Option Tq18)) (xb : Int) : Option (Int × Bool) :=
  (cond (decide (xb < 0)) (some (true)) ((fn_touch_Touches_Len xa).bind fun i112 => some (decide (i112 ≤ xb)))).bind fun t108 => (cond (t108) (some (true)) ((xa : Option Tq18).bind fun y142 => (getI y142.1 xb).bind fun x152 => some (decide ((x152.2.length : Int) = 0)))).bind fun t140 => cond (t140) (some ((0, false))) ((xa : Option Tq18).bind fun y166 => (getI y166.1 xb).bind fun x176 => (getI x176.2 0).bind fun x189 => some ((x189, true)))
noncomputable def h_touch_Touches_Write : Hn Tryz.prog := .gj 4 ⟨[kdB 13], []⟩ [] (.two 8 (.nil) (.cl ok_touch_Touches_Len [] (.nil))) (.wt 14 (.gj 10 ⟨[kdB 25], []⟩ [] (.two 14 (.nil) (.nil)) (.tw 25 (.nil) (.nil))))
noncomputable def sp_touch_Touches_Write : Spec := ⟨12, ⟨[(0, .dat (.ptr Yq14)), kdI 1], []⟩, [⟨[(0, .tup [.dat Yq2, .dat .bool])], []⟩], fun x => fn_touch_Touches_Write x.1 x.2⟩
theorem touch_Touches_Write_is : SpecOk Tryz.prog sp_touch_Touches_Write := fn_is func12 h_touch_Touches_Write (by kernel_rfl) (by kernel_rfl)
noncomputable def ok_touch_Touches_Write : OkSpec Tryz.prog := ⟨sp_touch_Touches_Write, touch_Touches_Write_is, call12⟩

noncomputable def fn_graph_Graph_Out (xa : Tq10) (xb : Int) : Option (List Int) :=
  (fn_graph_Graph_isNode xa xb).bind fun t48 => cond (!t48) (some ([])) ((xa : Option (Int × Tq5 × Tq2 × Tq2)).bind fun y54 => (fn_graph_index_of (y54.2.2.1.1, y54.2.2.1.2) xb).bind fun l70 => (fn_slices_Clone_int_int l70).bind fun l79 => some (l79))
noncomputable def h_graph_Graph_Out : Hn Tryz.prog := .cl ok_graph_Graph_isNode [] (.tw 8 (.nil) (.cl ok_graph_index_of [] (.cl ok_slices_Clone_int_int [] (.nil))))
noncomputable def sp_graph_Graph_Out : Spec := ⟨62, ⟨[(0, .dat (.ptr Yq4)), kdI 1], []⟩, [⟨[(0, .own 3 Yq2)], []⟩], fun x => fn_graph_Graph_Out x.1 x.2⟩
theorem graph_Graph_Out_is : SpecOk Tryz.prog sp_graph_Graph_Out := fn_is func62 h_graph_Graph_Out (by kernel_rfl) (by kernel_rfl)
noncomputable def ok_graph_Graph_Out : OkSpec Tryz.prog := ⟨sp_graph_Graph_Out, graph_Graph_Out_is, call62⟩
noncomputable def fn_graph_Graph_Next_l1 (xa : Tq10) (l470 : (List Int)) : Tq15 → Option (Tq15 ⊕ (List Int)) := fun ((l664, i669) : Tq15) => cond (decide (i669 < (l470.length : Int))) ((getI l664 i669).bind fun x717 => (xa : Option (Int × Tq5 × Tq2 × Tq2)).bind fun y724 => (getI y724.2.1 x717).bind fun x734 => (getI l664 i669).bind fun x743 => (some (l664.set i669.toNat x734.2)).bind fun z750 => some (.inl ((z750, IntKind.wrap .i64 (i669 + 1))))) (some (.inr (l664)))
noncomputable def fn_graph_Graph_Next (xa : Tq10) (xb : Int) : Option (List Int) :=
  (fn_graph_Graph_Out xa xb).bind fun l470 => (loop (fn_graph_Graph_Next_l1 xa l470) (l470, 0) : Option (List Int)).bind fun l614 => some (l614)
noncomputable def h_graph_Graph_Next : Hn Tryz.prog := .cl ok_graph_Graph_Out [] (.jn [] ⟨[(5, .own 3 Yq2), (10, .any), (11, .any)], []⟩ [0] (.lp ⟨[(5, .own 3 Yq2), (11, .al 0), kdI 13], []⟩ (.tw 14 (.nil) (.nil))) (.nil))
noncomputable def sp_graph_Graph_Next : Spec := ⟨40, ⟨[(0, .dat (.ptr Yq4)), kdI 1], []⟩, [⟨[(0, .own 3 Yq2)], []⟩], fun x => fn_graph_Graph_Next x.1 x.2⟩
theorem graph_Graph_Next_is : SpecOk Tryz.prog sp_graph_Graph_Next := fn_is func40 h_graph_Graph_Next (by kernel_rfl) (by kernel_rfl)
noncomputable def ok_graph_Graph_Next : OkSpec Tryz.prog := ⟨sp_graph_Graph_Next, graph_Graph_Next_is, call40⟩

noncomputable def fn_flow_Flow_Next (xa : Tq21) (xb : Int) : Option (List Int) :=
  (fn_flow_Flow_ways xa).bind fun p26 => (fn_graph_Graph_Next p26 xb).bind fun l34 => some (l34)
noncomputable def h_flow_Flow_Next : Hn Tryz.prog := .cl ok_flow_Flow_ways [] (.cl ok_graph_Graph_Next [] (.nil))
noncomputable def sp_flow_Flow_Next : Spec := ⟨13, ⟨[(0, .dat (.ptr (.cons Yq12 (.one (.ptr Yq4))))), kdI 1], []⟩, [⟨[(0, .own 3 Yq2)], []⟩], fun x => fn_flow_Flow_Next x.1 x.2⟩
theorem flow_Flow_Next_is : SpecOk Tryz.prog sp_flow_Flow_Next := fn_is func13 h_flow_Flow_Next (by kernel_rfl) (by kernel_rfl)
noncomputable def ok_flow_Flow_Next : OkSpec Tryz.prog := ⟨sp_flow_Flow_Next, flow_Flow_Next_is, call13⟩
noncomputable def fn_ref21_head_l1 (xa : Tq1) : Int → Option (Int ⊕ (Unit ⊕ Tq8)) := fun (i242 : Int) => cond (decide (i242 < (xa.2.2.1.length : Int))) ((getI xa.2.2.1 i242).bind fun x267 => cond ((((decide (x267.1 < 0)) || (decide (xa.1 ≤ x267.1))) || (decide (x267.2 < 0))) || (decide (xa.1 ≤ x267.2))) (some (.inr ((.inr ((7, 1, i242, 0)))))) (some (.inl (IntKind.wrap .i64 (i242 + 1))))) (some (.inr ((.inl ()))))
noncomputable def fn_ref21_head (xa : Tq1) : Option Tq8 :=
  cond ((decide (xa.1 < 1)) || (decide (xa.2.1 < xa.1))) (some ((7, 0, 0, 0))) (cond (decide (65536 < xa.2.1)) (some ((6, 0, 0, 0))) (cond (decide (65536 < (xa.2.2.1.length : Int))) (some ((6, 1, 0, 0))) ((loop (fn_ref21_head_l1 xa) 0 : Option (Unit ⊕ Tq8)).bind fun o => match o with | .inr r => some r | .inl () => some ((0, 0, 0, 0)))))
noncomputable def h_ref21_head : Hn Tryz.prog := .gp 5 (.tw 14 (.nil) (.tw 18 (.nil) (.tw 23 (.nil) (.jx [] ⟨[], [bkC 2 132 [.lit (.int .i64 0), .lit (.int .i64 0), .lit (.int .i64 0), .lit (.int .i64 0)]]⟩ [2] (.lp ⟨[kdI 3], [bkC 2 132 [.lit (.int .i64 0), .lit (.int .i64 0), .lit (.int .i64 0), .lit (.int .i64 0)]]⟩ (.tw 29 (.gp 5 (.wt 47 (.gp 3 (.wt 52 (.gp 5 (.tw 58 (.nil) (.nil))))))) (.nil))) (.nil)))))
noncomputable def sp_ref21_head : Spec := ⟨77, ⟨[(0, .dat Yq1)], []⟩, [⟨[(0, .agg [.dat Yq2, .dat Yq2, .dat Yq2, .dat Yq2])], []⟩], fun x => fn_ref21_head x⟩
theorem ref21_head_is : SpecOk Tryz.prog sp_ref21_head := fn_is func77 h_ref21_head (by kernel_rfl) (by kernel_rfl)
noncomputable def ok_ref21_head : OkSpec Tryz.prog := ⟨sp_ref21_head, ref21_head_is, call77⟩
noncomputable def fn_ref15_Check_l1 (xa : Tq3) (xb : Int) : Int → Option (Int ⊕ (Unit ⊕ Int)) := fun (i339 : Int) => cond (decide (i339 < (xa.length : Int))) ((getI xa i339).bind fun x375 => (cond (decide (x375.1 < 0)) (some (true)) ((getI xa i339).bind fun x396 => some (decide (xb ≤ x396.1)))).bind fun t394 => cond (t394) (some (.inr ((.inr (7))))) (some (.inl (IntKind.wrap .i64 (i339 + 1))))) (some (.inr ((.inl ()))))
noncomputable def fn_ref15_Check (xa : Tq3) (xb : Int) : Option Int :=
  cond (decide (16 < (xa.length : Int))) (some (6)) ((loop (fn_ref15_Check_l1 xa xb) 0 : Option (Unit ⊕ Int)).bind fun o => match o with | .inr r => some r | .inl () => some (0))
noncomputable def h_ref15_Check : Hn Tryz.prog := .tw 9 (.nil) (.jx [] ⟨[], []⟩ [] (.lp ⟨[kdI 5], []⟩ (.tw 14 (.gj 8 ⟨[kdB 33], []⟩ [] (.two 24 (.nil) (.nil)) (.tw 33 (.nil) (.nil))) (.nil))) (.nil))
noncomputable def sp_ref15_Check : Spec := ⟨103, ⟨[(0, .dat Yq8), kdI 1], []⟩, [⟨[kdI 0], []⟩], fun x => fn_ref15_Check x.1 x.2⟩
theorem ref15_Check_is : SpecOk Tryz.prog sp_ref15_Check := fn_is func103 h_ref15_Check (by kernel_rfl) (by kernel_rfl)
noncomputable def ok_ref15_Check : OkSpec Tryz.prog := ⟨sp_ref15_Check, ref15_Check_is, call103⟩
noncomputable def fn_ref15_Shape_l1 (xa : Tq3) (xb : Tq3) : Int → Option (Int ⊕ (Unit ⊕ Bool)) := fun (i761 : Int) => cond (decide (i761 < (xa.length : Int))) ((getI xa i761).bind fun x893 => (getI xb i761).bind fun x902 => cond (!(x893.2 == x902.2)) (some (.inr ((.inr (false))))) (some (.inl (IntKind.wrap .i64 (i761 + 1))))) (some (.inr ((.inl ()))))
noncomputable def fn_ref15_Shape (xa : Tq3) (xb : Tq3) : Option Bool :=
  cond (!decide ((xa.length : Int) = (xb.length : Int))) (some (false)) ((loop (fn_ref15_Shape_l1 xa xb) 0 : Option (Unit ⊕ Bool)).bind fun o => match o with | .inr r => some r | .inl () => some (true))
noncomputable def h_ref15_Shape : Hn Tryz.prog := .tw 12 (.nil) (.jx [] ⟨[], []⟩ [] (.lp ⟨[kdI 5], []⟩ (.tw 17 (.mix [] [0, 1, 2, 3, 4, 5, 6, 7, 8, 9, 10, 11, 12] [] [] (.tw 32 (.nil) (.nil))) (.nil))) (.nil))
noncomputable def sp_ref15_Shape : Spec := ⟨104, ⟨[(0, .dat Yq8), (1, .dat Yq8)], []⟩, [⟨[kdB 0], []⟩], fun x => fn_ref15_Shape x.1 x.2⟩
theorem ref15_Shape_is : SpecOk Tryz.prog sp_ref15_Shape := fn_is func104 h_ref15_Shape (by kernel_rfl) (by kernel_rfl)
noncomputable def ok_ref15_Shape : OkSpec Tryz.prog := ⟨sp_ref15_Shape, ref15_Shape_is, call104⟩
noncomputable def fn_ref17_Check_l1 (xa : Tq12) : Int → Option (Int ⊕ (Unit ⊕ Int)) := fun (i618 : Int) => cond (decide (i618 < (xa.2.1.length : Int))) ((getI xa.2.1 i618).bind fun x643 => cond ((((decide (x643.1 < 0)) || (decide (xa.1 ≤ x643.1))) || (decide (x643.2 < 0))) || (decide (xa.1 ≤ x643.2))) (some (.inr ((.inr (7))))) (some (.inl (IntKind.wrap .i64 (i618 + 1))))) (some (.inr ((.inl ()))))
noncomputable def fn_ref17_Check_l2 (xa : Tq12) : Int → Option (Int ⊕ (Unit ⊕ Int)) := fun (i908 : Int) => cond (decide (i908 < (xa.2.2.1.length : Int))) ((getI xa.2.2.1 i908).bind fun x1011 => (fn_ref15_Check x1011 xa.1).bind fun i1026 => cond (!decide (i1026 = 0)) (some (.inr ((.inr (i1026))))) (some (.inl (IntKind.wrap .i64 (i908 + 1))))) (some (.inr ((.inl ()))))
noncomputable def fn_ref17_Check (xa : Tq12) : Option Int :=
  cond (decide (xa.1 < 0)) (some (7)) (cond (((decide (16 < xa.1)) || (decide (16 < (xa.2.1.length : Int)))) || (decide (16 < (xa.2.2.1.length : Int)))) (some (6)) ((loop (fn_ref17_Check_l1 xa) 0 : Option (Unit ⊕ Int)).bind fun o => match o with | .inr r => some r | .inl () => (loop (fn_ref17_Check_l2 xa) 0 : Option (Unit ⊕ Int)).bind fun o => match o with | .inr r => some r | .inl () => (fn_ref15_Check xa.2.2.2 xa.1).bind fun i1033 => some (i1033)))
noncomputable def h_ref17_Check : Hn Tryz.prog := .tw 9 (.nil) (.gp 4 (.wt 19 (.gp 4 (.tw 24 (.nil) (.jx [] ⟨[], []⟩ [] (.lp ⟨[kdI 3], []⟩ (.tw 29 (.gp 5 (.wt 47 (.gp 3 (.wt 52 (.gp 5 (.tw 58 (.nil) (.nil))))))) (.nil))) (.jx [] ⟨[], []⟩ [] (.lp ⟨[kdI 5], []⟩ (.tw 63 (.mix [] [0, 1, 2, 3, 4, 5, 6] [7, 8] [] (.cl ok_ref15_Check [] (.tw 75 (.nil) (.nil)))) (.nil))) (.cl ok_ref15_Check [] (.nil))))))))
noncomputable def sp_ref17_Check : Spec := ⟨105, ⟨[(0, .dat Yq9)], []⟩, [⟨[kdI 0], []⟩], fun x => fn_ref17_Check x⟩
theorem ref17_Check_is : SpecOk Tryz.prog sp_ref17_Check := fn_is func105 h_ref17_Check (by kernel_rfl) (by kernel_rfl)
noncomputable def ok_ref17_Check : OkSpec Tryz.prog := ⟨sp_ref17_Check, ref17_Check_is, call105⟩
noncomputable def fn_ref21_types_l1 (xa : Tq1) : Int → Option (Int ⊕ (Unit ⊕ Tq8)) := fun (i875 : Int) => cond (decide (i875 < (xa.2.2.2.1.length : Int))) ((getI xa.2.2.2.1 i875).bind fun x978 => (fn_ref15_Check x978 xa.2.1).bind fun i993 => cond (!decide (i993 = 0)) (some (.inr ((.inr ((i993, 2, i875, 0)))))) (some (.inl (IntKind.wrap .i64 (i875 + 1))))) (some (.inr ((.inl ()))))
noncomputable def fn_ref21_types_l2 (xa : Tq1) : Int → Option (Int ⊕ (Unit ⊕ Tq8)) := fun (i1186 : Int) => cond (decide (i1186 < (xa.2.2.2.2.2.1.length : Int))) ((getI xa.2.2.2.2.2.1 i1186).bind fun x1219 => (fn_ref17_Check (x1219.1, x1219.2.1, x1219.2.2.1, x1219.2.2.2)).bind fun i1242 => cond (!decide (i1242 = 0)) (some (.inr ((.inr ((i1242, 4, i1186, 0)))))) (some (.inl (IntKind.wrap .i64 (i1186 + 1))))) (some (.inr ((.inl ()))))
noncomputable def fn_ref21_types (xa : Tq1) : Option Tq8 :=
  cond (decide ((xa.2.2.2.1.length : Int) = 0)) (some ((14, 2, 0, 0))) (cond (decide (65536 < (xa.2.2.2.1.length : Int))) (some ((6, 2, 0, 0))) ((loop (fn_ref21_types_l1 xa) 0 : Option (Unit ⊕ Tq8)).bind fun o => match o with | .inr r => some r | .inl () => (fn_ref15_Check xa.2.2.2.2.1 xa.1).bind fun i1000 => cond (!decide (i1000 = 0)) (some ((i1000, 3, 0, 0))) ((getI xa.2.2.2.1 0).bind fun x1044 => (fn_ref15_Shape x1044 xa.2.2.2.2.1).bind fun t1059 => cond (!t1059) (some ((8, 3, 0, 0))) (cond (decide (65536 < (xa.2.2.2.2.2.1.length : Int))) (some ((6, 4, 0, 0))) ((loop (fn_ref21_types_l2 xa) 0 : Option (Unit ⊕ Tq8)).bind fun o => match o with | .inr r => some r | .inl () => some ((0, 0, 0, 0)))))))
noncomputable def h_ref21_types : Hn Tryz.prog := .tw 11 (.nil) (.tw 16 (.nil) (.jx [] ⟨[], [bkC 2 132 [.lit (.int .i64 0), .lit (.int .i64 0), .lit (.int .i64 0), .lit (.int .i64 0)]]⟩ [2] (.lp ⟨[kdI 3], [bkC 2 132 [.lit (.int .i64 0), .lit (.int .i64 0), .lit (.int .i64 0), .lit (.int .i64 0)]]⟩ (.tw 22 (.mix [] [0, 1, 2, 3, 4, 5, 6] [7, 8] [] (.cl ok_ref15_Check [] (.tw 34 (.nil) (.nil)))) (.nil))) (.cl ok_ref15_Check [] (.tw 44 (.nil) (.mix [] [0, 1, 2, 3, 4, 5] [6, 7] [] (.cl ok_ref15_Shape [] (.tw 54 (.nil) (.tw 59 (.nil) (.jx [] ⟨[], [bkC 2 132 [.lit (.int .i64 0), .lit (.int .i64 0), .lit (.int .i64 0), .lit (.int .i64 0)]]⟩ [2] (.lp ⟨[kdI 6], [bkC 2 132 [.lit (.int .i64 0), .lit (.int .i64 0), .lit (.int .i64 0), .lit (.int .i64 0)]]⟩ (.tw 65 (.cl ok_ref17_Check [] (.tw 75 (.nil) (.nil))) (.nil))) (.nil))))))))))
noncomputable def sp_ref21_types : Spec := ⟨78, ⟨[(0, .dat Yq1)], []⟩, [⟨[(0, .agg [.dat Yq2, .dat Yq2, .dat Yq2, .dat Yq2])], []⟩], fun x => fn_ref21_types x⟩
theorem ref21_types_is : SpecOk Tryz.prog sp_ref21_types := fn_is func78 h_ref21_types (by kernel_rfl) (by kernel_rfl)
noncomputable def ok_ref21_types : OkSpec Tryz.prog := ⟨sp_ref21_types, ref21_types_is, call78⟩

noncomputable def fn_ref18_Dst (xa : Int) : Option Bool :=
  some ((((decide (xa = 1)) || (decide (xa = 2))) || (decide (xa = 3))) || (decide (xa = 5)))
noncomputable def h_ref18_Dst : Hn Tryz.prog := .gp 2 (.wt 9 (.gp 2 (.wt 13 (.gp 2 (.nil)))))
noncomputable def sp_ref18_Dst : Spec := ⟨121, ⟨[kdI 0], []⟩, [⟨[kdB 0], []⟩], fun x => fn_ref18_Dst x⟩
theorem ref18_Dst_is : SpecOk Tryz.prog sp_ref18_Dst := fn_is func121 h_ref18_Dst (by kernel_rfl) (by kernel_rfl)
noncomputable def ok_ref18_Dst : OkSpec Tryz.prog := ⟨sp_ref18_Dst, ref18_Dst_is, call121⟩

noncomputable def fn_ref18_Src (xa : Int) : Option Bool :=
  some ((decide (1 ≤ xa)) && (decide (xa ≤ 4)))
noncomputable def h_ref18_Src : Hn Tryz.prog := .gp 2 (.nil)
noncomputable def sp_ref18_Src : Spec := ⟨122, ⟨[kdI 0], []⟩, [⟨[kdB 0], []⟩], fun x => fn_ref18_Src x⟩
theorem ref18_Src_is : SpecOk Tryz.prog sp_ref18_Src := fn_is func122 h_ref18_Src (by kernel_rfl) (by kernel_rfl)
noncomputable def ok_ref18_Src : OkSpec Tryz.prog := ⟨sp_ref18_Src, ref18_Src_is, call122⟩

noncomputable def fn_ref18_Region (xa : Int) : Option Bool :=
  some ((decide (xa = 2)) || (decide (xa = 3)))
noncomputable def h_ref18_Region : Hn Tryz.prog := .gp 2 (.nil)
noncomputable def sp_ref18_Region : Spec := ⟨123, ⟨[kdI 0], []⟩, [⟨[kdB 0], []⟩], fun x => fn_ref18_Region x⟩
theorem ref18_Region_is : SpecOk Tryz.prog sp_ref18_Region := fn_is func123 h_ref18_Region (by kernel_rfl) (by kernel_rfl)
noncomputable def ok_ref18_Region : OkSpec Tryz.prog := ⟨sp_ref18_Region, ref18_Region_is, call123⟩

noncomputable def fn_ref18_Form (xa : Tq4) : Option Bool :=
  (cond ((decide (0 ≤ xa.1)) && (decide (xa.1 ≤ 5))) ((fn_ref18_Dst xa.1).bind fun t97 => some (t97 || (decide (xa.2.1 = 0)))) (some (false))).bind fun t93 => (cond (t93) ((fn_ref18_Src xa.1).bind fun t118 => some (t118 || (decide (xa.2.2.1 = 0)))) (some (false))).bind fun t114 => (cond (t114) ((fn_ref18_Region xa.1).bind fun t145 => some (t145 || ((decide (xa.2.2.2.1 = 0)) && (!xa.2.2.2.2)))) (some (false))).bind fun t141 => some (t141)
noncomputable def h_ref18_Form : Hn Tryz.prog := .gp 3 (.wt 11 (.gj 8 ⟨[kdB 20], []⟩ [] (.two 11 (.cl ok_ref18_Dst [] (.wt 15 (.gp 3 (.nil)))) (.nil)) (.wt 21 (.gj 8 ⟨[kdB 30], []⟩ [] (.two 21 (.cl ok_ref18_Src [] (.wt 25 (.gp 3 (.nil)))) (.nil)) (.wt 31 (.gj 13 ⟨[kdB 45], []⟩ [] (.two 31 (.cl ok_ref18_Region [] (.wt 35 (.gp 8 (.nil)))) (.nil)) (.nil)))))))
noncomputable def sp_ref18_Form : Spec := ⟨120, ⟨[(0, .dat Yq6)], []⟩, [⟨[kdB 0], []⟩], fun x => fn_ref18_Form x⟩
theorem ref18_Form_is : SpecOk Tryz.prog sp_ref18_Form := fn_is func120 h_ref18_Form (by kernel_rfl) (by kernel_rfl)
noncomputable def ok_ref18_Form : OkSpec Tryz.prog := ⟨sp_ref18_Form, ref18_Form_is, call120⟩
noncomputable def fn_ref16_slots_rkkii_l1 (xb : Tq3) (xc : Tq3) (xd : Int) (xe : Int) : Tq16 → Option (Tq16 ⊕ (List Tq4)) := fun ((l1989, i1994) : Tq16) => cond (decide (i1994 < (xb.length : Int))) ((getI xb i1994).bind fun x2257 => (getI xc i1994).bind fun x2266 => (app l1989 (([(x2257.1, x2266.1, xd, IntKind.wrap .i64 (xe + i1994), false)] : List Tq4))).bind fun z2278 => (getI xc i1994).bind fun x2284 => cond (x2284.2) ((getI xc i1994).bind fun x2357 => (getI xb i1994).bind fun x2366 => (app z2278 (([(x2357.1, x2366.1, xd, IntKind.wrap .i64 (xe + i1994), true)] : List Tq4))).bind fun z2378 => some (.inl ((z2378, IntKind.wrap .i64 (i1994 + 1))))) (some (.inl ((z2278, IntKind.wrap .i64 (i1994 + 1)))))) (some (.inr (l1989)))
noncomputable def fn_ref16_slots_rkkii (xb : Tq3) (xc : Tq3) (xd : Int) (xe : Int) (qxa : (List Tq4)) : Option ((List Tq4)) :=
  (loop (fn_ref16_slots_rkkii_l1 xb xc xd xe) (qxa, 0) : Option ((List Tq4))).bind fun l1787 => some (l1787)
noncomputable def h_ref16_slots_rkkii : Hn Tryz.prog := .jn [] ⟨[(0, .own 195 Yq6)], []⟩ [0] (.lp ⟨[(0, .own 195 Yq6), kdI 11], []⟩ (.tw 15 (.mix [([0, 1, 2, 3, 4, 5, 6, 7, 8, 9, 10, 11, 12, 13, 14, 15], 16)] [] [17, 18] [] (.tw 40 (.mix [([0, 1, 2, 3, 4, 5, 6, 7, 8, 9, 10, 11, 12, 13, 14, 15], 16)] [] [17, 18] [] (.nil)) (.nil))) (.nil))) (.nil)
noncomputable def sp_ref16_slots_rkkii : Spec := ⟨137, ⟨[(0, .own 195 Yq6), (1, .dat (.sl Yq3)), (2, .dat (.sl Yq3)), kdI 3, kdI 4], []⟩, [⟨[(0, .own 195 Yq6)], []⟩], fun x => fn_ref16_slots_rkkii x.2.1 x.2.2.1 x.2.2.2.1 x.2.2.2.2 x.1⟩
theorem ref16_slots_rkkii_is : SpecOk Tryz.prog sp_ref16_slots_rkkii := fn_is func137 h_ref16_slots_rkkii (by kernel_rfl) (by kernel_rfl)
noncomputable def ok_ref16_slots_rkkii : OkSpec Tryz.prog := ⟨sp_ref16_slots_rkkii, ref16_slots_rkkii_is, call137⟩

noncomputable def fn_ref16_Flow (xa : Tq3) (xb : Tq3) (xc : Int) (xd : Int) : Option (Tq16) :=
  (fn_ref15_Shape xa xb).bind fun t34 => cond (!t34) (some (([], 8))) ((fn_ref16_slots_rkkii xa xb xc xd (([] : List Tq4))).bind fun l45 => some ((l45, 0)))
noncomputable def h_ref16_Flow : Hn Tryz.prog := .cl ok_ref15_Shape [] (.tw 13 (.nil) (.cl ok_ref16_slots_rkkii [] (.nil)))
noncomputable def sp_ref16_Flow : Spec := ⟨124, ⟨[(0, .dat Yq8), (1, .dat Yq8), kdI 2, kdI 3], []⟩, [⟨[(0, .tup [.own 195 Yq6, .dat Yq2])], []⟩], fun x => fn_ref16_Flow x.1 x.2.1 x.2.2.1 x.2.2.2⟩
theorem ref16_Flow_is : SpecOk Tryz.prog sp_ref16_Flow := fn_is func124 h_ref16_Flow (by kernel_rfl) (by kernel_rfl)
noncomputable def ok_ref16_Flow : OkSpec Tryz.prog := ⟨sp_ref16_Flow, ref16_Flow_is, call124⟩
noncomputable def fn_ref15_Ref_l1 (xa : Tq3) (xc : Bool) : (Tq3 × Int) → Option ((Tq3 × Int) ⊕ Tq3) := fun ((l1690, i1695) : (Tq3 × Int)) => cond (decide (i1695 < (xa.length : Int))) ((getI xa i1695).bind fun x1892 => (getI xa i1695).bind fun x1901 => cond (x1901.2) ((app l1690 (([(x1892.1, true)] : List (Int × Bool)))).bind fun z1914 => some (.inl ((z1914, IntKind.wrap .i64 (i1695 + 1))))) ((app l1690 (([(x1892.1, xc)] : List (Int × Bool)))).bind fun z1923 => some (.inl ((z1923, IntKind.wrap .i64 (i1695 + 1)))))) (some (.inr (l1690)))
noncomputable def fn_ref15_Ref (xa : Tq3) (xb : Int) (xc : Bool) : Option (Tq3) :=
  (loop (fn_ref15_Ref_l1 xa xc) ((([(xb, false)] : List (Int × Bool)), 0)) : Option (Tq3)).bind fun l1566 => some (l1566)
noncomputable def h_ref15_Ref : Hn Tryz.prog := .jn [] ⟨[(7, .own 176 Yq3), (11, .any)], []⟩ [4] (.lp ⟨[(7, .own 176 Yq3), kdI 8], []⟩ (.tw 16 (.mix [([0, 1, 2, 3, 4, 5, 6, 7, 8, 9, 10, 11, 12, 13, 14, 15, 16], 17)] [] [18, 19] [] (.two 32 (.nil) (.nil))) (.nil))) (.nil)
noncomputable def sp_ref15_Ref : Spec := ⟨138, ⟨[(0, .dat Yq8), kdI 1, kdB 2], []⟩, [⟨[(0, .agg [.own 176 Yq3])], []⟩], fun x => fn_ref15_Ref x.1 x.2.1 x.2.2⟩
theorem ref15_Ref_is : SpecOk Tryz.prog sp_ref15_Ref := fn_is func138 h_ref15_Ref (by kernel_rfl) (by kernel_rfl)
noncomputable def ok_ref15_Ref : OkSpec Tryz.prog := ⟨sp_ref15_Ref, ref15_Ref_is, call138⟩

noncomputable def fn_ref16_Loan (xa : Tq3) (xb : Tq3) (xc : Int) (xd : Bool) : Option (Tq16) :=
  (fn_ref15_Ref xa xc xd).bind fun l140 => (fn_ref15_Shape l140 xb).bind fun t153 => cond (!t153) (some (([], 8))) ((getI xb 0).bind fun x159 => (subL xb 1 (xb.length : Int)).bind fun y189 => (fn_ref16_slots_rkkii xa y189 1 1 (([(xc, x159.1, 2, 0, false)] : List Tq4))).bind fun l197 => some ((l197, 0)))
noncomputable def h_ref16_Loan : Hn Tryz.prog := .mix [([0, 1, 2, 4], 3)] [] [5, 6] [] (.cl ok_ref15_Ref [] (.cl ok_ref15_Shape [4] (.tw 17 (.nil) (.mix [] [0, 1, 2, 3, 4, 5] [6, 7, 8] [] (.cl ok_ref16_slots_rkkii [] (.nil))))))
noncomputable def sp_ref16_Loan : Spec := ⟨125, ⟨[(0, .dat Yq8), (1, .dat Yq8), kdI 2, kdB 3], []⟩, [⟨[(0, .tup [.own 195 Yq6, .dat Yq2])], []⟩], fun x => fn_ref16_Loan x.1 x.2.1 x.2.2.1 x.2.2.2⟩
theorem ref16_Loan_is : SpecOk Tryz.prog sp_ref16_Loan := fn_is func125 h_ref16_Loan (by kernel_rfl) (by kernel_rfl)
noncomputable def ok_ref16_Loan : OkSpec Tryz.prog := ⟨sp_ref16_Loan, ref16_Loan_is, call125⟩
end
section
open Go.RowKit _root_.Go.Proofs.Tryz
noncomputable def fn_ref16_Again_l1 (xa : Tq3) (xd : Bool) : Int → Option (Int ⊕ (Unit ⊕ Tq16)) := fun (i473 : Int) => cond (decide (i473 < (xa.length : Int))) ((cond (xd) ((getI xa i473).bind fun x512 => some (!x512.2)) (some (false))).bind fun t510 => cond (t510) (some (.inr ((.inr (([], 8)))))) (some (.inl (IntKind.wrap .i64 (i473 + 1))))) (some (.inr ((.inl ()))))
noncomputable def fn_ref16_Again (xa : Tq3) (xb : Tq3) (xc : Int) (xd : Bool) : Option (Tq16) :=
  (cond (decide ((xa.length : Int) = 0)) (some (true)) ((fn_ref15_Shape xa xb).bind fun t349 => some (!t349))).bind fun t345 => (cond (t345) (some (true)) ((getI xa 0).bind fun x365 => some (x365.2))).bind fun t363 => cond (t363) (some (([], 8))) ((loop (fn_ref16_Again_l1 xa xd) 1 : Option (Unit ⊕ Tq16)).bind fun o => match o with | .inr r => some r | .inl () => (getI xa 0).bind fun x586 => (getI xb 0).bind fun x595 => (subL xa 1 (xa.length : Int)).bind fun y643 => (subL xb 1 (xb.length : Int)).bind fun y649 => (fn_ref16_slots_rkkii y643 y649 1 1 (([(x586.1, xc, 3, 0, false), (xc, x595.1, 2, 0, false)] : List Tq4))).bind fun l657 => some ((l657, 0)))
noncomputable def h_ref16_Again : Hn Tryz.prog := .gj 4 ⟨[kdB 21], []⟩ [] (.two 16 (.nil) (.cl ok_ref15_Shape [] (.nil))) (.wt 22 (.gj 5 ⟨[kdB 28], []⟩ [] (.two 22 (.nil) (.nil)) (.tw 28 (.nil) (.jx [] ⟨[], []⟩ [] (.lp ⟨[kdI 10], []⟩ (.tw 33 (.gj 7 ⟨[kdB 45], []⟩ [] (.two 37 (.nil) (.nil)) (.tw 45 (.nil) (.nil))) (.nil))) (.mix [([0, 1, 2, 3, 4, 5, 6, 7, 8, 9, 10, 11, 12, 13], 14)] [15] [] [] (.mix [] [0, 1, 2, 3, 4, 5, 6] [7, 8, 9] [] (.cl ok_ref16_slots_rkkii [] (.nil))))))))
noncomputable def sp_ref16_Again : Spec := ⟨126, ⟨[(0, .dat Yq8), (1, .dat Yq8), kdI 2, kdB 3], []⟩, [⟨[(0, .tup [.own 195 Yq6, .dat Yq2])], []⟩], fun x => fn_ref16_Again x.1 x.2.1 x.2.2.1 x.2.2.2⟩
theorem ref16_Again_is : SpecOk Tryz.prog sp_ref16_Again := fn_is func126 h_ref16_Again (by kernel_rfl) (by kernel_rfl)
noncomputable def ok_ref16_Again : OkSpec Tryz.prog := ⟨sp_ref16_Again, ref16_Again_is, call126⟩

noncomputable def fn_ref18_Needs (xa : Tq4) (xb : (List Tq3)) (xc : Int) : Option (Tq16) :=
  (fn_ref18_Form (xa.1, xa.2.1, xa.2.2.1, xa.2.2.2.1, xa.2.2.2.2)).bind fun t547 => cond (!t547) (some (([], 3))) ((fn_ref18_Dst xa.1).bind fun t555 => (cond (t555 && ((decide (xa.2.1 < 0)) || (decide ((xb.length : Int) ≤ xa.2.1)))) (some (true)) ((fn_ref18_Src xa.1).bind fun t588 => some (t588 && ((decide (xa.2.2.1 < 0)) || (decide ((xb.length : Int) ≤ xa.2.2.1)))))).bind fun t584 => (cond (t584) (some (true)) ((fn_ref18_Region xa.1).bind fun t621 => some (t621 && ((decide (xa.2.2.2.1 < 0)) || (decide (xc ≤ xa.2.2.2.1)))))).bind fun t617 => cond (t617) (some (([], 7))) (cond (decide (xa.1 = 1)) ((getI xb xa.2.2.1).bind fun x748 => (getI xb xa.2.1).bind fun x761 => (fn_ref16_Flow x748 x761 1 0).bind fun (l776, i777) => some ((l776, i777))) (cond (decide (xa.1 = 2)) ((getI xb xa.2.2.1).bind fun x897 => (getI xb xa.2.1).bind fun x910 => (fn_ref16_Loan x897 x910 xa.2.2.2.1 xa.2.2.2.2).bind fun (l925, i926) => some ((l925, i926))) (cond (decide (xa.1 = 3)) ((getI xb xa.2.2.1).bind fun x1046 => (getI xb xa.2.1).bind fun x1059 => (fn_ref16_Again x1046 x1059 xa.2.2.2.1 xa.2.2.2.2).bind fun (l1074, i1075) => some ((l1074, i1075))) (some (([], 0)))))))
noncomputable def h_ref18_Needs : Hn Tryz.prog := .cl ok_ref18_Form [] (.tw 10 (.nil) (.cl ok_ref18_Dst [] (.gp 10 (.wt 26 (.gj 15 ⟨[kdB 42], []⟩ [] (.two 26 (.nil) (.cl ok_ref18_Src [] (.wt 30 (.gp 10 (.nil))))) (.wt 43 (.gj 14 ⟨[kdB 58], []⟩ [] (.two 43 (.nil) (.cl ok_ref18_Region [] (.wt 47 (.gp 9 (.nil))))) (.tw 58 (.nil) (.tw 61 (.mix [([0, 1, 2, 3, 4, 5, 6, 7, 8, 9], 10)] [11, 12, 13, 14] [] [] (.cl ok_ref16_Flow [] (.nil))) (.tw 77 (.mix [([0, 1, 2, 3, 4, 5, 6, 7, 8, 9, 10, 11, 12, 13], 14)] [15, 16, 17, 18] [] [] (.cl ok_ref16_Loan [] (.nil))) (.tw 97 (.mix [([0, 1, 2, 3, 4, 5, 6, 7, 8, 9, 10, 11, 12, 13], 14)] [15, 16, 17, 18] [] [] (.cl ok_ref16_Again [] (.nil))) (.nil))))))))))))
noncomputable def sp_ref18_Needs : Spec := ⟨106, ⟨[(0, .dat Yq6), (1, .dat (.sl Yq8)), kdI 2], []⟩, [⟨[(0, .tup [.own 195 Yq6, .dat Yq2])], []⟩], fun x => fn_ref18_Needs x.1 x.2.1 x.2.2⟩
theorem ref18_Needs_is : SpecOk Tryz.prog sp_ref18_Needs := fn_is func106 h_ref18_Needs (by kernel_rfl) (by kernel_rfl)
noncomputable def ok_ref18_Needs : OkSpec Tryz.prog := ⟨sp_ref18_Needs, ref18_Needs_is, call106⟩

noncomputable def fn_ref19_Form (xa : Tq6) : Option Int :=
  cond ((decide (xa.1 < 1)) || (decide (4 < xa.1))) (some (3)) (cond (((((decide (xa.1 = 1)) || (decide (xa.1 = 4))) && (!decide ((xa.2.2.2.1.length : Int) = 1))) || ((decide (xa.1 = 2)) && (decide ((xa.2.2.2.1.length : Int) = 0)))) || ((decide (xa.1 = 3)) && (!decide ((xa.2.2.2.1.length : Int) = 0)))) (some (3)) (cond ((!decide (xa.1 = 4)) && (((!decide (xa.2.1 = 0)) || (!decide (xa.2.2.1 = 0))) || (!decide ((xa.2.2.2.2.2.length : Int) = 0)))) (some (3)) (cond (((decide (xa.1 = 1)) || (decide (xa.1 = 3))) && (!decide ((xa.2.2.2.2.1.length : Int) = 0))) (some (3)) (cond (((decide (16 < (xa.2.2.2.1.length : Int))) || (decide (16 < (xa.2.2.2.2.1.length : Int)))) || (decide (16 < (xa.2.2.2.2.2.length : Int)))) (some (6)) (some (0))))))
noncomputable def h_ref19_Form : Hn Tryz.prog := .gp 3 (.tw 10 (.nil) (.gp 3 (.wt 19 (.gp 4 (.wt 25 (.gp 9 (.wt 36 (.gp 9 (.tw 46 (.nil) (.gp 14 (.tw 65 (.nil) (.gp 3 (.wt 74 (.gp 4 (.tw 79 (.nil) (.gp 4 (.wt 90 (.gp 4 (.tw 95 (.nil) (.nil))))))))))))))))))))
noncomputable def sp_ref19_Form : Spec := ⟨127, ⟨[(0, .dat Yq10)], []⟩, [⟨[kdI 0], []⟩], fun x => fn_ref19_Form x⟩
theorem ref19_Form_is : SpecOk Tryz.prog sp_ref19_Form := fn_is func127 h_ref19_Form (by kernel_rfl) (by kernel_rfl)
noncomputable def ok_ref19_Form : OkSpec Tryz.prog := ⟨sp_ref19_Form, ref19_Form_is, call127⟩
noncomputable def fn_ref19_within_l1 (xa : (List Int)) (xb : Int) : Int → Option (Int ⊕ (Unit ⊕ Bool)) := fun (i335 : Int) => cond (decide (i335 < (xa.length : Int))) ((getI xa i335).bind fun x371 => (cond (decide (x371 < 0)) (some (true)) ((getI xa i335).bind fun x392 => some (decide (xb ≤ x392)))).bind fun t390 => cond (t390) (some (.inr ((.inr (false))))) (some (.inl (IntKind.wrap .i64 (i335 + 1))))) (some (.inr ((.inl ()))))
noncomputable def fn_ref19_within (xa : (List Int)) (xb : Int) : Option Bool :=
  (loop (fn_ref19_within_l1 xa xb) 0 : Option (Unit ⊕ Bool)).bind fun o => match o with | .inr r => some r | .inl () => some (true)
noncomputable def h_ref19_within : Hn Tryz.prog := .jx [] ⟨[], []⟩ [] (.lp ⟨[kdI 5], []⟩ (.tw 9 (.gj 6 ⟨[kdB 24], []⟩ [] (.two 17 (.nil) (.nil)) (.tw 24 (.nil) (.nil))) (.nil))) (.nil)
noncomputable def sp_ref19_within : Spec := ⟨128, ⟨[(0, .dat (.sl Yq2)), kdI 1], []⟩, [⟨[kdB 0], []⟩], fun x => fn_ref19_within x.1 x.2⟩
theorem ref19_within_is : SpecOk Tryz.prog sp_ref19_within := fn_is func128 h_ref19_within (by kernel_rfl) (by kernel_rfl)
noncomputable def ok_ref19_within : OkSpec Tryz.prog := ⟨sp_ref19_within, ref19_within_is, call128⟩
noncomputable def fn_ref15_Subst_l1 (xa : Tq3) (xb : (List Int)) : (Tq3 × Int) → Option ((Tq3 × Int) ⊕ (Tq3 ⊕ (Tq3 × Int))) := fun ((l1565, i1570) : (Tq3 × Int)) => cond (decide (i1570 < (xa.length : Int))) ((getI xa i1570).bind fun x1683 => cond ((decide (x1683.1 < 0)) || (decide ((xb.length : Int) ≤ x1683.1))) (some (.inr ((.inr (([], 7)))))) ((getI xb x1683.1).bind fun x1760 => (getI xa i1570).bind fun x1769 => (app l1565 (([(x1760, x1769.2)] : List (Int × Bool)))).bind fun z1781 => some (.inl ((z1781, IntKind.wrap .i64 (i1570 + 1)))))) (some (.inr (.inl l1565)))
noncomputable def fn_ref15_Subst (xa : Tq3) (xb : (List Int)) : Option ((Tq3 × Int)) :=
  (loop (fn_ref15_Subst_l1 xa xb) ((([] : List (Int × Bool)), 0)) : Option (Tq3 ⊕ (Tq3 × Int))).bind fun o => match o with | .inr r => some r | .inl l1450 => some ((l1450, 0))
noncomputable def h_ref15_Subst : Hn Tryz.prog := .jx [] ⟨[(6, .own 176 Yq3), (9, .any)], [bkC 2 26 [.nils]]⟩ [4, 2] (.lp ⟨[(6, .own 176 Yq3), kdI 7], [bkC 2 26 [.nils]]⟩ (.tw 14 (.gp 4 (.tw 30 (.nil) (.mix [([0, 1, 2, 3, 4, 5, 6, 7, 8, 9, 10, 11], 12)] [] [13, 14] [] (.nil)))) (.nil))) (.nil)
noncomputable def sp_ref15_Subst : Spec := ⟨139, ⟨[(0, .dat Yq8), (1, .dat (.sl Yq2))], []⟩, [⟨[(0, .tup [.agg [.own 176 Yq3], .dat Yq2])], []⟩], fun x => fn_ref15_Subst x.1 x.2⟩
theorem ref15_Subst_is : SpecOk Tryz.prog sp_ref15_Subst := fn_is func139 h_ref15_Subst (by kernel_rfl) (by kernel_rfl)
noncomputable def ok_ref15_Subst : OkSpec Tryz.prog := ⟨sp_ref15_Subst, ref15_Subst_is, call139⟩
noncomputable def fn_ref17_Call_l1 (xa : Tq12) (xb : (List Int)) : Tq16 → Option (Tq16 ⊕ (List Tq4)) := fun ((l3453, i3458) : Tq16) => cond (decide (i3458 < (xa.2.1.length : Int))) ((getI xa.2.1 i3458).bind fun x3747 => (getI xb x3747.1).bind fun x3756 => (getI xa.2.1 i3458).bind fun x3765 => (getI xb x3765.2).bind fun x3774 => (app l3453 (([(x3756, x3774, 4, i3458, false)] : List Tq4))).bind fun z3786 => some (.inl ((z3786, IntKind.wrap .i64 (i3458 + 1))))) (some (.inr (l3453)))
noncomputable def fn_ref17_Call_l2 (xa : Tq12) (xb : (List Int)) (xc : (List Tq3)) : Tq16 → Option (Tq16 ⊕ ((List Tq4) ⊕ Tq16)) := fun ((l4463, i4468) : Tq16) => cond (decide (i4468 < (xa.2.2.1.length : Int))) ((getI xa.2.2.1 i4468).bind fun x4638 => (fn_ref15_Subst x4638 xb).bind fun (l4653, i4654) => (getI xc i4468).bind fun x4765 => (fn_ref16_Flow x4765 l4653 5 (IntKind.wrap .i64 (16 * i4468))).bind fun (l4780, i4781) => cond (!decide (i4781 = 0)) (some (.inr ((.inr (([], i4781)))))) ((app l4463 l4780).bind fun z4791 => some (.inl ((z4791, IntKind.wrap .i64 (i4468 + 1)))))) (some (.inr (.inl l4463)))
noncomputable def fn_ref17_Call (xa : Tq12) (xb : (List Int)) (xc : (List Tq3)) (xd : Tq3) : Option (Tq16) :=
  (fn_ref17_Check (xa.1, xa.2.1, xa.2.2.1, xa.2.2.2)).bind fun i2757 => cond (!decide (i2757 = 0)) (some (([], i2757))) (cond ((!decide ((xb.length : Int) = xa.1)) || (!decide ((xc.length : Int) = (xa.2.2.1.length : Int)))) (some (([], 2))) ((loop (fn_ref17_Call_l1 xa xb) ((([] : List Tq4), 0)) : Option ((List Tq4))).bind fun l3279 => (loop (fn_ref17_Call_l2 xa xb xc) (l3279, 0) : Option ((List Tq4) ⊕ Tq16)).bind fun o => match o with | .inr r => some r | .inl l4292 => (fn_ref15_Subst xa.2.2.2 xb).bind fun (l4800, i4801) => (fn_ref16_Flow l4800 xd 6 0).bind fun (l4815, i4816) => cond (!decide (i4816 = 0)) (some (([], i4816))) ((app l4292 l4815).bind fun z4826 => some ((z4826, 0)))))
noncomputable def h_ref17_Call : Hn Tryz.prog := .cl ok_ref17_Check [] (.tw 25 (.nil) (.gp 6 (.tw 39 (.nil) (.jn [] ⟨[(11, .own 195 Yq6), (40, .any)], []⟩ [4] (.lp ⟨[(11, .own 195 Yq6), kdI 12], []⟩ (.tw 45 (.mix [([0, 1, 2, 3, 4, 5, 6, 7, 8, 9, 10, 11, 12, 13, 14, 15, 16, 17, 18, 19, 20], 21)] [] [22, 23] [] (.nil)) (.nil))) (.jx [] ⟨[(11, .own 195 Yq6)], []⟩ [6] (.lp ⟨[(11, .own 195 Yq6), kdI 13], []⟩ (.tw 75 (.cl ok_ref15_Subst [] (.per 10 11 (.mix [([0, 1, 2, 3, 4, 5, 6], 7)] [8, 9, 10, 11, 12] [] [] (.cl ok_ref16_Flow [] (.tw 100 (.nil) (.nil)))))) (.nil))) (.cl ok_ref15_Subst [] (.per 10 11 (.cl ok_ref16_Flow [] (.tw 119 (.nil) (.nil))))))))))
noncomputable def sp_ref17_Call : Spec := ⟨129, ⟨[(0, .dat Yq9), (1, .dat (.sl Yq2)), (2, .dat (.sl Yq8)), (3, .dat Yq8)], []⟩, [⟨[(0, .tup [.own 195 Yq6, .dat Yq2])], []⟩], fun x => fn_ref17_Call x.1 x.2.1 x.2.2.1 x.2.2.2⟩
theorem ref17_Call_is : SpecOk Tryz.prog sp_ref17_Call := fn_is func129 h_ref17_Call (by kernel_rfl) (by kernel_rfl)
noncomputable def ok_ref17_Call : OkSpec Tryz.prog := ⟨sp_ref17_Call, ref17_Call_is, call129⟩
noncomputable def fn_ref19_Needs_l1 (xa : Tq6) (xb : Tq20) : ((List Tq3) × Int) → Option (((List Tq3) × Int) ⊕ (List Tq3)) := fun ((l2259, i2264) : ((List Tq3) × Int)) => cond (decide (i2264 < (xa.2.2.2.2.1.length : Int))) ((getI xa.2.2.2.2.1 i2264).bind fun x2455 => (getI xb.2.2.1 x2455).bind fun x2464 => (app l2259 (([x2464] : List Tq3))).bind fun z2480 => some (.inl ((z2480, IntKind.wrap .i64 (i2264 + 1))))) (some (.inr (l2259)))
noncomputable def fn_ref19_Needs (xa : Tq6) (xb : Tq20) : Option (Tq16) :=
  (fn_ref19_Form (xa.1, xa.2.1, xa.2.2.1, xa.2.2.2.1, xa.2.2.2.2.1, xa.2.2.2.2.2)).bind fun i1568 => cond (!decide (i1568 = 0)) (some (([], i1568))) ((fn_ref19_within xa.2.2.2.1 xb.1).bind fun t1576 => (cond (!t1576) (some (true)) ((fn_ref19_within xa.2.2.2.2.1 (xb.2.2.1.length : Int)).bind fun t1591 => some (!t1591))).bind fun t1587 => (cond (t1587) (some (true)) ((fn_ref19_within xa.2.2.2.2.2 xb.2.1).bind fun t1606 => some (!t1606))).bind fun t1602 => cond (t1602) (some (([], 7))) ((cond (decide (xa.1 = 4)) ((fn_ref19_within ([xa.2.2.1] : List Int) (xb.2.2.1.length : Int)).bind fun t1662 => (cond (!t1662) (some (true)) ((fn_ref19_within ([xa.2.1] : List Int) (xb.2.2.2.2.length : Int)).bind fun t1689 => some (!t1689))).bind fun t1679 => some (t1679)) (some (false))).bind fun t1652 => cond (t1652) (some (([], 7))) (cond ((decide (xa.1 = 3)) && (decide ((xb.2.2.1.length : Int) = 0))) (some (([], 14))) (cond (decide (xa.1 = 3)) ((getI xb.2.2.1 0).bind fun x1773 => (fn_ref16_Flow x1773 xb.2.2.2.1 7 0).bind fun (l1788, i1789) => some ((l1788, i1789))) (cond (decide (xa.1 = 4)) ((loop (fn_ref19_Needs_l1 xa xb) ((([] : List Tq3), 0)) : Option ((List Tq3))).bind fun l2141 => (getI xb.2.2.2.2 xa.2.1).bind fun x2630 => (getI xb.2.2.1 xa.2.2.1).bind fun x2651 => (fn_ref17_Call (x2630.1, x2630.2.1, x2630.2.2.1, x2630.2.2.2) xa.2.2.2.2.2 l2141 x2651).bind fun (l2669, i2670) => some ((l2669, i2670))) (some (([], 0))))))))
noncomputable def h_ref19_Needs : Hn Tryz.prog := .cl ok_ref19_Form [] (.tw 12 (.nil) (.cl ok_ref19_within [] (.gj 7 ⟨[kdB 28], []⟩ [] (.two 20 (.nil) (.cl ok_ref19_within [] (.nil))) (.wt 29 (.gj 6 ⟨[kdB 36], []⟩ [] (.two 29 (.nil) (.cl ok_ref19_within [] (.nil))) (.tw 36 (.nil) (.gj 18 ⟨[kdB 59], []⟩ [] (.two 40 (.cl ok_ref19_within [4] (.wt 49 (.gj 8 ⟨[kdB 58], []⟩ [] (.two 49 (.nil) (.cl ok_ref19_within [6] (.nil))) (.nil)))) (.nil)) (.tw 59 (.nil) (.gp 4 (.tw 68 (.nil) (.tw 71 (.mix [([0, 1, 2, 3, 4, 5], 6)] [7, 8, 9, 10] [] [] (.cl ok_ref16_Flow [] (.nil))) (.tw 83 (.jn [] ⟨[(7, .own 26 Yq8), (84, .any)], []⟩ [4] (.lp ⟨[(7, .own 26 Yq8), kdI 8], []⟩ (.tw 89 (.mix [([0, 1, 2, 3, 4, 5, 6, 7, 8, 9], 10)] [] [11, 12] [] (.nil)) (.nil))) (.mix [([0, 1, 2, 3, 4, 5, 6, 7, 8, 9, 10, 11, 12, 13, 14], 15)] [16, 17, 18, 19] [] [6] (.per 6 7 (.cl ok_ref17_Call [] (.nil))))) (.nil)))))))))))))
noncomputable def sp_ref19_Needs : Spec := ⟨107, ⟨[(0, .dat Yq10), (1, .dat Yq13)], []⟩, [⟨[(0, .tup [.own 195 Yq6, .dat Yq2])], []⟩], fun x => fn_ref19_Needs x.1 x.2⟩
theorem ref19_Needs_is : SpecOk Tryz.prog sp_ref19_Needs := fn_is func107 h_ref19_Needs (by kernel_rfl) (by kernel_rfl)
noncomputable def ok_ref19_Needs : OkSpec Tryz.prog := ⟨sp_ref19_Needs, ref19_Needs_is, call107⟩
noncomputable def fn_ref21_blocks_l1 (xa : Tq1) : (Int × Int) → Option ((Int × Int) ⊕ (Unit ⊕ Tq8)) := fun ((i4053, i4054) : (Int × Int)) => cond (decide (i4054 < (xa.2.2.2.2.2.2.length : Int))) ((getI xa.2.2.2.2.2.2 i4054).bind fun x4074 => cond (decide (65536 < (IntKind.wrap .i64 (i4053 + (x4074.1.length : Int))))) (some (.inr ((.inr ((6, 5, i4054, 0)))))) (some (.inl ((IntKind.wrap .i64 (i4053 + (x4074.1.length : Int)), IntKind.wrap .i64 (i4054 + 1)))))) (some (.inr ((.inl ()))))
noncomputable def fn_ref21_blocks_l2 (xa : Tq1) (i6666 : Int) (x7313 : ((List Tq4) × Tq6)) : Int → Option (Int ⊕ (Unit ⊕ (Int ⊕ (Unit ⊕ Tq8)))) := fun (i7659 : Int) => cond (decide (i7659 < (x7313.1.length : Int))) ((getI x7313.1 i7659).bind fun x7805 => (fn_ref18_Needs (x7805.1, x7805.2.1, x7805.2.2.1, x7805.2.2.2.1, x7805.2.2.2.2) xa.2.2.2.1 xa.2.1).bind fun (l7816, i7817) => cond (!decide (i7817 = 0)) (some (.inr ((.inr (.inr ((.inr ((i7817, 6, i6666, i7659))))))))) (some (.inl (IntKind.wrap .i64 (i7659 + 1))))) (some (.inr ((.inl ()))))
noncomputable def fn_ref21_blocks_l3 (xa : Tq1) : Int → Option (Int ⊕ (Unit ⊕ Tq8)) := fun (i6666 : Int) => cond (decide (i6666 < (xa.2.2.2.2.2.2.length : Int))) ((getI xa.2.2.2.2.2.2 i6666).bind fun x7313 => (loop (fn_ref21_blocks_l2 xa i6666 x7313) 0 : Option (Unit ⊕ (Int ⊕ (Unit ⊕ Tq8)))).bind fun o => match o with | .inr r => some r | .inl () => (getI xa.2.2.2.2.2.2 i6666).bind fun x7922 => (fn_ref19_Needs (x7922.2.1, x7922.2.2.1, x7922.2.2.2.1, x7922.2.2.2.2.1, x7922.2.2.2.2.2.1, x7922.2.2.2.2.2.2) (((xa.2.2.2.2.2.2.length : Int), xa.2.1, xa.2.2.2.1, xa.2.2.2.2.1, xa.2.2.2.2.2.1))).bind fun (l7945, i7946) => cond (!decide (i7946 = 0)) (some (.inr ((.inr ((i7946, 7, i6666, 0)))))) (some (.inl (IntKind.wrap .i64 (i6666 + 1))))) (some (.inr ((.inl ()))))
noncomputable def fn_ref21_blocks (xa : Tq1) : Option Tq8 :=
  cond (decide ((xa.2.2.2.2.2.2.length : Int) = 0)) (some ((14, 5, 0, 0))) (cond (decide (65536 < (xa.2.2.2.2.2.2.length : Int))) (some ((6, 5, 0, 0))) ((loop (fn_ref21_blocks_l1 xa) (0, 0) : Option (Unit ⊕ Tq8)).bind fun o => match o with | .inr r => some r | .inl () => (loop (fn_ref21_blocks_l3 xa) 0 : Option (Unit ⊕ Tq8)).bind fun o => match o with | .inr r => some r | .inl () => some ((0, 0, 0, 0))))
noncomputable def h_ref21_blocks : Hn Tryz.prog := .tw 16 (.nil) (.tw 21 (.nil) (.jx [] ⟨[], [bkC 2 132 [.lit (.int .i64 0), .lit (.int .i64 0), .lit (.int .i64 0), .lit (.int .i64 0)]]⟩ [2] (.lp ⟨[kdI 3, kdI 4], [bkC 2 132 [.lit (.int .i64 0), .lit (.int .i64 0), .lit (.int .i64 0), .lit (.int .i64 0)]]⟩ (.tw 27 (.tw 40 (.nil) (.nil)) (.nil))) (.jx [] ⟨[], [bkC 2 132 [.lit (.int .i64 0), .lit (.int .i64 0), .lit (.int .i64 0), .lit (.int .i64 0)]]⟩ [2] (.lp ⟨[kdI 6], [bkC 2 132 [.lit (.int .i64 0), .lit (.int .i64 0), .lit (.int .i64 0), .lit (.int .i64 0)]]⟩ (.tw 59 (.pl (.pl (.jx [] ⟨[], [bkC 2 132 [.lit (.int .i64 0), .lit (.int .i64 0), .lit (.int .i64 0), .lit (.int .i64 0)]]⟩ [2] (.lp ⟨[kdI 8], [bkC 2 132 [.lit (.int .i64 0), .lit (.int .i64 0), .lit (.int .i64 0), .lit (.int .i64 0)]]⟩ (.tw 71 (.mix [([0, 1, 2, 3, 4, 5, 6, 7], 8)] [9, 10, 11, 12, 13] [] [] (.cl ok_ref18_Needs [] (.tw 87 (.nil) (.nil)))) (.nil))) (.mix [([0, 1, 2, 3, 4, 5, 6], 7)] [8, 9, 10, 11, 12] [] [] (.cl ok_ref19_Needs [] (.tw 104 (.nil) (.nil))))))) (.nil))) (.nil))))
noncomputable def sp_ref21_blocks : Spec := ⟨79, ⟨[(0, .dat Yq1)], []⟩, [⟨[(0, .agg [.dat Yq2, .dat Yq2, .dat Yq2, .dat Yq2])], []⟩], fun x => fn_ref21_blocks x⟩
theorem ref21_blocks_is : SpecOk Tryz.prog sp_ref21_blocks := fn_is func79 h_ref21_blocks (by kernel_rfl) (by kernel_rfl)
noncomputable def ok_ref21_blocks : OkSpec Tryz.prog := ⟨sp_ref21_blocks, ref21_blocks_is, call79⟩

noncomputable def fn_ref21_Check (xa : Tq1) : Option Tq8 :=
  (fn_ref21_head xa).bind fun (i42, i43, i44, i45) => cond (!decide (i42 = 0)) (some ((i42, i43, i44, i45))) ((fn_ref21_types xa).bind fun (i53, i54, i55, i56) => cond (!decide (i53 = 0)) (some ((i53, i54, i55, i56))) ((fn_ref21_blocks xa).bind fun (i63, i65, i66, i67) => some ((i63, i65, i66, i67))))
noncomputable def h_ref21_Check : Hn Tryz.prog := .cl ok_ref21_head [] (.tw 8 (.nil) (.cl ok_ref21_types [] (.tw 14 (.nil) (.cl ok_ref21_blocks [] (.nil)))))
noncomputable def sp_ref21_Check : Spec := ⟨63, ⟨[(0, .dat Yq1)], []⟩, [⟨[(0, .agg [.dat Yq2, .dat Yq2, .dat Yq2, .dat Yq2])], []⟩], fun x => fn_ref21_Check x⟩
theorem ref21_Check_is : SpecOk Tryz.prog sp_ref21_Check := fn_is func63 h_ref21_Check (by kernel_rfl) (by kernel_rfl)
noncomputable def ok_ref21_Check : OkSpec Tryz.prog := ⟨sp_ref21_Check, ref21_Check_is, call63⟩

noncomputable def fn_ref21_OK (xa : Tq1) : Option Bool :=
  (fn_ref21_Check xa).bind fun (i15, i17, i18, i19) => some (decide (i15 = 0))
noncomputable def h_ref21_OK : Hn Tryz.prog := .cl ok_ref21_Check [] (.nil)
noncomputable def sp_ref21_OK : Spec := ⟨41, ⟨[(0, .dat Yq1)], []⟩, [⟨[kdB 0], []⟩], fun x => fn_ref21_OK x⟩
theorem ref21_OK_is : SpecOk Tryz.prog sp_ref21_OK := fn_is func41 h_ref21_OK (by kernel_rfl) (by kernel_rfl)
noncomputable def ok_ref21_OK : OkSpec Tryz.prog := ⟨sp_ref21_OK, ref21_OK_is, call41⟩
noncomputable def fn_ref22_All_l1 (i1763 : Int) (x1889 : ((List Tq4) × Tq6)) : ((List Tq19) × Int) → Option (((List Tq19) × Int) ⊕ (List Tq19)) := fun ((l1972, i1977) : ((List Tq19) × Int)) => cond (decide (i1977 ≤ (x1889.1.length : Int))) ((app l1972 (([(i1763, i1977, decide (i1977 = (x1889.1.length : Int)))] : List Tq19))).bind fun z1999 => some (.inl ((z1999, IntKind.wrap .i64 (i1977 + 1))))) (some (.inr (l1972)))
noncomputable def fn_ref22_All_l2 (xa : Tq1) : ((List Tq19) × Int) → Option (((List Tq19) × Int) ⊕ (List Tq19)) := fun ((l1758, i1763) : ((List Tq19) × Int)) => cond (decide (i1763 < (xa.2.2.2.2.2.2.length : Int))) ((getI xa.2.2.2.2.2.2 i1763).bind fun x1889 => (loop (fn_ref22_All_l1 i1763 x1889) (l1758, 0) : Option ((List Tq19))).bind fun l1951 => some (.inl ((l1951, IntKind.wrap .i64 (i1763 + 1))))) (some (.inr (l1758)))
noncomputable def fn_ref22_All (xa : Tq1) : Option ((List Tq19)) :=
  (fn_ref21_OK xa).bind fun t1255 => cond (!t1255) (some (([] : List Tq19))) ((loop (fn_ref22_All_l2 xa) ((([] : List Tq19), 0)) : Option ((List Tq19))).bind fun l1630 => some (l1630))
noncomputable def h_ref22_All : Hn Tryz.prog := .cl ok_ref21_OK [] (.tw 10 (.nil) (.jn [] ⟨[(3, .own 99 (.cons Yq2 Yq3)), (7, .any)], []⟩ [2] (.lp ⟨[(3, .own 99 (.cons Yq2 Yq3)), kdI 4], []⟩ (.tw 16 (.pl (.pl (.jn [] ⟨[(3, .own 99 (.cons Yq2 Yq3))], []⟩ [4] (.lp ⟨[(3, .own 99 (.cons Yq2 Yq3)), kdI 6], []⟩ (.tw 28 (.nil) (.nil))) (.nil)))) (.nil))) (.nil)))
noncomputable def sp_ref22_All : Spec := ⟨15, ⟨[(0, .dat Yq1)], []⟩, [⟨[(0, .own 99 (.cons Yq2 Yq3))], []⟩], fun x => fn_ref22_All x⟩
theorem ref22_All_is : SpecOk Tryz.prog sp_ref22_All := fn_is func15 h_ref22_All (by kernel_rfl) (by kernel_rfl)
noncomputable def ok_ref22_All : OkSpec Tryz.prog := ⟨sp_ref22_All, ref22_All_is, call15⟩
noncomputable def fn_law25_LiveSteps_l1 (p13769 : (Option Tq17)) (i21892 : Int) (l23928 : (List Int)) : Int → Option (Int ⊕ (Unit ⊕ (Int ⊕ (Unit ⊕ Bool)))) := fun (i24001 : Int) => cond (decide (i24001 < (l23928.length : Int))) ((getI l23928 i24001).bind fun x24020 => (fn_live_Live_Has p13769 i21892 x24020).bind fun t24029 => cond (!t24029) (some (.inr ((.inr (.inr ((.inr (false)))))))) (some (.inl (IntKind.wrap .i64 (i24001 + 1))))) (some (.inr ((.inl ()))))
noncomputable def fn_law25_LiveSteps_l2 (p13769 : (Option Tq17)) (i21892 : Int) (i24036 : Int) (t24037 : Bool) (l25639 : (List Int)) : Int → Option (Int ⊕ (Unit ⊕ (Int ⊕ (Unit ⊕ (Int ⊕ (Unit ⊕ Bool)))))) := fun (i25844 : Int) => cond (decide (i25844 < (l25639.length : Int))) ((cond (!t24037) (some (true)) ((getI l25639 i25844).bind fun x25906 => some (!decide (x25906 = i24036)))).bind fun t25904 => (cond (t25904) ((getI l25639 i25844).bind fun x25929 => (fn_live_Live_Has p13769 i21892 x25929).bind fun t25938 => some (!t25938)) (some (false))).bind fun t25927 => cond (t25927) (some (.inr ((.inr (.inr ((.inr (.inr ((.inr (false))))))))))) (some (.inl (IntKind.wrap .i64 (i25844 + 1))))) (some (.inr ((.inl ()))))
noncomputable def fn_law25_LiveSteps_l3 (p13769 : (Option Tq17)) (i21892 : Int) (i24036 : Int) (t24037 : Bool) (l24043 : (List Int)) : Int → Option (Int ⊕ (Unit ⊕ (Int ⊕ (Unit ⊕ Bool)))) := fun (i25312 : Int) => cond (decide (i25312 < (l24043.length : Int))) ((getI l24043 i25312).bind fun x25630 => (fn_live_Live_In p13769 x25630).bind fun l25639 => (loop (fn_law25_LiveSteps_l2 p13769 i21892 i24036 t24037 l25639) 0 : Option (Unit ⊕ (Int ⊕ (Unit ⊕ (Int ⊕ (Unit ⊕ Bool)))))).bind fun o => match o with | .inr r => some r | .inl () => some (.inl (IntKind.wrap .i64 (i25312 + 1)))) (some (.inr ((.inl ()))))
noncomputable def fn_law25_LiveSteps_l4 (p13769 : (Option Tq17)) (p13777 : Tq21) (p13785 : (Option Tq18)) : Int → Option (Int ⊕ (Unit ⊕ Bool)) := fun (i21892 : Int) => (fn_live_Live_Len p13769).bind fun i23921 => cond (decide (i21892 < i23921)) ((fn_touch_Touches_Reads p13785 i21892).bind fun l23928 => (loop (fn_law25_LiveSteps_l1 p13769 i21892 l23928) 0 : Option (Unit ⊕ (Int ⊕ (Unit ⊕ Bool)))).bind fun o => match o with | .inr r => some r | .inl () => (fn_touch_Touches_Write p13785 i21892).bind fun (i24036, t24037) => (fn_flow_Flow_Next p13777 i21892).bind fun l24043 => (loop (fn_law25_LiveSteps_l3 p13769 i21892 i24036 t24037 l24043) 0 : Option (Unit ⊕ (Int ⊕ (Unit ⊕ Bool)))).bind fun o => match o with | .inr r => some r | .inl () => some (.inl (IntKind.wrap .i64 (i21892 + 1)))) (some (.inr ((.inl ()))))
noncomputable def fn_law25_LiveSteps (xa : Tq1) : Option Bool :=
  (fn_ref20_Small xa).bind fun t13756 => cond (!t13756) ((fn_law25_awake).bind fun t13763 => some (t13763)) ((fn_live_Of_az xa).bind fun p13769 => (fn_flow_New xa).bind fun p13777 => (fn_touch_New xa).bind fun p13785 => (loop (fn_law25_LiveSteps_l4 p13769 p13777 p13785) 0 : Option (Unit ⊕ Bool)).bind fun o => match o with | .inr r => some r | .inl () => (fn_live_Live_Len p13769).bind fun i25963 => (fn_ref22_All xa).bind fun l25969 => cond (decide (i25963 = (l25969.length : Int))) ((fn_law25_awake).bind fun t25980 => some (t25980)) (some (false)))
noncomputable def h_law25_LiveSteps : Hn Tryz.prog := .cl ok_ref20_Small [] (.tw 17 (.cl ok_law25_awake [] (.nil)) (.cl ok_live_Of_az [] (.cl ok_flow_New [] (.cl ok_touch_New [] (.jx [] ⟨[], []⟩ [] (.lp ⟨[kdI 6], []⟩ (.cl ok_live_Live_Len [] (.tw 28 (.cl ok_touch_Touches_Reads [] (.jx [] ⟨[], []⟩ [] (.lp ⟨[kdI 8], []⟩ (.tw 37 (.cl ok_live_Live_Has [] (.tw 47 (.nil) (.nil))) (.nil))) (.cl ok_touch_Touches_Write [] (.cl ok_flow_Flow_Next [] (.jx [] ⟨[], []⟩ [2] (.lp ⟨[kdI 12], []⟩ (.tw 60 (.cl ok_live_Live_In [] (.jx [] ⟨[], []⟩ [] (.lp ⟨[kdI 14], []⟩ (.tw 72 (.gj 6 ⟨[kdB 84], []⟩ [] (.two 77 (.nil) (.nil)) (.wt 85 (.gj 8 ⟨[kdB 94], []⟩ [] (.two 85 (.cl ok_live_Live_Has [] (.nil)) (.nil)) (.tw 94 (.nil) (.nil))))) (.nil))) (.nil))) (.nil))) (.nil)))))) (.nil)))) (.mix [([0, 2], 1)] [] [3, 4, 5, 6, 7, 8, 9] [] (.cl ok_live_Live_Len [] (.cl ok_ref22_All [] (.two 101 (.cl ok_law25_awake [] (.nil)) (.nil))))))))))
noncomputable def sp_law25_LiveSteps : Spec := ⟨3, ⟨[(0, .dat Yq1)], []⟩, [⟨[kdB 0], []⟩], fun x => fn_law25_LiveSteps x⟩
theorem law25_LiveSteps_is : SpecOk Tryz.prog sp_law25_LiveSteps := fn_is func3 h_law25_LiveSteps (by kernel_rfl) (by kernel_rfl)
end
set_option linter.unnecessarySimpa false
set_option linter.unusedSimpArgs false
open Go.RowKit
abbrev St := Int × Bool
def shp (xa xb : List St) : Bool := decide (xa.map (·.2) = xb.map (·.2))
theorem shp_of_loop (xa xb : List St) {body : Int → Option (Int ⊕ (Unit ⊕ Bool))} (hl : xa.length = xb.length) (hb : ∀ (k : Nat) (h : k < xa.length), body (k : Int) = some (if xa[k].2 = (xb[k]'(by omega)).2 then .inl ((k + 1 : Nat) : Int) else .inr (.inr false))) (he : body (xa.length : Int) = some (.inr (.inl ()))) :
    loop body 0 = some (if shp xa xb then .inl () else .inr false) := by
  have := loop_alike (body := body) (xa.map (·.2)) (xb.map (·.2)) (.inr false) (.inl ()) (by simp [hl]) (fun k h => by simpa using hb k (by simpa using h)) (by simpa using he)
  rw [this]; unfold shp
  by_cases h : xa.map (·.2) = xb.map (·.2) <;> simp [h]
theorem shp_len {xa xb : List St} (h : ¬ xa.length = xb.length) : shp xa xb = false := by
  unfold shp; simp only [decide_eq_false_iff_not]
  intro e; exact h (by simpa using congrArg List.length e)
theorem shp_len' {xa xb : List St} (h : shp xa xb = true) : xa.length = xb.length := by
  unfold shp at h; simpa using congrArg List.length (of_decide_eq_true h)
theorem shp_comm (xa xb : List St) : shp xa xb = shp xb xa := by unfold shp; simp only [eq_comm]
theorem Few_eq (xa : List St) (n : Int) : fn_ref15_Few xa n = some (decide ((xa.length : Int) ≤ n)) := rfl
theorem refShape_eq (xa xb : List St) (hn : xa.length ≤ 1073741824) : fn_ref15_Shape xa xb = some (shp xa xb) := by
  unfold fn_ref15_Shape
  by_cases hl : xa.length = xb.length
  · rw [dlen hl, cond_false, shp_of_loop xa xb hl ?_ ?_]
    · cases shp xa xb <;> rfl
    · intro k h; unfold fn_ref15_Shape_l1
      have h2 : k < xb.length := by omega
      by_cases q : xa[k].2 = xb[k].2 <;> simp [getN h, getN h2, h, q, w64s h (by omega), beq_dec]
    · simp [fn_ref15_Shape_l1]
  · rw [dlen' hl, cond_true, shp_len hl]
theorem rowShape_eq (xa xb : List St) (hn : xa.length ≤ 1073741824) : fn_row_Shape xa xb = some (shp xa xb) := by
  unfold fn_row_Shape fn_slices_EqualFunc_api_Slot_api_Slot_api_Slot_api_Slot_kk_row_Shape_1
  by_cases hl : xa.length = xb.length
  · rw [dlen hl, cond_false, shp_of_loop xa xb hl ?_ ?_]
    · cases shp xa xb <;> rfl
    · intro k h; unfold fn_slices_EqualFunc_api_Slot_api_Slot_api_Slot_api_Slot_kk_row_Shape_1_l1 fn_row_Shape_1
      have h2 : k < xb.length := by omega
      by_cases q : xa[k].2 = xb[k].2 <;> simp [getN h, getN h2, h, q, w64s h (by omega), beq_dec]
    · simp [fn_slices_EqualFunc_api_Slot_api_Slot_api_Slot_api_Slot_kk_row_Shape_1_l1]
  · rw [dlen' hl, cond_true, shp_len hl]; rfl
theorem rowRef_eq (xa : List St) (n : Int) (m : Bool) (hn : xa.length ≤ 1000000000) : fn_row_Ref xa n m = some ((n, false) :: xa.map fun x => (x.1, x.2 || m)) := by
  unfold fn_row_Ref
  have := loop_map xa (fun x : St => (x.1, x.2 || m)) [(n, false)] (by simp; omega) (body := fn_row_Ref_l1 xa m) (fun c i => rfl)
  rw [this]; rfl
theorem refRef_eq (xa : List St) (n : Int) (m : Bool) (hn : xa.length ≤ 1000000000) : fn_ref15_Ref xa n m = some ((n, false) :: xa.map fun x => (x.1, x.2 || m)) := by
  unfold fn_ref15_Ref
  have := loop_map xa (fun x : St => (x.1, x.2 || m)) [(n, false)] (by simp; omega) (body := fn_ref15_Ref_l1 xa m) (fun c i => by
    unfold fn_ref15_Ref_l1
    cases hg : getI xa i with
    | none => simp [hg]
    | some x => cases h2 : x.2 <;> simp [hg, h2])
  rw [this]; rfl
theorem find_cases {α : Type} (xa : List α) (t : α → Bool) : (∃ k, xa.findIdx? t = some k ∧ xa.any t = true) ∨ (xa.findIdx? t = none ∧ xa.any t = false) := by
  cases h : xa.findIdx? t with
  | none =>
    refine .inr ⟨rfl, ?_⟩
    rw [List.any_eq_false]; intro x hx; have := List.findIdx?_eq_none_iff.1 h x hx; simp [this]
  | some k =>
    obtain ⟨hk, h1, _⟩ := List.findIdx?_eq_some_iff_getElem.1 h
    exact .inl ⟨k, rfl, List.any_eq_true.2 ⟨_, List.getElem_mem hk, h1⟩⟩
def rin (n : Int) (xa : List St) : Bool := xa.any fun x => decide (x.1 < 0) || decide (n ≤ x.1)
def rck (n : Int) (xa : List St) : Int := if 16 < xa.length then 6 else if rin n xa then 7 else 0
def sbs (xb : List Int) (x : St) : St := (xb.getD x.1.toNat 0, x.2)
theorem rin_false {n : Int} {xa : List St} (h : rin n xa = false) {k : Nat} {x : St} (hx : xa[k]? = some x) : 0 ≤ x.1 ∧ x.1 < n := by
  unfold rin at h
  have := List.any_eq_false.1 h x (List.mem_of_getElem? hx)
  simp at this; omega
theorem getI_in {xb : List Int} {i : Int} (h : 0 ≤ i) (h2 : i < (xb.length : Nat)) : getI xb i = some (xb.getD i.toNat 0) := by
  unfold getI; rw [if_pos h]
  have : i.toNat < xb.length := by omega
  simp [this]
theorem rowWithin_eq (xa : List St) (n : Int) (hn : xa.length ≤ 1073741824) : fn_row_within xa n = some (!rin n xa) := by
  unfold fn_row_within fn_slices_ContainsFunc_api_Slot_api_Slot_k_row_within_1_p0_i fn_slices_IndexFunc_api_Slot_api_Slot_k_row_within_1_p0_i
  rw [loop_search (body := fn_slices_IndexFunc_api_Slot_api_Slot_k_row_within_1_p0_i_l1 xa n) xa (fun x => decide (x.1 < 0) || decide (n ≤ x.1)) (fun k => .inr (k : Int)) (.inl ()) ?_ ?_]
  · rcases find_cases xa (fun x => decide (x.1 < 0) || decide (n ≤ x.1)) with ⟨k, h1, h2⟩ | ⟨h1, h2⟩
    · rw [h1]; unfold rin; simp [h2]
    · rw [h1]; unfold rin; simp [h2]
  · intro k hk
    unfold fn_slices_IndexFunc_api_Slot_api_Slot_k_row_within_1_p0_i_l1 fn_row_within_1_ap0_i
    simp only [dlt hk, cond_true, getN hk, Option.bind_some, w64s hk (by omega : xa.length ≤ 9223372036854775807)]
    cases (decide (xa[k].1 < 0) || decide (n ≤ xa[k].1)) <;> rfl
  · simp [fn_slices_IndexFunc_api_Slot_api_Slot_k_row_within_1_p0_i_l1]
theorem rowCheck_eq (xa : List St) (n : Int) (hn : xa.length ≤ 1073741824) : fn_row_Check xa n = some (rck n xa) := by
  unfold fn_row_Check rck
  rw [rowWithin_eq xa n hn]
  by_cases h : 16 < xa.length
  · rw [decide_eq_true (by omega), if_pos h]; rfl
  · rw [decide_eq_false (by omega), if_neg h, cond_false]
    cases rin n xa <;> rfl
theorem refCheck_eq (xa : List St) (n : Int) : fn_ref15_Check xa n = some (rck n xa) := by
  unfold fn_ref15_Check rck
  by_cases h : 16 < xa.length
  · rw [decide_eq_true (by omega), if_pos h]; rfl
  · rw [decide_eq_false (by omega), if_neg h, cond_false]
    rw [loop_some (body := fn_ref15_Check_l1 xa n) xa (fun x => decide (x.1 < 0) || decide (n ≤ x.1)) (.inr 7) (.inl ()) ?_ ?_]
    · unfold rin; cases (xa.any fun x => decide (x.1 < 0) || decide (n ≤ x.1)) <;> rfl
    · intro k hk
      unfold fn_ref15_Check_l1
      by_cases q : xa[k].1 < 0 <;> by_cases q2 : n ≤ xa[k].1 <;> simp [hk, getN hk, w64s hk (by omega : xa.length ≤ 9223372036854775807), q, q2]
    · simp [fn_ref15_Check_l1]
theorem rowClone_eq (xa : List St) (hn : xa.length ≤ 1073741824) : fn_row_Clone xa = some xa := by
  unfold fn_row_Clone fn_slices_Clone_api_Slot_api_Slot
  rw [nilb_eq]
  · rw [app_eq (by simpa using hn)]; simp
  · rintro rfl; rw [app_eq (by simp)]; rfl
theorem rowSubst_eq (xa : List St) (xb : List Int) (hn : xa.length ≤ 1073741824) : fn_row_Subst xa xb = some (if rin xb.length xa then ([], 7) else (xa.map (sbs xb), 0)) := by
  unfold fn_row_Subst
  rw [rowWithin_eq xa _ hn, Option.bind_some, rowClone_eq xa hn]
  cases h : rin xb.length xa with
  | true => simp
  | false =>
    simp only [Bool.not_false, Bool.not_true, cond_false, Option.bind_some, Bool.false_eq_true, if_false]
    have hl := loop_nat (body := fn_row_Subst_l1 xb xa) (fun k : Nat => ((xa.take k).map (sbs xb) ++ xa.drop k, (k : Int))) xa.length (b := xa.map (sbs xb)) ?_ ?_
    · simp only [List.take_zero, List.map_nil, List.nil_append, List.drop_zero] at hl
      have hl' : loop (fn_row_Subst_l1 xb xa) (xa, 0) = some (xa.map (sbs xb)) := hl
      rw [hl']; rfl
    · intro k hk
      have hg : getI ((xa.take k).map (sbs xb) ++ xa.drop k) (k : Int) = some xa[k] := by
        rw [getN (by simp; omega)]
        rw [List.getElem_append_right (by simp; omega)]
        simp [List.getElem_drop, Nat.min_eq_left (Nat.le_of_lt hk)]
      have hr := rin_false h (k := k) (x := xa[k]) (by simp [hk])
      unfold fn_row_Subst_l1
      dsimp only
      rw [hg]
      simp only [Option.bind_some, getI_in hr.1 hr.2, Int.ofNat_lt.2 hk, decide_true, cond_true, w64s hk (by omega : xa.length ≤ 9223372036854775807), Int.toNat_natCast]
      congr 3
      rw [List.take_succ_eq_append_getElem hk, List.drop_eq_getElem_cons hk, List.set_append_right _ _ (by simp; omega)]
      rw [List.length_map, List.length_take, Nat.min_eq_left (Nat.le_of_lt hk), Nat.sub_self, List.set_cons_zero, List.map_append, List.append_assoc]
      rfl
    · simp [fn_row_Subst_l1]
theorem refSubst_eq (xa : List St) (xb : List Int) (hn : xa.length ≤ 1073741824) : fn_ref15_Subst xa xb = some (if rin xb.length xa then ([], 7) else (xa.map (sbs xb), 0)) := by
  unfold fn_ref15_Subst
  have hl := loop_find (body := fn_ref15_Subst_l1 xa xb)
    (fun k => ∃ x, xa[k]? = some x ∧ (x.1 < 0 ∨ (xb.length : Int) ≤ x.1)) (fun k : Nat => ((xa.take k).map (sbs xb), (k : Int))) xa.length (fun _ => .inr ([], 7)) (.inl (xa.map (sbs xb))) ?_ ?_ ?_
  · simp only [List.take_zero, List.map_nil] at hl
    rcases hl with ⟨k, h1, ⟨x, h2, h2'⟩, _, h3⟩ | ⟨h1, h3⟩
    · have : rin xb.length xa = true := List.any_eq_true.2 ⟨x, List.mem_of_getElem? h2, by simpa using h2'⟩
      rw [this]; erw [h3]; rfl
    · have : rin xb.length xa = false := by
        cases hh : rin xb.length xa with
        | false => rfl
        | true =>
          obtain ⟨x, h4, h5⟩ := List.any_eq_true.1 hh
          obtain ⟨k, h6, rfl⟩ := List.getElem_of_mem h4
          exact absurd ⟨xa[k], by simp [h6], by simpa using h5⟩ (h1 k h6)
      rw [this]; erw [h3]; rfl
  · intro k hk hp
    have hx : ¬ (xa[k].1 < 0 ∨ (xb.length : Int) ≤ xa[k].1) := fun h => hp ⟨_, by simp [hk], h⟩
    have h1 : ((decide (xa[k].1 < 0)) || (decide (((xb.length : Nat) : Int) ≤ xa[k].1))) = false := by simp; omega
    have ha := app_eq (a := (xa.take k).map (sbs xb)) (b := [sbs xb xa[k]]) (by simp; omega)
    have h5 : getI xb xa[k].1 = some (xb.getD xa[k].1.toNat 0) := getI_in (by omega) (by omega)
    unfold fn_ref15_Subst_l1
    dsimp only
    simp only [Option.bind_some, getN hk, h1, cond_false, h5, Int.ofNat_lt.2 hk, decide_true, cond_true, w64s hk (by omega : xa.length ≤ 9223372036854775807)]
    rw [show app ((xa.take k).map (sbs xb)) [(xb.getD xa[k].1.toNat 0, xa[k].2)] = _ from ha, List.take_succ_eq_append_getElem hk, List.map_append]
    rfl
  · rintro k hk ⟨x, h1, h2⟩
    have hx : xa[k] = x := by rw [List.getElem?_eq_getElem hk] at h1; exact Option.some.inj h1
    have h1 : ((decide (xa[k].1 < 0)) || (decide (((xb.length : Nat) : Int) ≤ xa[k].1))) = true := by rw [hx]; simpa using h2
    unfold fn_ref15_Subst_l1
    dsimp only
    simp only [Option.bind_some, getN hk, h1, cond_true, Int.ofNat_lt.2 hk, decide_true]
  · simp [fn_ref15_Subst_l1]
abbrev Nd := Int × Int × Int × Int × Bool
def rel1 (kind f : Int) (x y : St) : List Nd := (x.1, y.1, kind, f, false) :: if y.2 then [(y.1, x.1, kind, f, true)] else []
def rel (kind f : Int) : List St → List St → List Nd
  | x :: xs, y :: ys => rel1 kind f x y ++ rel kind (f + 1) xs ys
  | _, _ => []
theorem rel_snoc (kind : Int) (x y : St) : ∀ (xs ys : List St) (f : Int), xs.length = ys.length → rel kind f (xs ++ [x]) (ys ++ [y]) = rel kind f xs ys ++ rel1 kind (f + xs.length) x y
  | [], [], f, _ => by simp [rel]
  | [], _ :: _, f, h => by simp at h
  | _ :: _, [], f, h => by simp at h
  | a :: xs, b :: ys, f, h => by
    simp only [List.cons_append, rel, rel_snoc kind x y xs ys (f + 1) (by simpa using h), List.append_assoc, List.length_cons]
    rw [show f + 1 + (xs.length : Int) = f + ((xs.length + 1 : Nat) : Int) by omega]
theorem rel_len (kind : Int) (xs ys : List St) (f : Int) : (rel kind f xs ys).length ≤ 2 * xs.length := by
  induction xs generalizing ys f with
  | nil => simp [rel]
  | cons a xs ih => cases ys with
    | nil => simp [rel]
    | cons b ys =>
      have := ih ys (f + 1)
      cases hb : b.2 <;> simp [rel, rel1, hb] <;> omega
theorem related_eq (xa xb : List St) (kind f : Int) (hl : xa.length = xb.length) (hn : xa.length ≤ 30) (hf : -9223372036854775808 ≤ f) (hf2 : f ≤ 1099511627776) (c : List Nd) (hc : c.length ≤ 10) :
    fn_ref16_slots_rkkii xa xb kind f c = some (c ++ rel kind f xa xb) := by
  unfold fn_ref16_slots_rkkii
  have h := loop_carry (body := fn_ref16_slots_rkkii_l1 xa xb kind f) xa (fun k => c ++ rel kind f (xa.take k) (xb.take k)) (c ++ rel kind f xa xb) ?_ ?_
  · simp only [List.take_zero, rel, List.append_nil] at h
    rw [h]; rfl
  · intro k h
    have h2 : k < xb.length := by omega
    have hlen := rel_len kind (xa.take k) (xb.take k) f
    simp only [List.length_take] at hlen
    have hw : IntKind.wrap .i64 (f + (k : Int)) = f + k := w64 (by omega) (by omega)
    unfold fn_ref16_slots_rkkii_l1
    rw [take_snoc h, take_snoc h2, rel_snoc _ _ _ _ _ _ (by simp; omega)]
    have e : (xa.take k).length = k := by simp; omega
    rw [e]
    cases hb : xb[k].2 with
    | true =>
      simp [getN h, getN h2, h, hb, w64s h (by omega), hw, rel1]
      rw [app_eq (by simp; omega)]
      simp
      rw [app_eq (by simp; omega)]
      simp
    | false =>
      simp [getN h, getN h2, h, hb, w64s h (by omega), hw, rel1]
      rw [app_eq (by simp; omega)]
      simp
  · have e : xb.take xa.length = xb := by rw [hl, List.take_length]
    simp [fn_ref16_slots_rkkii_l1, e]
theorem related_slots (xa xb : List St) (kind f : Int) : fn_relate_related xa xb kind f = fn_ref16_slots_rkkii xa xb kind f [] := rfl
theorem relFlow_eq (xa xb : List St) (kind f : Int) (hn : xa.length ≤ 30) (hf : -9223372036854775808 ≤ f) (hf2 : f ≤ 1099511627776) : fn_relate_Flow xa xb kind f = some (if shp xa xb then (rel kind f xa xb, 0) else ([], 8)) := by
  unfold fn_relate_Flow
  rw [rowShape_eq _ _ (by omega), Option.bind_some]
  cases hs : shp xa xb with
  | false => rfl
  | true => rw [Bool.not_true, cond_false, related_slots, related_eq xa xb kind f (shp_len' hs) hn hf hf2 [] (by simp)]; simp
theorem refFlow_eq (xa xb : List St) (kind f : Int) (hn : xa.length ≤ 30) (hf : -9223372036854775808 ≤ f) (hf2 : f ≤ 1099511627776) : fn_ref16_Flow xa xb kind f = some (if shp xa xb then (rel kind f xa xb, 0) else ([], 8)) := by
  unfold fn_ref16_Flow
  rw [refShape_eq _ _ (by omega), Option.bind_some]
  cases hs : shp xa xb with
  | false => rfl
  | true => rw [Bool.not_true, cond_false, related_eq xa xb kind f (shp_len' hs) hn hf hf2 [] (by simp)]; simp
def lo (n : Int) (m : Bool) (xa xb : List St) : List Nd × Int :=
  if shp ((n, false) :: xa.map fun x => (x.1, x.2 || m)) xb then ((n, (xb.head?.getD (0, false)).1, 2, 0, false) :: rel 1 1 xa (xb.drop 1), 0) else ([], 8)
theorem lo_len {n : Int} {m : Bool} {xa xb : List St} (h : shp ((n, false) :: xa.map fun x => (x.1, x.2 || m)) xb = true) : xb.length = xa.length + 1 := by
  have := shp_len' h; simp at this; omega
theorem relLoan_eq (xa xb : List St) (n : Int) (m : Bool) (hn : xa.length ≤ 30) : fn_relate_Loan xa xb n m = some (lo n m xa xb) := by
  unfold fn_relate_Loan lo
  rw [rowRef_eq _ _ _ (by omega), Option.bind_some, shp_comm]
  by_cases hb : xb.length ≤ 1000
  · rw [rowShape_eq _ _ (by omega), Option.bind_some]
    cases hs : shp xb ((n, false) :: xa.map fun x => (x.1, x.2 || m)) with
    | false => rfl
    | true =>
      have hl := lo_len (by rw [shp_comm]; exact hs)
      cases xb with
      | nil => simp at hl
      | cons y ys =>
        have hl2 : xa.length = ys.length := by simpa using hl.symm
        rw [Bool.not_true, cond_false, show getI (y :: ys) 0 = some y from rfl, Option.bind_some, sub1 (by simp), Option.bind_some, related_slots, related_eq _ _ _ _ (by simpa using hl2) hn (by omega) (by omega) _ (by simp)]
        have := rel_len 1 xa ys 1
        simp only [List.nil_append, Option.bind_some, List.drop_succ_cons, List.drop_zero]
        rw [app_eq (by simp; omega)]
        simp
  · have hs : shp xb ((n, false) :: xa.map fun x => (x.1, x.2 || m)) = false := shp_len (by simp; omega)
    unfold fn_row_Shape fn_slices_EqualFunc_api_Slot_api_Slot_api_Slot_api_Slot_kk_row_Shape_1
    rw [dlen' (by simp; omega), cond_true, hs]; rfl
theorem refLoan_eq (xa xb : List St) (n : Int) (m : Bool) (hn : xa.length ≤ 30) : fn_ref16_Loan xa xb n m = some (lo n m xa xb) := by
  unfold fn_ref16_Loan lo
  rw [refRef_eq _ _ _ (by omega), Option.bind_some, refShape_eq _ _ (by simp; omega), Option.bind_some]
  cases hs : shp ((n, false) :: xa.map fun x => (x.1, x.2 || m)) xb with
  | false => rfl
  | true =>
    have hl := lo_len hs
    cases xb with
    | nil => simp at hl
    | cons y ys =>
      have hl2 : xa.length = ys.length := by simpa using hl.symm
      rw [Bool.not_true, cond_false, show getI (y :: ys) 0 = some y from rfl, Option.bind_some, sub1 (by simp), Option.bind_some, related_eq _ _ _ _ (by simpa using hl2) hn (by omega) (by omega) _ (by simp)]
      simp
def ag (n : Int) (m : Bool) (xa xb : List St) : List Nd × Int :=
  match xa, xb with
  | x :: xs, y :: ys => if x.2 || !shp (x :: xs) (y :: ys) || (m && xs.any (fun z => !z.2)) then ([], 8) else ((x.1, n, 3, 0, false) :: (n, y.1, 2, 0, false) :: rel 1 1 xs ys, 0)
  | _, _ => ([], 8)
theorem may_eq (xa xb : List St) (m : Bool) (hn : xa.length ≤ 30) : fn_relate_mayBorrowAgain xa xb m = some (match xa with | [] => false | x :: xs => !(x.2 || !shp xa xb || (m && xs.any (fun z => !z.2)))) := by
  unfold fn_relate_mayBorrowAgain
  cases xa with
  | nil => rfl
  | cons x xs =>
    have e0 : decide ((((x :: xs).length : Nat) : Int) = 0) = false := by simp; omega
    rw [e0, cond_false, show getI (x :: xs) 0 = some x from rfl, Option.bind_some, Option.bind_some]
    cases hx : x.2 with
    | true => simp [hx]
    | false =>
      rw [cond_false, rowShape_eq _ _ (by omega), Option.bind_some, Option.bind_some]
      cases hs : shp (x :: xs) xb with
      | false => simp
      | true =>
        rw [Bool.not_true, cond_false, sub1 (by simp), Option.bind_some]
        unfold fn_slices_ContainsFunc_api_Slot_api_Slot_k_relate_mayBorrowAgain_1 fn_slices_IndexFunc_api_Slot_api_Slot_k_relate_mayBorrowAgain_1
        rw [loop_search (List.drop 1 (x :: xs)) (fun z : St => !z.2) (fun k => .inr (k : Int)) (.inl ()) ?_ ?_]
        · simp only [List.drop_succ_cons, List.drop_zero]
          cases h : xs.findIdx? (fun z : St => !z.2) with
          | none =>
            have : xs.any (fun z : St => !z.2) = false := by
              rw [List.any_eq_false]; intro z hz; have := List.findIdx?_eq_none_iff.1 h z hz; simpa using this
            simp [this, hx]
          | some k =>
            obtain ⟨hk, h1, _⟩ := List.findIdx?_eq_some_iff_getElem.1 h
            have : xs.any (fun z : St => !z.2) = true := List.any_eq_true.2 ⟨_, List.getElem_mem hk, h1⟩
            simp [this, hx]
        · intro k h
          unfold fn_slices_IndexFunc_api_Slot_api_Slot_k_relate_mayBorrowAgain_1_l1 fn_relate_mayBorrowAgain_1
          simp only [List.drop_succ_cons, List.drop_zero] at h ⊢
          have hn' : xs.length ≤ 30 := by simp at hn; omega
          cases hz : xs[k].2 <;> simp [getN h, h, w64s h (by omega), hz]
        · simp [fn_slices_IndexFunc_api_Slot_api_Slot_k_relate_mayBorrowAgain_1_l1]
theorem relAgain_eq (xa xb : List St) (n : Int) (m : Bool) (hn : xa.length ≤ 30) : fn_relate_Again xa xb n m = some (ag n m xa xb) := by
  unfold fn_relate_Again
  rw [may_eq _ _ _ hn, Option.bind_some]
  cases xa with
  | nil => rfl
  | cons x xs =>
    simp only [ag, Bool.not_not]
    by_cases hc : (x.2 || !shp (x :: xs) xb || (m && xs.any (fun z => !z.2))) = true
    · rw [hc]; cases xb <;> simp_all
    · have hc' : (x.2 || !shp (x :: xs) xb || (m && xs.any (fun z => !z.2))) = false := by simpa using hc
      have hs : shp (x :: xs) xb = true := by
        cases q : shp (x :: xs) xb with
        | true => rfl
        | false => rw [q] at hc'; simp at hc'
      have hl := shp_len' hs
      cases xb with
      | nil => simp at hl
      | cons y ys =>
        simp only [hc', cond_false, if_false, show getI (x :: xs) 0 = some x from rfl, show getI (y :: ys) 0 = some y from rfl, Option.bind_some, sub1 (show 1 ≤ (x :: xs).length by simp), sub1 (show 1 ≤ (y :: ys).length by simp), List.drop_succ_cons, List.drop_zero, Bool.false_eq_true]
        have hl2 : xs.length = ys.length := by simpa using hl
        rw [related_slots, related_eq _ _ _ _ hl2 (by simp at hn; omega) (by omega) (by omega) _ (by simp), Option.bind_some]
        have := rel_len 1 xs ys 1
        simp at hn
        rw [app_eq (by simp; omega)]
        simp
theorem refAgain_eq (xa xb : List St) (n : Int) (m : Bool) (hn : xa.length ≤ 30) : fn_ref16_Again xa xb n m = some (ag n m xa xb) := by
  unfold fn_ref16_Again
  cases xa with
  | nil => rfl
  | cons x xs =>
    have e0 : decide ((((x :: xs).length : Nat) : Int) = 0) = false := by simp; omega
    rw [e0, cond_false, refShape_eq _ _ (by omega), Option.bind_some, Option.bind_some]
    cases hs : shp (x :: xs) xb with
    | false => cases xb <;> simp [ag, hs]
    | true =>
      have hl := shp_len' hs
      cases xb with
      | nil => simp at hl
      | cons y ys =>
        have hl2 : xs.length = ys.length := by simpa using hl
        simp only [Bool.not_true, cond_false, show getI (x :: xs) 0 = some x from rfl, show getI (y :: ys) 0 = some y from rfl, Option.bind_some]
        cases hx : x.2 with
        | true => simp [ag, hx]
        | false =>
          have hn' : xs.length ≤ 29 := by simp at hn; omega
          have hloop : loop (fn_ref16_Again_l1 (x :: xs) m) 1 = some (if (m && xs.any (fun z => !z.2)) then .inr ([], 8) else .inl ()) := by
            have := loop_any (body := fn_ref16_Again_l1 (x :: xs) m) (fun k => (m && (xs[k]?.any (fun z => !z.2))) = true) (fun k => ((k + 1 : Nat) : Int)) xs.length (.inr ([], 8)) (.inl ()) ?_ ?_ ?_
            · rw [show ((1 : Int)) = ((0 + 1 : Nat) : Int) from rfl, this]
              congr 1
              by_cases hq : (m && xs.any (fun z => !z.2)) = true
              · rw [if_pos hq, if_pos]
                simp only [Bool.and_eq_true] at hq
                obtain ⟨z, hz, hz2⟩ := List.any_eq_true.1 hq.2
                obtain ⟨k, hk, rfl⟩ := List.getElem_of_mem hz
                exact ⟨k, hk, by simp [hq.1, hk]; simpa using hz2⟩
              · rw [if_neg hq, if_neg]
                rintro ⟨k, hk, hk2⟩
                apply hq
                simp [hk] at hk2
                rw [hk2.1, Bool.true_and]
                exact List.any_eq_true.2 ⟨_, List.getElem_mem hk, by simpa using hk2.2⟩
            · intro k hk hp
              have h2 : k + 1 < (x :: xs).length := by simp; omega
              simp [hk] at hp
              unfold fn_ref16_Again_l1
              rw [dlt h2, cond_true, w64s h2 (by simp; omega)]
              cases m with
              | false => simp
              | true => simp [getN1 h2, hp rfl]
            · intro k hk hp
              have h2 : k + 1 < (x :: xs).length := by simp; omega
              simp [hk] at hp
              unfold fn_ref16_Again_l1
              rw [dlt h2, cond_true]
              simp [getN1 h2, hp.1, hp.2]
            · simp [fn_ref16_Again_l1]
          rw [hloop]
          by_cases hq : (m && xs.any (fun z => !z.2)) = true
          · simp [ag, hx, hs, hq]
          · have hq' : (m && xs.any (fun z => !z.2)) = false := by simpa using hq
            rw [hq']
            simp only [cond_false, Option.bind_some, if_false, sub1 (show 1 ≤ (x :: xs).length by simp), sub1 (show 1 ≤ (y :: ys).length by simp), List.drop_succ_cons, List.drop_zero, Bool.false_eq_true]
            rw [related_eq _ _ _ _ hl2 (by omega) (by omega) (by omega) _ (by simp)]
            simp [ag, hx, hs, hq']
theorem lo_bound (n : Int) (m : Bool) (xa xb : List St) (h : xa.length ≤ 30) : (lo n m xa xb).1.length ≤ 100 := by
  unfold lo
  have := rel_len 1 xa (xb.drop 1) 1
  simp at this
  split <;> simp; omega
theorem ag_bound (n : Int) (m : Bool) (xa xb : List St) (h : xa.length ≤ 30) : (ag n m xa xb).1.length ≤ 100 := by
  unfold ag
  split
  · rename_i x xs y ys
    have := rel_len 1 xs ys 1
    simp at h
    split <;> simp; omega
  · simp
abbrev Sg := Int × List (Int × Int) × List (List St) × List St
def bad1 (n : Int) (b : Int × Int) : Bool := (((decide (b.1 < 0)) || (decide (n ≤ b.1))) || (decide (b.2 < 0))) || (decide (n ≤ b.2))
def lc (n : Int) (A : List (List St)) : Unit ⊕ Int := match A.findIdx? (fun t => !decide (rck n t = 0)) with | some k => .inr (rck n (A.getD k [])) | none => .inl ()
def chk (s : Sg) : Int :=
  if s.1 < 0 then 7 else if 16 < s.1 ∨ 16 < s.2.1.length ∨ 16 < s.2.2.1.length then 6 else if s.2.1.any (bad1 s.1) then 7
  else match lc s.1 s.2.2.1 with | .inr e => e | .inl () => rck s.1 s.2.2.2
theorem three16 (a : Int) (b c : Nat) : (((decide (16 < a)) || (decide (16 < ((b : Nat) : Int)))) || (decide (16 < ((c : Nat) : Int)))) = decide (16 < a ∨ 16 < b ∨ 16 < c) := by
  by_cases h1 : 16 < a <;> by_cases h2 : 16 < b <;> by_cases h3 : 16 < c <;> simp [h1, h2, h3] <;> omega
theorem argsl {n : Int} {A : List (List St)} {body : Int → Option (Int ⊕ (Unit ⊕ Int))} (hn : A.length ≤ 1000) (hb : ∀ (k : Nat) (h : k < A.length), body (k : Int) = cond (!decide (rck n A[k] = 0)) (some (.inr (.inr (rck n A[k])))) (some (.inl (IntKind.wrap .i64 ((k : Int) + 1))))) (he : body (A.length : Int) = some (.inr (.inl ()))) : loop body 0 = some (lc n A) := by
  rw [loop_search A (fun t => !decide (rck n t = 0)) (fun k => .inr (rck n (A.getD k []))) (.inl ()) ?_ he]
  · rfl
  · intro k hk
    rw [hb k hk, w64s hk (by omega : A.length ≤ 9223372036854775807)]
    have : A.getD k [] = A[k] := by simp [List.getD, hk]
    rw [this]
    cases (!decide (rck n A[k] = 0)) <;> rfl
theorem sigCheck_eq (s : Sg) (hr : s.2.2.2.length ≤ 1000) (ha : ∀ t ∈ s.2.2.1, t.length ≤ 1000) : fn_sig_Check s = some (chk s) := by
  obtain ⟨n, B, A, R⟩ := s
  unfold fn_sig_Check chk
  dsimp only at *
  by_cases h0 : n < 0
  · rw [decide_eq_true h0, if_pos h0]; rfl
  · rw [decide_eq_false h0, if_neg h0, cond_false, three16]
    by_cases h1 : 16 < n ∨ 16 < B.length ∨ 16 < A.length
    · rw [decide_eq_true h1, if_pos h1]; rfl
    · rw [decide_eq_false h1, if_neg h1, cond_false]
      rw [loop_some (body := fn_sig_Check_l1 (n, B, A, R)) B (bad1 n) (.inr 7) (.inl ()) ?_ ?_]
      · cases hb : B.any (bad1 n) with
        | true => rfl
        | false =>
          simp only [Bool.false_eq_true, if_false, Option.bind_some]
          rw [argsl (body := fn_sig_Check_l2 (n, B, A, R)) (n := n) (A := A) (by omega) ?_ ?_]
          · rw [rowCheck_eq R n (by omega)]
            simp only [Option.bind_some]
            cases lc n A <;> rfl
          · intro k hk
            unfold fn_sig_Check_l2
            have := ha A[k] (List.getElem_mem hk)
            simp only [dlt hk, cond_true, getN hk, Option.bind_some]
            rw [rowCheck_eq _ _ (by omega), Option.bind_some]
          · simp [fn_sig_Check_l2]
      · intro k hk
        unfold fn_sig_Check_l1 fn_sig_Check_1_ip0_ikkk
        simp only [dlt hk, cond_true, getN hk, Option.bind_some, w64s hk (by omega : B.length ≤ 9223372036854775807)]
        generalize B[k] = b
        obtain ⟨b1, b2⟩ := b
        have e (x : Int) : (!((decide (0 ≤ x)) && (decide (x < n)))) = (decide (x < 0) || decide (n ≤ x)) := by
          by_cases p : x < 0 <;> by_cases q : n ≤ x <;> simp [p, q] <;> omega
        simp only [e, bad1]
        by_cases p1 : b1 < 0 <;> by_cases p2 : n ≤ b1 <;> by_cases p3 : b2 < 0 <;> by_cases p4 : n ≤ b2 <;> simp [p1, p2, p3, p4]
      · simp [fn_sig_Check_l1]
theorem refSCheck_eq (s : Sg) : fn_ref17_Check s = some (chk s) := by
  obtain ⟨n, B, A, R⟩ := s
  unfold fn_ref17_Check chk
  dsimp only at *
  by_cases h0 : n < 0
  · rw [decide_eq_true h0, if_pos h0]; rfl
  · rw [decide_eq_false h0, if_neg h0, cond_false, three16]
    by_cases h1 : 16 < n ∨ 16 < B.length ∨ 16 < A.length
    · rw [decide_eq_true h1, if_pos h1]; rfl
    · rw [decide_eq_false h1, if_neg h1, cond_false]
      rw [loop_some (body := fn_ref17_Check_l1 (n, B, A, R)) B (bad1 n) (.inr 7) (.inl ()) ?_ ?_]
      · cases hb : B.any (bad1 n) with
        | true => rfl
        | false =>
          simp only [Bool.false_eq_true, if_false, Option.bind_some]
          rw [argsl (body := fn_ref17_Check_l2 (n, B, A, R)) (n := n) (A := A) (by omega) ?_ ?_]
          · rw [refCheck_eq R n]
            simp only [Option.bind_some]
            cases lc n A <;> rfl
          · intro k hk
            unfold fn_ref17_Check_l2
            simp only [dlt hk, cond_true, getN hk, Option.bind_some]
            rw [refCheck_eq _ _, Option.bind_some]
          · simp [fn_ref17_Check_l2]
      · intro k hk
        unfold fn_ref17_Check_l1
        simp only [dlt hk, cond_true, getN hk, Option.bind_some, w64s hk (by omega : B.length ≤ 9223372036854775807)]
        generalize B[k] = b
        show cond (bad1 n b) _ _ = _
        cases bad1 n b <;> rfl
      · simp [fn_ref17_Check_l1]
theorem rck_zero {n : Int} {t : List St} (h : rck n t = 0) : t.length ≤ 16 ∧ rin n t = false := by
  unfold rck at h
  by_cases q : 16 < t.length
  · rw [if_pos q] at h; cases h
  · rw [if_neg q] at h
    cases hr : rin n t with
    | true => rw [hr] at h; cases h
    | false => exact ⟨by omega, rfl⟩
theorem chk_zero {s : Sg} (h : chk s = 0) : 0 ≤ s.1 ∧ s.1 ≤ 16 ∧ s.2.1.length ≤ 16 ∧ s.2.2.1.length ≤ 16 ∧ (∀ b ∈ s.2.1, bad1 s.1 b = false) ∧ (∀ t ∈ s.2.2.1, t.length ≤ 16 ∧ rin s.1 t = false) ∧ s.2.2.2.length ≤ 16 ∧ rin s.1 s.2.2.2 = false := by
  unfold chk at h
  by_cases h0 : s.1 < 0
  · rw [if_pos h0] at h; cases h
  · rw [if_neg h0] at h
    by_cases h1 : 16 < s.1 ∨ 16 < s.2.1.length ∨ 16 < s.2.2.1.length
    · rw [if_pos h1] at h; cases h
    · rw [if_neg h1] at h
      cases hb : s.2.1.any (bad1 s.1) with
      | true => rw [hb] at h; cases h
      | false =>
        rw [hb] at h
        simp only [Bool.false_eq_true, if_false] at h
        unfold lc at h
        cases hf : s.2.2.1.findIdx? (fun t => !decide (rck s.1 t = 0)) with
        | some k =>
          rw [hf] at h
          obtain ⟨hk, h2, _⟩ := List.findIdx?_eq_some_iff_getElem.1 hf
          have : s.2.2.1.getD k [] = s.2.2.1[k] := by simp [List.getD, hk]
          simp only [this] at h
          simp [h] at h2
        | none =>
          rw [hf] at h
          have hz := List.findIdx?_eq_none_iff.1 hf
          refine ⟨by omega, by omega, by omega, by omega, fun b hb2 => ?_, fun t ht => rck_zero (by simpa using hz t ht), (rck_zero h).1, (rck_zero h).2⟩
          have := List.any_eq_false.1 hb b hb2
          simpa using this
theorem shp_sbs (names : List Int) (xs ys : List St) : shp xs (ys.map (sbs names)) = shp xs ys := by
  unfold shp; rw [List.map_map]; rfl
theorem shp_sbs2 (names : List Int) (xs ys : List St) : shp (xs.map (sbs names)) ys = shp xs ys := by
  rw [shp_comm, shp_sbs, shp_comm]
def mis (A C : List (List St)) (k : Nat) : Bool := !shp (C.getD k []) (A.getD k [])
def fl (names : List Int) (A C : List (List St)) (j : Nat) : List Nd := rel 5 (16 * (j : Int)) (C.getD j []) ((A.getD j []).map (sbs names))
def fls (names : List Int) (A C : List (List St)) : Nat → List Nd
  | 0 => []
  | k + 1 => fls names A C k ++ fl names A C k
theorem fls_len (names : List Int) (A C : List (List St)) (hc : ∀ t ∈ C, t.length ≤ 20) : ∀ k, (fls names A C k).length ≤ 40 * k
  | 0 => by simp [fls]
  | k + 1 => by
    have ih := fls_len names A C hc k
    have h1 := rel_len 5 (C.getD k []) ((A.getD k []).map (sbs names)) (16 * (k : Int))
    have h2 : (C.getD k []).length ≤ 20 := by
      by_cases h : k < C.length
      · have : C.getD k [] = C[k] := by simp [List.getD, h]
        rw [this]; exact hc _ (List.getElem_mem h)
      · have : C.getD k [] = [] := by simp [List.getD, List.getElem?_eq_none (Nat.not_lt.1 h)]
        rw [this]; simp
    simp only [fls, List.length_append, fl]
    omega
def bds (names : List Int) (B : List (Int × Int)) : Nat → List Nd
  | 0 => []
  | k + 1 => bds names B k ++ [(names.getD (B.getD k (0, 0)).1.toNat 0, names.getD (B.getD k (0, 0)).2.toNat 0, 4, (k : Int), false)]
theorem bds_len (names : List Int) (B : List (Int × Int)) : ∀ k, (bds names B k).length = k
  | 0 => rfl
  | k + 1 => by simp [bds, bds_len names B k]
def csp (s : Sg) (names : List Int) (C : List (List St)) (D : List St) : List Nd × Int :=
  if chk s ≠ 0 then ([], chk s)
  else if ¬ (names.length : Int) = s.1 ∨ ¬ C.length = s.2.2.1.length then ([], 2)
  else if (List.range s.2.2.1.length).any (mis s.2.2.1 C) then ([], 8)
  else if shp D s.2.2.2 then (bds names s.2.1 s.2.1.length ++ fls names s.2.2.1 C s.2.2.1.length ++ rel 6 0 (s.2.2.2.map (sbs names)) D, 0) else ([], 8)
theorem bounds_loop {names : List Int} {n : Int} {B : List (Int × Int)} {body : (List Nd × Int) → Option ((List Nd × Int) ⊕ List Nd)} (hB : B.length ≤ 16) (hn : (names.length : Int) = n) (hb : ∀ b ∈ B, bad1 n b = false)
    (hgo : ∀ (l : List Nd) (k : Nat) (h : k < B.length), body (l, (k : Int)) = ((getI names B[k].1).bind fun x => (getI names B[k].2).bind fun y => (app l [(x, y, 4, (k : Int), false)]).bind fun z => some (.inl (z, IntKind.wrap .i64 ((k : Int) + 1))))) (he : ∀ l, body (l, (B.length : Int)) = some (.inr l)) :
    loop body ([], 0) = some (bds names B B.length) := by
  refine loop_nat (body := body) (fun k => (bds names B k, (k : Int))) B.length ?_ (he _)
  intro k hk
  have h1 := hb B[k] (List.getElem_mem hk)
  have e : B.getD k (0, 0) = B[k] := by simp [List.getD, hk]
  unfold bad1 at h1
  simp at h1
  rw [hgo _ k hk, getI_in (by omega) (by omega), Option.bind_some, getI_in (by omega) (by omega), Option.bind_some, app_eq (by simp [bds_len]; omega), Option.bind_some, w64s hk (by omega)]
  simp only [bds, e]
theorem rin_len {names : List Int} {n : Int} {t : List St} (hn : (names.length : Int) = n) (h : rin n t = false) : rin names.length t = false := by rw [hn]; exact h
theorem sigCall_eq (s : Sg) (names : List Int) (C : List (List St)) (D : List St) (hr : s.2.2.2.length ≤ 20) (ha : ∀ t ∈ s.2.2.1, t.length ≤ 20) (hC : ∀ t ∈ C, t.length ≤ 20) (hD : D.length ≤ 20) :
    fn_sig_Call s names C D = some (csp s names C D) := by
  have hck := sigCheck_eq s (by omega) (fun t ht => by have := ha t ht; omega)
  unfold fn_sig_Call fn_sig_callable csp
  rw [show fn_sig_Check (s.1, s.2.1, s.2.2.1, s.2.2.2) = some (chk s) from hck]
  obtain ⟨n, B, A, R⟩ := s
  dsimp only at *
  by_cases h0 : chk (n, B, A, R) = 0
  · obtain ⟨n0, n1, hB, hA, hb, hat, hR, hrin⟩ := chk_zero h0
    dsimp only at n0 n1 hB hA hb hat hR hrin
    simp only [h0, Option.bind_some, decide_true, Bool.not_true, cond_false, ne_eq, not_true_eq_false, if_false]
    by_cases h1 : ¬ (names.length : Int) = n ∨ ¬ C.length = A.length
    · have : ((!decide ((((names.length : Nat) : Int)) = n)) || (!decide ((((C.length : Nat) : Int)) = (((A.length : Nat) : Int))))) = true := by simp; omega
      rw [this, if_pos h1]; rfl
    · have : ((!decide ((((names.length : Nat) : Int)) = n)) || (!decide ((((C.length : Nat) : Int)) = (((A.length : Nat) : Int))))) = false := by simp; omega
      rw [this, if_neg h1, cond_false]
      have hn : (names.length : Int) = n := by omega
      have hl : C.length = A.length := by omega
      rw [loop_some (body := fn_sig_callable_l1 (n, B, A, R) C) (List.range A.length) (mis A C) (.inr 8) (.inl ()) ?_ ?_]
      · cases hm : (List.range A.length).any (mis A C) with
        | true => rfl
        | false =>
          simp only [Bool.false_eq_true, if_false, Option.bind_some]
          rw [rowShape_eq D R (by omega)]
          cases hs : shp D R with
          | false => rfl
          | true =>
            simp only [Option.bind_some, Bool.not_true, cond_false, decide_true, if_true]
            rw [bounds_loop (body := fn_sig_Call_l1 (n, B, A, R) names) hB hn hb ?_ ?_]
            · simp only [Option.bind_some]
              have hfl := loop_nat (body := fn_sig_Call_l2 (n, B, A, R) names C) (fun k => (bds names B B.length ++ fls names A C k, (k : Int))) A.length (b := bds names B B.length ++ fls names A C A.length) ?_ ?_
              · have hfl' : loop (fn_sig_Call_l2 (n, B, A, R) names C) (bds names B B.length, 0) = some (bds names B B.length ++ fls names A C A.length) := by
                  have e0 : (bds names B B.length, (0 : Int)) = (bds names B B.length ++ fls names A C 0, ((0 : Nat) : Int)) := by simp [fls]
                  rw [e0]; exact hfl
                have q1 := fls_len names A C hC A.length
                have q2 := bds_len names B B.length
                have q3 := rel_len 6 (R.map (sbs names)) D 0
                rw [List.length_map] at q3
                rw [hfl', Option.bind_some, rowSubst_eq R names (by omega), rin_len hn hrin]
                simp only [Bool.false_eq_true, if_false, Option.bind_some]
                rw [relFlow_eq _ _ _ _ (by simp; omega) (by omega) (by omega), shp_sbs2, shp_comm, hs]
                simp only [if_true, Option.bind_some]
                rw [app_eq (by simp only [List.length_append]; omega)]
                rfl
              · intro k hk
                have hkC : k < C.length := by omega
                have ht := hat A[k] (List.getElem_mem hk)
                have hc := hC C[k] (List.getElem_mem hkC)
                have e1 : A.getD k [] = A[k] := by simp [List.getD, hk]
                have e2 : C.getD k [] = C[k] := by simp [List.getD, hkC]
                have hsh : shp C[k] A[k] = true := by
                  have := List.any_eq_false.1 hm k (List.mem_range.2 hk)
                  unfold mis at this
                  rw [e1, e2] at this
                  simpa using this
                have q1 := fls_len names A C hC k
                have q2 := bds_len names B B.length
                have q3 := rel_len 5 C[k] (A[k].map (sbs names)) (16 * (k : Int))
                unfold fn_sig_Call_l2
                simp only [dlt hk, cond_true, getN hk, Option.bind_some]
                rw [rowSubst_eq _ names (by omega), rin_len hn ht.2]
                simp only [Bool.false_eq_true, if_false, Option.bind_some, getN hkC]
                rw [w64 (x := 16 * (k : Int)) (by omega) (by omega), relFlow_eq _ _ _ _ (by omega) (by omega) (by omega), shp_sbs, hsh]
                simp only [if_true, Option.bind_some]
                rw [app_eq (by simp only [List.length_append]; omega), Option.bind_some, w64s hk (by omega)]
                simp only [fls, fl, e1, e2, List.append_assoc]
              · simp [fn_sig_Call_l2]
            · intro l k hk
              unfold fn_sig_Call_l1
              simp only [dlt hk, cond_true, getN hk, Option.bind_some]
            · intro l; simp [fn_sig_Call_l1]
      · intro k hk
        simp only [List.length_range] at hk
        have hkC : k < C.length := by omega
        have e1 : A.getD k [] = A[k] := by simp [List.getD, hk]
        have e2 : C.getD k [] = C[k] := by simp [List.getD, hkC]
        have hc := hC C[k] (List.getElem_mem hkC)
        unfold fn_sig_callable_l1
        simp only [dlt hk, cond_true, getN hk, getN hkC, Option.bind_some, List.getElem_range, mis, e1, e2, w64s hk (by omega : A.length ≤ 9223372036854775807)]
        rw [rowShape_eq _ _ (by omega), Option.bind_some]
        cases shp C[k] A[k] <;> rfl
      · simp [fn_sig_callable_l1]
  · simp [h0]
theorem refCall_eq (s : Sg) (names : List Int) (C : List (List St)) (D : List St) (hr : s.2.2.2.length ≤ 20) (ha : ∀ t ∈ s.2.2.1, t.length ≤ 20) (hC : ∀ t ∈ C, t.length ≤ 20) (hD : D.length ≤ 20) :
    fn_ref17_Call s names C D = some (csp s names C D) := by
  unfold fn_ref17_Call csp
  rw [show fn_ref17_Check (s.1, s.2.1, s.2.2.1, s.2.2.2) = some (chk s) from refSCheck_eq s]
  obtain ⟨n, B, A, R⟩ := s
  dsimp only at *
  by_cases h0 : chk (n, B, A, R) = 0
  · obtain ⟨n0, n1, hB, hA, hb, hat, hR, hrin⟩ := chk_zero h0
    dsimp only at n0 n1 hB hA hb hat hR hrin
    simp only [h0, Option.bind_some, decide_true, Bool.not_true, cond_false, ne_eq, not_true_eq_false, if_false]
    by_cases h1 : ¬ (names.length : Int) = n ∨ ¬ C.length = A.length
    · have : ((!decide ((((names.length : Nat) : Int)) = n)) || (!decide ((((C.length : Nat) : Int)) = (((A.length : Nat) : Int))))) = true := by simp; omega
      rw [this, if_pos h1]; rfl
    · have : ((!decide ((((names.length : Nat) : Int)) = n)) || (!decide ((((C.length : Nat) : Int)) = (((A.length : Nat) : Int))))) = false := by simp; omega
      rw [this, if_neg h1, cond_false]
      have hn : (names.length : Int) = n := by omega
      have hl : C.length = A.length := by omega
      rw [bounds_loop (body := fn_ref17_Call_l1 (n, B, A, R) names) hB hn hb ?_ ?_]
      · simp only [Option.bind_some]
        have q2 := bds_len names B B.length
        have hfl := loop_find (body := fn_ref17_Call_l2 (n, B, A, R) names C) (fun k => mis A C k = true) (fun k => (bds names B B.length ++ fls names A C k, (k : Int))) A.length (fun _ => .inr ([], 8)) (.inl (bds names B B.length ++ fls names A C A.length)) ?_ ?_ ?_
        · have e0 : (bds names B B.length, (0 : Int)) = (bds names B B.length ++ fls names A C 0, ((0 : Nat) : Int)) := by simp [fls]
          rw [e0]
          rcases hfl with ⟨k, k1, k2, _, k3⟩ | ⟨k1, k3⟩
          · have : (List.range A.length).any (mis A C) = true := List.any_eq_true.2 ⟨k, List.mem_range.2 k1, k2⟩
            rw [k3, this]; rfl
          · have : (List.range A.length).any (mis A C) = false := by
              rw [List.any_eq_false]; intro k hk; exact k1 k (List.mem_range.1 hk)
            rw [k3, this]
            have q1 := fls_len names A C hC A.length
            have q3 := rel_len 6 (R.map (sbs names)) D 0
            rw [List.length_map] at q3
            simp only [Option.bind_some, Bool.false_eq_true, if_false]
            rw [refSubst_eq R names (by omega), rin_len hn hrin]
            simp only [Bool.false_eq_true, if_false, Option.bind_some]
            rw [refFlow_eq _ _ _ _ (by simp; omega) (by omega) (by omega), shp_sbs2, shp_comm]
            cases hs : shp D R with
            | false => rfl
            | true =>
              simp only [if_true, Option.bind_some, decide_true, Bool.not_true, cond_false]
              rw [app_eq (by simp only [List.length_append]; omega)]
              rfl
        · intro k hk hp
          have hkC : k < C.length := by omega
          have ht := hat A[k] (List.getElem_mem hk)
          have hc := hC C[k] (List.getElem_mem hkC)
          have e1 : A.getD k [] = A[k] := by simp [List.getD, hk]
          have e2 : C.getD k [] = C[k] := by simp [List.getD, hkC]
          have hsh : shp C[k] A[k] = true := by
            unfold mis at hp
            rw [e1, e2] at hp
            simpa using hp
          have q1 := fls_len names A C hC k
          have q3 := rel_len 5 C[k] (A[k].map (sbs names)) (16 * (k : Int))
          unfold fn_ref17_Call_l2
          simp only [dlt hk, cond_true, getN hk, Option.bind_some]
          rw [refSubst_eq _ names (by omega), rin_len hn ht.2]
          simp only [Bool.false_eq_true, if_false, Option.bind_some, getN hkC]
          rw [w64 (x := 16 * (k : Int)) (by omega) (by omega), refFlow_eq _ _ _ _ (by omega) (by omega) (by omega), shp_sbs, hsh]
          simp only [if_true, Option.bind_some, decide_true, Bool.not_true, cond_false]
          rw [app_eq (by simp only [List.length_append]; omega), Option.bind_some, w64s hk (by omega)]
          simp only [fls, fl, e1, e2, List.append_assoc]
        · intro k hk hp
          have hkC : k < C.length := by omega
          have ht := hat A[k] (List.getElem_mem hk)
          have hc := hC C[k] (List.getElem_mem hkC)
          have e1 : A.getD k [] = A[k] := by simp [List.getD, hk]
          have e2 : C.getD k [] = C[k] := by simp [List.getD, hkC]
          have hsh : shp C[k] A[k] = false := by
            unfold mis at hp
            rw [e1, e2] at hp
            simpa using hp
          unfold fn_ref17_Call_l2
          simp only [dlt hk, cond_true, getN hk, Option.bind_some]
          rw [refSubst_eq _ names (by omega), rin_len hn ht.2]
          simp only [Bool.false_eq_true, if_false, Option.bind_some, getN hkC]
          rw [w64 (x := 16 * (k : Int)) (by omega) (by omega), refFlow_eq _ _ _ _ (by omega) (by omega) (by omega), shp_sbs, hsh]
          rfl
        · simp [fn_ref17_Call_l2]
      · intro l k hk
        unfold fn_ref17_Call_l1
        simp only [dlt hk, cond_true, getN hk, Option.bind_some]
      · intro l; simp [fn_ref17_Call_l1]
  · simp [h0]
theorem csp_len (s : Sg) (names : List Int) (C : List (List St)) (D : List St) (hs : s.2.1.length ≤ 20 ∧ s.2.2.1.length ≤ 20 ∧ s.2.2.2.length ≤ 20) (hC : ∀ t ∈ C, t.length ≤ 20) : (csp s names C D).1.length ≤ 1000000 := by
  have q1 := fls_len names s.2.2.1 C hC s.2.2.1.length
  have q2 := bds_len names s.2.1 s.2.1.length
  have q3 := rel_len 6 (s.2.2.2.map (sbs names)) D 0
  rw [List.length_map] at q3
  unfold csp
  split
  · simp
  · split
    · simp
    · split
      · simp
      · split
        · simp only [List.length_append]; omega
        · simp
end Go.Proofs.YtfldcmoebihobaaGreat
