/- A part of the proof: what lies ahead of the law. Nothing is claimed here. -/
import Derived.Test.YtaajcbeoafhmaaaGreatDoorZ4
import Derived.Test.YtaajcbeoafhmaaaGreatDoorRows
namespace Go.Proofs.YtaajcbeoafhmaaaGreatDoor
set_option linter.unusedVariables false
set_option maxRecDepth 100000
set_option maxHeartbeats 4000000
section
open Go.RowKit _root_.Go.Proofs.Tryz
abbrev bkO (i:Nat) (o:OT):Bk:=⟨some i,0,[],false,false,some o,false⟩
abbrev bkC (i:Nat) (e:TypeId) (ks:List Kd):Bk:=⟨some i,e,ks,false,false,none,false⟩
abbrev bkN (e:TypeId) (ks:List Kd):Bk:=⟨none,e,ks,false,false,none,false⟩
abbrev bkU (i:Nat):Bk:=⟨some i,0,[],false,true,none,false⟩
abbrev bkM:Bk:=⟨none,0,[],false,true,none,false⟩
abbrev kdI (i:Nat):Nat×Kd:=(i,.dat (.int .i64))
abbrev kdB (i:Nat):Nat×Kd:=(i,.dat .bool)
abbrev Yq1:Tp:=(.cons (.int .i64) (.cons (.int .i64) (.cons (.sl (.cons (.int .i64) (.one (.int .i64)))) (.cons (.sl (.one (.sl (.cons (.int .i64) (.one .bool))))) (.cons (.one (.sl (.cons (.int .i64) (.one .bool)))) (.cons (.sl (.cons (.int .i64) (.cons (.sl (.cons (.int .i64) (.one (.int .i64)))) (.cons (.sl (.one (.sl (.cons (.int .i64) (.one .bool))))) (.one (.one (.sl (.cons (.int .i64) (.one .bool))))))))) (.one (.sl (.cons (.sl (.cons (.int .i64) (.cons (.int .i64) (.cons (.int .i64) (.cons (.int .i64) (.one .bool)))))) (.one (.cons (.int .i64) (.cons (.int .i64) (.cons (.int .i64) (.cons (.sl (.int .i64)) (.cons (.sl (.int .i64)) (.one (.sl (.int .i64))))))))))))))))))
abbrev Tq1:Type:=(Int×Int×(List (Int×Int))×(List (List (Int×Bool)))×(List (Int×Bool))×(List (Int×(List (Int×Int))×(List (List (Int×Bool)))×(List (Int×Bool))))×(List ((List (Int×Int×Int×Int×Bool))×(Int×Int×Int×(List Int)×(List Int)×(List Int)))))
abbrev Yq2:Tp:=(.int .i64)
abbrev Tq2:Type:=(Int×(Option (List Int))×(Option (Int×(List Int))))
abbrev Yq3:Tp:=(.cons Yq2 (.one .bool))
abbrev Tq3:Type:=(List (Int×Bool))
abbrev Tq4:Type:=((List Int)×(List Int))
abbrev Tq5:Type:=(Int×Int×Int×Int×Bool)
abbrev Tq6:Type:=(List (Int×Int))
abbrev Yq4:Tp:=(.sl (.cons Yq2 (.one Yq2)))
abbrev Yq5:Tp:=(.cons (.sl Yq2) (.one (.sl Yq2)))
abbrev Tq7:Type:=(Option (Int×(List Int)))
abbrev Yq6:Tp:=(.cons Yq2 (.cons Yq2 (.cons Yq2 Yq3)))
abbrev Tq8:Type:=(Int×Int×Int×(List Int)×(List Int)×(List Int))
abbrev Yq7:Tp:=(.one (.sl Yq3))
abbrev Yq8:Tp:=(.ptr (.cons Yq2 (.one (.sl (.int .u64)))))
abbrev Tq9:Type:=(Int×Int×Int×Int)
abbrev Tq10:Type:=((List Int)×(List Int)×Int×Int×(Option Tq6))
abbrev Tq11:Type:=(List (Option Tq2))
abbrev Tq12:Type:=(Int×(List Int)×(List Int)×Int×Int×(Option Tq6))
abbrev Tq13:Type:=(Int×Tq6×(List Tq3)×Tq3)
abbrev Tq14:Type:=(Int×(List Int)×Int×Int×(Option Tq6))
abbrev Tq15:Type:=((List Int)×Int×Int×(Option Tq6))
abbrev Tq16:Type:=(Option (List Int))
abbrev Tq17:Type:=((List Int)×Int)
abbrev Yq9:Tp:=(.ptr (.cons Yq2 (.cons Yq4 (.cons Yq5 (.one Yq5)))))
abbrev Yq10:Tp:=(.int .u64)
abbrev Tq18:Type:=(List (Int×Int×Bool))
abbrev Tq19:Type:=(Option (Int×Tq6×Tq4×Tq4))
abbrev Tq20:Type:=((List Tq5)×Int)
abbrev Yq11:Tp:=(.cons Yq2 (.cons Yq4 (.cons (.sl Yq7) (.one Yq7))))
abbrev Yq12:Tp:=(.cons Yq2 (.cons Yq2 (.cons Yq2 (.cons (.sl Yq2) Yq5))))
abbrev Tq21:Type:=(Int×(List Int))
abbrev Yq13:Tp:=(.ptr (.cons (.sl Yq2) (.one Yq2)))
abbrev Tq22:Type:=(List (List Int))
abbrev Yq14:Tp:=(.ptr (.cons Yq2 (.cons (.ptr (.one (.sl Yq2))) (.one Yq8))))
abbrev Tq23:Type:=(Int×Int)
abbrev Tq24:Type:=((List Tq4)×(List Tq4))
abbrev Tq25:Type:=(Int×Int×(List Tq3)×Tq3×(List Tq13))
abbrev Tq26:Type:=(Int×Bool)
abbrev Yq15:Tp:=(.cons Yq2 (.cons Yq2 (.cons (.sl Yq7) (.cons Yq7 (.one (.sl Yq11))))))
abbrev Yq16:Tp:=(.cons Yq2 (.one Yq2))
instance nob:BldA:=⟨1000000000,fun b _=>Cl b 1000000000 [.pointer none,.slice none 0 0],fun h=>h,tzGk,tzGk.mono⟩
noncomputable def ok_TZ:OkSpec Tryz.prog:=⟨sp_TZ,TZ_is (fun _ h=>h),call156⟩

noncomputable def fn_ref15_Few (xa:Tq3) (xb:Int):Option Bool :=
 some (decide ((xa.length:Int)≤xb))
noncomputable def hQ0:Hn Tryz.prog := .nil
noncomputable def sQ0:Spec:=⟨22,⟨[(0,.dat Yq7),kdI 1],[]⟩,[⟨[kdB 0],[]⟩],fun x=>fn_ref15_Few x.1 x.2⟩
noncomputable def oQ0:OkSpec Tryz.prog:=⟨sQ0,fn_is func22 hQ0 (by kernel_rfl) (by kernel_rfl),call22⟩
noncomputable def fn_ref17_Few_l1 (xa:Tq13):Int→Option (Int⊕(Unit⊕Bool)):=fun i1=>cond (decide (i1 < (xa.2.2.1.length:Int))) ((getI xa.2.2.1 i1).bind fun x2=>(fn_ref15_Few x2 20).bind fun t3=>cond (!t3) (some (.inr ((.inr (false))))) (some (.inl (IntKind.wrap .i64 (i1 + 1))))) (some (.inr ((.inl ()))))
noncomputable def fn_ref17_Few (xa:Tq13):Option Bool :=
 (cond ((decide (20 < (xa.2.1.length:Int)))||(decide (20 < (xa.2.2.1.length:Int)))) (some (true)) ((fn_ref15_Few xa.2.2.2 20).bind fun t1=>some (!t1))).bind fun t2=>cond (t2) (some (false)) ((loop (fn_ref17_Few_l1 xa) 0).bind fun o=>match o with | .inr r=>some r | .inl ()=>some (true))
noncomputable def hQ1:Hn Tryz.prog := .gp 4 (.wt 14 (.gj 4 ⟨[kdB 19],[]⟩ [] (.two 14 .nil (.cl oQ0 [] .nil)) (.tw 19 .nil (.jx [] ⟨[],[]⟩ [] (.lp ⟨[kdI 3],[]⟩ (.tw 24 (.cl oQ0 [] (.tw 33 .nil .nil)) .nil)) .nil))))
noncomputable def sQ1:Spec:=⟨23,⟨[(0,.dat Yq11)],[]⟩,[⟨[kdB 0],[]⟩],fun x=>fn_ref17_Few x⟩
noncomputable def oQ1:OkSpec Tryz.prog:=⟨sQ1,fn_is func23 hQ1 (by kernel_rfl) (by kernel_rfl),call23⟩
noncomputable def fn_ref20_Small_l1 (xa:Tq1):Int→Option (Int⊕(Unit⊕Bool)):=fun i1=>cond (decide (i1 < (xa.2.2.2.1.length:Int))) ((getI xa.2.2.2.1 i1).bind fun x2=>(fn_ref15_Few x2 20).bind fun t3=>cond (!t3) (some (.inr ((.inr (false))))) (some (.inl (IntKind.wrap .i64 (i1 + 1))))) (some (.inr ((.inl ()))))
noncomputable def fn_ref20_Small_l2 (xa:Tq1):Int→Option (Int⊕(Unit⊕Bool)):=fun i1=>cond (decide (i1 < (xa.2.2.2.2.2.1.length:Int))) ((getI xa.2.2.2.2.2.1 i1).bind fun x2=>(fn_ref17_Few (x2.1,x2.2.1,x2.2.2.1,x2.2.2.2)).bind fun t3=>cond (!t3) (some (.inr ((.inr (false))))) (some (.inl (IntKind.wrap .i64 (i1 + 1))))) (some (.inr ((.inl ()))))
noncomputable def fn_ref20_Small_l3 (xa:Tq1):Tq23→Option (Tq23⊕(Int⊕Bool)):=fun (i1,i2)=>cond (decide (i2 < (xa.2.2.2.2.2.2.length:Int))) ((getI xa.2.2.2.2.2.2 i2).bind fun x3=>(getI xa.2.2.2.2.2.2 i2).bind fun x4=>cond (((decide (20 < (x3.2.2.2.2.1.length:Int)))||(decide (20 < (x3.2.2.2.2.2.1.length:Int))))||(decide (20 < (x3.2.2.2.2.2.2.length:Int)))) (some (.inr ((.inr (false))))) (some (.inl ((IntKind.wrap .i64 (i1 + (x4.1.length:Int)),IntKind.wrap .i64 (i2 + 1)))))) (some (.inr (.inl i1)))
noncomputable def fn_ref20_Small (xa:Tq1):Option Bool :=
 (cond ((((decide (20 < (xa.2.2.1.length:Int)))||(decide (10 < (xa.2.2.2.1.length:Int))))||(decide (4 < (xa.2.2.2.2.2.1.length:Int))))||(decide (8 < (xa.2.2.2.2.2.2.length:Int)))) (some (true)) ((fn_ref15_Few xa.2.2.2.2.1 20).bind fun t1=>some (!t1))).bind fun t2=>cond (t2) (some (false)) ((loop (fn_ref20_Small_l1 xa) 0).bind fun o=>match o with | .inr r=>some r | .inl ()=>(loop (fn_ref20_Small_l2 xa) 0).bind fun o=>match o with | .inr r=>some r | .inl ()=>(loop (fn_ref20_Small_l3 xa) (0,0)).bind fun o=>match o with | .inr r=>some r | .inl i3=>some (decide (i3≤24)))
noncomputable def hQ2:Hn Tryz.prog := .gp 4 (.wt 18 (.gp 4 (.wt 24 (.gp 4 (.wt 30 (.gj 4 ⟨[kdB 35],[]⟩ [] (.two 30 .nil (.cl oQ0 [] .nil)) (.tw 35 .nil (.jx [] ⟨[],[]⟩ [] (.lp ⟨[kdI 3],[]⟩ (.tw 40 (.cl oQ0 [] (.tw 49 .nil .nil)) .nil)) (.jx [] ⟨[],[]⟩ [] (.lp ⟨[kdI 4],[]⟩ (.tw 54 (.cl oQ1 [] (.tw 63 .nil .nil)) .nil)) (.jx [] ⟨[kdI 5],[]⟩ [] (.lp ⟨[kdI 5,kdI 6],[]⟩ (.tw 68 (.gp 4 (.wt 96 (.gp 4 (.tw 101 .nil .nil)))) .nil)) .nil))))))))))
noncomputable def sQ2:Spec:=⟨6,⟨[(0,.dat Yq1)],[]⟩,[⟨[kdB 0],[]⟩],fun x=>fn_ref20_Small x⟩
noncomputable def oQ2:OkSpec Tryz.prog:=⟨sQ2,fn_is func6 hQ2 (by kernel_rfl) (by kernel_rfl),call6⟩

noncomputable def fn_tick_Counter_Add_zii (xb:Int) (xc:Int):Option Unit :=
 some (())
noncomputable def hQ3:Hn Tryz.prog := .nil
noncomputable def sQ3:Spec:=⟨26,⟨[(0,.nilp),kdI 1,kdI 2],[]⟩,[⟨[],[]⟩],fun x=>fn_tick_Counter_Add_zii x.1 x.2⟩
noncomputable def oQ3:OkSpec Tryz.prog:=⟨sQ3,fn_is func26 hQ3 (by kernel_rfl) (by kernel_rfl),call26⟩

noncomputable def fn_valid_head_az (xa:Tq1):Option Tq9 :=
 cond ((decide (xa.1 < 1))||(decide (xa.2.1 < xa.1))) (some ((7,0,0,0))) (cond (decide (65536 < xa.2.1)) (some ((6,0,0,0))) (some ((0,0,0,0))))
noncomputable def hQ4:Hn Tryz.prog := .gp 5 (.tw 7 .nil (.tw 19 .nil .nil))
noncomputable def sQ4:Spec:=⟨141,⟨[(0,.dat Yq1),(1,.nilp)],[]⟩,[⟨[(0,.agg [.dat Yq2,.dat Yq2,.dat Yq2,.dat Yq2])],[]⟩],fun x=>fn_valid_head_az x⟩
noncomputable def oQ4:OkSpec Tryz.prog:=⟨sQ4,fn_is func141 hQ4 (by kernel_rfl) (by kernel_rfl),call141⟩

noncomputable def fn_valid_bounds_1_ip0_iikkkkk (xa:Int) (qa0:Int) (qa1:Int) (qa2:Tq6) (qa3:(List Tq3)) (qa4:Tq3) (qa5:(List Tq13)) (qa6:(List ((List Tq5)×Tq8))):Option Bool :=
 some ((decide (0≤xa))&&(decide (xa < qa0)))
noncomputable def hQ5:Hn Tryz.prog := .gp 4 .nil
noncomputable def sQ5:Spec:=⟨174,⟨[kdI 0,(1,.ptr 0 0)],[bkN 30 [.is 1 (.dat Yq2),.is 2 (.dat Yq2),.is 3 (.dat Yq4),.is 4 (.dat (.sl Yq7)),.is 5 (.dat (.sl Yq3)),.is 6 (.dat (.sl Yq11)),.is 7 (.dat (.sl (.cons (.sl Yq6) (.one Yq12))))],bkM,bkM,bkM,bkM,bkM,bkM,bkM]⟩,[⟨[kdB 0],[bkC 0 30 [.is 1 (.any),.is 2 (.any),.is 3 (.any),.is 4 (.any),.is 5 (.any),.is 6 (.any),.is 7 (.any)],bkU 1,bkU 2,bkU 3,bkU 4,bkU 5,bkU 6,bkU 7]⟩],fun x=>fn_valid_bounds_1_ip0_iikkkkk x.1 x.2.1 x.2.2.1 x.2.2.2.1 x.2.2.2.2.1 x.2.2.2.2.2.1 x.2.2.2.2.2.2.1 x.2.2.2.2.2.2.2⟩
noncomputable def oQ5:OkSpec Tryz.prog:=⟨sQ5,fn_is func174 hQ5 (by kernel_rfl) (by kernel_rfl),call174⟩
noncomputable def fn_valid_bounds_az_l1 (xa:Tq1):Int→Option (Int⊕(Unit⊕Tq9)):=fun i1=>cond (decide (i1 < (xa.2.2.1.length:Int))) ((getI xa.2.2.1 i1).bind fun x2=>(fn_tick_Counter_Add_zii 1 1).bind fun _=>(fn_valid_bounds_1_ip0_iikkkkk x2.1 xa.1 xa.2.1 xa.2.2.1 xa.2.2.2.1 xa.2.2.2.2.1 xa.2.2.2.2.2.1 xa.2.2.2.2.2.2).bind fun t3=>(cond (!t3) (some (true)) ((fn_valid_bounds_1_ip0_iikkkkk x2.2 xa.1 xa.2.1 xa.2.2.1 xa.2.2.2.1 xa.2.2.2.2.1 xa.2.2.2.2.2.1 xa.2.2.2.2.2.2).bind fun t4=>some (!t4))).bind fun t5=>cond (t5) (some (.inr ((.inr ((7,1,i1,0)))))) (some (.inl (IntKind.wrap .i64 (i1 + 1))))) (some (.inr ((.inl ()))))
noncomputable def fn_valid_bounds_az (xa:Tq1):Option Tq9 :=
 cond (decide (65536 < (xa.2.2.1.length:Int))) (some ((6,1,0,0))) ((loop (fn_valid_bounds_az_l1 xa) 0).bind fun o=>match o with | .inr r=>some r | .inl ()=>some ((0,0,0,0)))
noncomputable def hQ6:Hn Tryz.prog := .tw 11 .nil (.jx [] ⟨[],[bkC 2 160 [.lit (.int .i64 0),.lit (.int .i64 0),.lit (.int .i64 0),.lit (.int .i64 0)]]⟩ [2,0] (.mc 0 0 1 (.mc 0 1 1 (.mc 0 2 1 (.mc 0 3 1 (.mc 0 4 1 (.mc 0 5 1 (.mc 0 6 1 (.lp ⟨[kdI 17],[bkC 2 160 [.lit (.int .i64 0),.lit (.int .i64 0),.lit (.int .i64 0),.lit (.int .i64 0)],bkC 0 30 [.is 2 (.any),.is 3 (.any),.is 4 (.any),.is 5 (.any),.is 6 (.any),.is 7 (.any),.is 8 (.any)],bkU 4,bkU 5,bkU 6,bkU 7,bkU 8,bkU 9,bkU 10]⟩ (.tw 18 (.cl oQ3 [] (.cl oQ5 [] (.gj 5 ⟨[kdB 35],[bkC 0 30 [.is 1 (.any),.is 2 (.any),.is 3 (.any),.is 4 (.any),.is 5 (.any),.is 6 (.any),.is 7 (.any)],bkU 4,bkU 5,bkU 6,bkU 7,bkU 8,bkU 9,bkU 10]⟩ [0] (.two 29 .nil (.cl oQ5 [] .nil)) (.tw 35 .nil .nil)))) .nil))))))))) .nil)
noncomputable def sQ6:Spec:=⟨142,⟨[(0,.dat Yq1),(1,.nilp)],[]⟩,[⟨[(0,.agg [.dat Yq2,.dat Yq2,.dat Yq2,.dat Yq2])],[]⟩],fun x=>fn_valid_bounds_az x⟩
noncomputable def oQ6:OkSpec Tryz.prog:=⟨sQ6,fn_is func142 hQ6 (by kernel_rfl) (by kernel_rfl),call142⟩

noncomputable def fn_row_within_1_ap0_i (xa:Tq26) (qa0:Int):Option Bool :=
 some ((decide (xa.1 < 0))||(decide (qa0≤xa.1)))
noncomputable def hQ7:Hn Tryz.prog := .gp 4 .nil
noncomputable def sQ7:Spec:=⟨192,⟨[(0,.dat Yq3),(1,.ptr 0 0)],[bkN 3 [.is 1 (.dat Yq2)],bkM]⟩,[⟨[kdB 0],[bkC 0 3 [.is 1 (.any)],bkU 1]⟩],fun x=>fn_row_within_1_ap0_i x.1 x.2⟩
noncomputable def oQ7:OkSpec Tryz.prog:=⟨sQ7,fn_is func192 hQ7 (by kernel_rfl) (by kernel_rfl),call192⟩
noncomputable def fn_slices_IndexFunc_api_Slot_api_Slot_k_row_within_1_p0_i_l1 (xa:Tq3) (qa0:Int):Int→Option (Int⊕(Unit⊕Int)):=fun i1=>cond (decide (i1 < (xa.length:Int))) ((getI xa i1).bind fun x2=>(fn_row_within_1_ap0_i (x2.1,x2.2) qa0).bind fun t3=>cond (t3) (some (.inr ((.inr (i1))))) (some (.inl (IntKind.wrap .i64 (i1 + 1))))) (some (.inr ((.inl ()))))
noncomputable def fn_slices_IndexFunc_api_Slot_api_Slot_k_row_within_1_p0_i (xa:Tq3) (qa0:Int):Option Int :=
 (loop (fn_slices_IndexFunc_api_Slot_api_Slot_k_row_within_1_p0_i_l1 xa qa0) 0).bind fun o=>match o with | .inr r=>some r | .inl ()=>some ((-1))
noncomputable def hQ8:Hn Tryz.prog := .jx [] ⟨[],[bkC 0 3 [.is 1 (.any)],bkU 1]⟩ [0] (.lp ⟨[kdI 8],[bkC 0 3 [.is 1 (.any)],bkU 1]⟩ (.tw 9 (.cl oQ7 [] (.tw 16 .nil .nil)) .nil)) .nil
noncomputable def sQ8:Spec:=⟨102,⟨[(0,.dat (.sl Yq3)),(1,.fn 192 [.ptr 0 0])],[bkN 3 [.is 1 (.dat Yq2)],bkM]⟩,[⟨[kdI 0],[bkC 0 3 [.is 1 (.any)],bkU 1]⟩],fun x=>fn_slices_IndexFunc_api_Slot_api_Slot_k_row_within_1_p0_i x.1 x.2⟩
noncomputable def oQ8:OkSpec Tryz.prog:=⟨sQ8,fn_is func102 hQ8 (by kernel_rfl) (by kernel_rfl),call102⟩

noncomputable def fn_slices_ContainsFunc_api_Slot_api_Slot_k_row_within_1_p0_i (xa:Tq3) (qa0:Int):Option Bool :=
 (fn_slices_IndexFunc_api_Slot_api_Slot_k_row_within_1_p0_i xa qa0).bind fun i10=>some (decide (0≤i10))
noncomputable def hQ9:Hn Tryz.prog := .cl oQ8 [] .nil
noncomputable def sQ9:Spec:=⟨66,⟨[(0,.dat (.sl Yq3)),(1,.fn 192 [.ptr 0 0])],[bkN 3 [.is 1 (.dat Yq2)],bkM]⟩,[⟨[kdB 0],[bkC 0 3 [.is 1 (.any)],bkU 1]⟩],fun x=>fn_slices_ContainsFunc_api_Slot_api_Slot_k_row_within_1_p0_i x.1 x.2⟩
noncomputable def oQ9:OkSpec Tryz.prog:=⟨sQ9,fn_is func66 hQ9 (by kernel_rfl) (by kernel_rfl),call66⟩

noncomputable def fn_row_within (xa:Tq3) (xb:Int):Option Bool :=
 (fn_slices_ContainsFunc_api_Slot_api_Slot_k_row_within_1_p0_i xa xb).bind fun t14=>some (!t14)
noncomputable def hQ10:Hn Tryz.prog := .mc 2 0 3 (.cl oQ9 [] .nil)
noncomputable def sQ10:Spec:=⟨186,⟨[(0,.dat Yq7),kdI 1],[]⟩,[⟨[kdB 0],[]⟩],fun x=>fn_row_within x.1 x.2⟩
noncomputable def oQ10:OkSpec Tryz.prog:=⟨sQ10,fn_is func186 hQ10 (by kernel_rfl) (by kernel_rfl),call186⟩

noncomputable def fn_row_Check (xa:Tq3) (xb:Int):Option Int :=
 cond (decide (16 < (xa.length:Int))) (some (6)) ((fn_row_within xa xb).bind fun t15=>cond (!t15) (some (7)) (some (0)))
noncomputable def hQ11:Hn Tryz.prog := .tw 8 .nil (.cl oQ10 [] (.tw 12 .nil .nil))
noncomputable def sQ11:Spec:=⟨175,⟨[(0,.dat Yq7),kdI 1],[]⟩,[⟨[kdI 0],[]⟩],fun x=>fn_row_Check x.1 x.2⟩
noncomputable def oQ11:OkSpec Tryz.prog:=⟨sQ11,fn_is func175 hQ11 (by kernel_rfl) (by kernel_rfl),call175⟩
noncomputable def fn_valid_locals_az_l1 (xa:Tq1):Int→Option (Int⊕(Unit⊕Tq9)):=fun i1=>cond (decide (i1 < (xa.2.2.2.1.length:Int))) ((getI xa.2.2.2.1 i1).bind fun x2=>(fn_tick_Counter_Add_zii 1 1).bind fun _=>(fn_row_Check x2 xa.2.1).bind fun i3=>cond (!decide (i3=0)) (some (.inr ((.inr ((i3,2,i1,0)))))) (some (.inl (IntKind.wrap .i64 (i1 + 1))))) (some (.inr ((.inl ()))))
noncomputable def fn_valid_locals_az (xa:Tq1):Option Tq9 :=
 cond (decide ((xa.2.2.2.1.length:Int)=0)) (some ((14,2,0,0))) (cond (decide (65536 < (xa.2.2.2.1.length:Int))) (some ((6,2,0,0))) ((loop (fn_valid_locals_az_l1 xa) 0).bind fun o=>match o with | .inr r=>some r | .inl ()=>some ((0,0,0,0))))
noncomputable def hQ12:Hn Tryz.prog := .tw 11 .nil (.tw 16 .nil (.jx [] ⟨[],[bkC 2 160 [.lit (.int .i64 0),.lit (.int .i64 0),.lit (.int .i64 0),.lit (.int .i64 0)]]⟩ [2] (.lp ⟨[kdI 21],[bkC 2 160 [.lit (.int .i64 0),.lit (.int .i64 0),.lit (.int .i64 0),.lit (.int .i64 0)]]⟩ (.tw 22 (.cl oQ3 [] (.cl oQ11 [] (.tw 33 .nil .nil))) .nil)) .nil))
noncomputable def sQ12:Spec:=⟨143,⟨[(0,.dat Yq1),(1,.nilp)],[]⟩,[⟨[(0,.agg [.dat Yq2,.dat Yq2,.dat Yq2,.dat Yq2])],[]⟩],fun x=>fn_valid_locals_az x⟩
noncomputable def oQ12:OkSpec Tryz.prog:=⟨sQ12,fn_is func143 hQ12 (by kernel_rfl) (by kernel_rfl),call143⟩

noncomputable def fn_row_Shape_1 (xa:Tq26) (xb:Tq26):Option Bool :=
 some (xa.2 == xb.2)
noncomputable def hQ13:Hn Tryz.prog := .nil
noncomputable def sQ13:Spec:=⟨188,⟨[(0,.dat Yq3),(1,.dat Yq3)],[]⟩,[⟨[kdB 0],[]⟩],fun x=>fn_row_Shape_1 x.1 x.2⟩
noncomputable def oQ13:OkSpec Tryz.prog:=⟨sQ13,fn_is func188 hQ13 (by kernel_rfl) (by kernel_rfl),call188⟩
noncomputable def fn_slices_EqualFunc_api_Slot_api_Slot_api_Slot_api_Slot_kk_row_Shape_1_l1 (xa:Tq3) (xb:Tq3):Int→Option (Int⊕(Unit⊕Bool)):=fun i1=>cond (decide (i1 < (xa.length:Int))) ((getI xa i1).bind fun x2=>(getI xb i1).bind fun x3=>(fn_row_Shape_1 (x2.1,x2.2) (x3.1,x3.2)).bind fun t4=>cond (!t4) (some (.inr ((.inr (false))))) (some (.inl (IntKind.wrap .i64 (i1 + 1))))) (some (.inr ((.inl ()))))
noncomputable def fn_slices_EqualFunc_api_Slot_api_Slot_api_Slot_api_Slot_kk_row_Shape_1 (xa:Tq3) (xb:Tq3):Option Bool :=
 cond (!decide ((xa.length:Int)=(xb.length:Int))) (some (false)) ((loop (fn_slices_EqualFunc_api_Slot_api_Slot_api_Slot_api_Slot_kk_row_Shape_1_l1 xa xb) 0).bind fun o=>match o with | .inr r=>some r | .inl ()=>some (true))
noncomputable def hQ14:Hn Tryz.prog := .tw 14 .nil (.jx [] ⟨[],[]⟩ [] (.lp ⟨[kdI 17],[]⟩ (.tw 18 (.cl oQ13 [] (.tw 30 .nil .nil)) .nil)) .nil)
noncomputable def sQ14:Spec:=⟨187,⟨[(0,.dat (.sl Yq3)),(1,.dat (.sl Yq3)),(2,.fn 188 [])],[]⟩,[⟨[kdB 0],[]⟩],fun x=>fn_slices_EqualFunc_api_Slot_api_Slot_api_Slot_api_Slot_kk_row_Shape_1 x.1 x.2⟩
noncomputable def oQ14:OkSpec Tryz.prog:=⟨sQ14,fn_is func187 hQ14 (by kernel_rfl) (by kernel_rfl),call187⟩

noncomputable def fn_row_Shape (xa:Tq3) (xb:Tq3):Option Bool :=
 (fn_slices_EqualFunc_api_Slot_api_Slot_api_Slot_api_Slot_kk_row_Shape_1 xa xb).bind fun t14=>some (t14)
noncomputable def hQ15:Hn Tryz.prog := .cl oQ14 [] .nil
noncomputable def sQ15:Spec:=⟨176,⟨[(0,.dat Yq7),(1,.dat Yq7)],[]⟩,[⟨[kdB 0],[]⟩],fun x=>fn_row_Shape x.1 x.2⟩
noncomputable def oQ15:OkSpec Tryz.prog:=⟨sQ15,fn_is func176 hQ15 (by kernel_rfl) (by kernel_rfl),call176⟩

noncomputable def fn_valid_ret_az (xa:Tq1):Option Tq9 :=
 (fn_row_Check xa.2.2.2.2.1 xa.1).bind fun i81=>cond (decide (i81=0)) ((getI xa.2.2.2.1 0).bind fun x1=>(fn_row_Shape xa.2.2.2.2.1 x1).bind fun t2=>cond (!t2) (some ((8,3,0,0))) (some ((i81,3,0,0)))) (some ((i81,3,0,0)))
noncomputable def hQ16:Hn Tryz.prog := .cl oQ11 [] (.mix [] [0,1,2,3,4,5,6,7,8,9] [10,11,12] [] (.two 15 (.cl oQ15 [] (.tw 24 .nil .nil)) .nil))
noncomputable def sQ16:Spec:=⟨144,⟨[(0,.dat Yq1),(1,.nilp)],[]⟩,[⟨[(0,.agg [.dat Yq2,.dat Yq2,.dat Yq2,.dat Yq2])],[]⟩],fun x=>fn_valid_ret_az x⟩
noncomputable def oQ16:OkSpec Tryz.prog:=⟨sQ16,fn_is func144 hQ16 (by kernel_rfl) (by kernel_rfl),call144⟩

noncomputable def fn_sig_Check_1_ip0_ikkk (xa:Int) (qa0:Int) (qa1:Tq6) (qa2:(List Tq3)) (qa3:Tq3):Option Bool :=
 some ((decide (0≤xa))&&(decide (xa < qa0)))
noncomputable def hQ17:Hn Tryz.prog := .gp 4 .nil
noncomputable def sQ17:Spec:=⟨189,⟨[kdI 0,(1,.ptr 0 0)],[bkN 67 [.is 1 (.dat Yq2),.is 2 (.dat Yq4),.is 3 (.dat (.sl Yq7)),.is 4 (.dat (.sl Yq3))],bkM,bkM,bkM,bkM]⟩,[⟨[kdB 0],[bkC 0 67 [.is 1 (.any),.is 2 (.any),.is 3 (.any),.is 4 (.any)],bkU 1,bkU 2,bkU 3,bkU 4]⟩],fun x=>fn_sig_Check_1_ip0_ikkk x.1 x.2.1 x.2.2.1 x.2.2.2.1 x.2.2.2.2⟩
noncomputable def oQ17:OkSpec Tryz.prog:=⟨sQ17,fn_is func189 hQ17 (by kernel_rfl) (by kernel_rfl),call189⟩
noncomputable def fn_sig_Check_l1 (xa:Tq13):Int→Option (Int⊕(Unit⊕Int)):=fun i1=>cond (decide (i1 < (xa.2.1.length:Int))) ((getI xa.2.1 i1).bind fun x2=>(fn_sig_Check_1_ip0_ikkk x2.1 xa.1 xa.2.1 xa.2.2.1 xa.2.2.2).bind fun t3=>(cond (!t3) (some (true)) ((fn_sig_Check_1_ip0_ikkk x2.2 xa.1 xa.2.1 xa.2.2.1 xa.2.2.2).bind fun t4=>some (!t4))).bind fun t5=>cond (t5) (some (.inr ((.inr (7))))) (some (.inl (IntKind.wrap .i64 (i1 + 1))))) (some (.inr ((.inl ()))))
noncomputable def fn_sig_Check_l2 (xa:Tq13):Int→Option (Int⊕(Unit⊕Int)):=fun i1=>cond (decide (i1 < (xa.2.2.1.length:Int))) ((getI xa.2.2.1 i1).bind fun x2=>(fn_row_Check x2 xa.1).bind fun i3=>cond (!decide (i3=0)) (some (.inr ((.inr (i3))))) (some (.inl (IntKind.wrap .i64 (i1 + 1))))) (some (.inr ((.inl ()))))
noncomputable def fn_sig_Check (xa:Tq13):Option Int :=
 cond (decide (xa.1 < 0)) (some (7)) (cond (((decide (16 < xa.1))||(decide (16 < (xa.2.1.length:Int))))||(decide (16 < (xa.2.2.1.length:Int)))) (some (6)) ((loop (fn_sig_Check_l1 xa) 0).bind fun o=>match o with | .inr r=>some r | .inl ()=>(loop (fn_sig_Check_l2 xa) 0).bind fun o=>match o with | .inr r=>some r | .inl ()=>(fn_row_Check xa.2.2.2 xa.1).bind fun i1=>some (i1)))
noncomputable def hQ18:Hn Tryz.prog := .tw 11 .nil (.gp 4 (.wt 21 (.gp 4 (.tw 26 .nil (.jx [(0,0),(0,1),(0,2),(0,3)] ⟨[],[bkC 0 67 [.is 1 (.any),.is 2 (.any),.is 3 (.any),.is 4 (.any)],bkU 2,bkU 3,bkU 4,bkU 5]⟩ [0] (.lp ⟨[kdI 31],[bkC 0 67 [.is 1 (.any),.is 2 (.any),.is 3 (.any),.is 4 (.any)],bkU 2,bkU 3,bkU 4,bkU 5]⟩ (.tw 32 (.cl oQ17 [] (.gj 5 ⟨[kdB 46],[bkC 0 67 [.is 1 (.any),.is 2 (.any),.is 3 (.any),.is 4 (.any)],bkU 2,bkU 3,bkU 4,bkU 5]⟩ [0] (.two 40 .nil (.cl oQ17 [] .nil)) (.tw 46 .nil .nil))) .nil)) (.jx [] ⟨[],[]⟩ [] (.lp ⟨[kdI 51],[]⟩ (.tw 52 (.cl oQ11 [] (.tw 60 .nil .nil)) .nil)) (.cl oQ11 [] .nil)))))))
noncomputable def sQ18:Spec:=⟨177,⟨[(0,.dat Yq11)],[]⟩,[⟨[kdI 0],[]⟩],fun x=>fn_sig_Check x⟩
noncomputable def oQ18:OkSpec Tryz.prog:=⟨sQ18,fn_is func177 hQ18 (by kernel_rfl) (by kernel_rfl),call177⟩
noncomputable def fn_valid_sigs_az_l1 (xa:Tq1):Int→Option (Int⊕(Unit⊕Tq9)):=fun i1=>cond (decide (i1 < (xa.2.2.2.2.2.1.length:Int))) ((getI xa.2.2.2.2.2.1 i1).bind fun x2=>(fn_tick_Counter_Add_zii 1 1).bind fun _=>(fn_sig_Check (x2.1,x2.2.1,x2.2.2.1,x2.2.2.2)).bind fun i3=>cond (!decide (i3=0)) (some (.inr ((.inr ((i3,4,i1,0)))))) (some (.inl (IntKind.wrap .i64 (i1 + 1))))) (some (.inr ((.inl ()))))
noncomputable def fn_valid_sigs_az (xa:Tq1):Option Tq9 :=
 cond (decide (65536 < (xa.2.2.2.2.2.1.length:Int))) (some ((6,4,0,0))) ((loop (fn_valid_sigs_az_l1 xa) 0).bind fun o=>match o with | .inr r=>some r | .inl ()=>some ((0,0,0,0)))
noncomputable def hQ19:Hn Tryz.prog := .tw 11 .nil (.jx [] ⟨[],[bkC 2 160 [.lit (.int .i64 0),.lit (.int .i64 0),.lit (.int .i64 0),.lit (.int .i64 0)]]⟩ [2,0] (.lp ⟨[kdI 16],[bkC 2 160 [.lit (.int .i64 0),.lit (.int .i64 0),.lit (.int .i64 0),.lit (.int .i64 0)]]⟩ (.tw 17 (.cl oQ3 [] (.cl oQ18 [] (.tw 26 .nil .nil))) .nil)) .nil)
noncomputable def sQ19:Spec:=⟨145,⟨[(0,.dat Yq1),(1,.nilp)],[]⟩,[⟨[(0,.agg [.dat Yq2,.dat Yq2,.dat Yq2,.dat Yq2])],[]⟩],fun x=>fn_valid_sigs_az x⟩
noncomputable def oQ19:OkSpec Tryz.prog:=⟨sQ19,fn_is func145 hQ19 (by kernel_rfl) (by kernel_rfl),call145⟩
noncomputable def fn_valid_blocks_az_l1 (xa:Tq1):Tq23→Option (Tq23⊕(Unit⊕Tq9)):=fun (i1,i2)=>cond (decide (i2 < (xa.2.2.2.2.2.2.length:Int))) ((getI xa.2.2.2.2.2.2 i2).bind fun x3=>(fn_tick_Counter_Add_zii 1 1).bind fun _=>cond (decide (65536 < (IntKind.wrap .i64 (i1 + (x3.1.length:Int))))) (some (.inr ((.inr ((6,5,i2,0)))))) (some (.inl ((IntKind.wrap .i64 (i1 + (x3.1.length:Int)),IntKind.wrap .i64 (i2 + 1)))))) (some (.inr ((.inl ()))))
noncomputable def fn_valid_blocks_az (xa:Tq1):Option Tq9 :=
 cond (decide ((xa.2.2.2.2.2.2.length:Int)=0)) (some ((14,5,0,0))) (cond (decide (65536 < (xa.2.2.2.2.2.2.length:Int))) (some ((6,5,0,0))) ((loop (fn_valid_blocks_az_l1 xa) (0,0)).bind fun o=>match o with | .inr r=>some r | .inl ()=>some ((0,0,0,0))))
noncomputable def hQ20:Hn Tryz.prog := .tw 11 .nil (.tw 16 .nil (.jx [] ⟨[],[bkC 2 160 [.lit (.int .i64 0),.lit (.int .i64 0),.lit (.int .i64 0),.lit (.int .i64 0)]]⟩ [2,0] (.lp ⟨[kdI 5,kdI 21],[bkC 2 160 [.lit (.int .i64 0),.lit (.int .i64 0),.lit (.int .i64 0),.lit (.int .i64 0)]]⟩ (.tw 22 (.cl oQ3 [] (.tw 34 .nil .nil)) .nil)) .nil))
noncomputable def sQ20:Spec:=⟨146,⟨[(0,.dat Yq1),(1,.nilp)],[]⟩,[⟨[(0,.agg [.dat Yq2,.dat Yq2,.dat Yq2,.dat Yq2])],[]⟩],fun x=>fn_valid_blocks_az x⟩
noncomputable def oQ20:OkSpec Tryz.prog:=⟨sQ20,fn_is func146 hQ20 (by kernel_rfl) (by kernel_rfl),call146⟩

noncomputable def fn_stmt_fieldsOf (xa:Int):Option (Bool×Bool×Bool×Bool) :=
 cond (decide (xa=0)) (some ((false,false,false,true))) (cond (decide (xa=1)) (some ((true,true,false,true))) ((cond (decide (xa=2)) (some (decide (xa=2))) (some (decide (xa=3))):Option Bool).bind fun t18=>cond (t18) (some ((true,true,true,true))) (cond (decide (xa=4)) (some ((false,true,false,true))) (cond (decide (xa=5)) (some ((true,false,false,true))) (some ((false,false,false,false)))))))
noncomputable def hQ21:Hn Tryz.prog := .tw 5 .nil (.tw 8 .nil (.sq [] ⟨[kdB 11],[]⟩ [] (.tw 11 .nil .nil) (.tw 11 .nil (.tw 15 .nil (.tw 18 .nil .nil)))))
noncomputable def sQ21:Spec:=⟨201,⟨[kdI 0],[]⟩,[⟨[(0,.tup [.agg [.dat .bool,.dat .bool,.dat .bool],.dat .bool])],[]⟩],fun x=>fn_stmt_fieldsOf x⟩
noncomputable def oQ21:OkSpec Tryz.prog:=⟨sQ21,fn_is func201 hQ21 (by kernel_rfl) (by kernel_rfl),call201⟩

noncomputable def fn_stmt_own (xa:Tq5) (xb:(Bool×Bool×Bool)):Option Tq5 :=
 (cond (xb.1) (some (xa.2.1)) (some (0)):Option Int).bind fun i22=>(cond (xb.2.1) (some (xa.2.2.1)) (some (0)):Option Int).bind fun i25=>cond (xb.2.2) (some ((xa.1,i22,i25,xa.2.2.2.1,xa.2.2.2.2))) (some ((xa.1,i22,i25,0,false)))
noncomputable def hQ22:Hn Tryz.prog := .pl (.pl (.sq [(6,0)] ⟨[],[bkC 6 62 [.is 1 (.any),.dat Yq2,.lit (.int .i64 0),.lit (.int .i64 0),.lit (.bool false)],bkU 9]⟩ [6] (.tw 10 .nil .nil) (.sq [(6,1)] ⟨[],[bkC 6 62 [.is 1 (.any),.is 2 (.any),.dat Yq2,.lit (.int .i64 0),.lit (.bool false)],bkU 9,bkU 11]⟩ [6] (.tw 15 .nil .nil) (.tw 20 (.mix [([0,1,2,3,4],5)] [6] [7] [6] .nil) .nil))))
noncomputable def sQ22:Spec:=⟨202,⟨[(0,.dat Yq6),(1,.dat (.cons .bool (.cons .bool (.one .bool))))],[]⟩,[⟨[(0,.agg [.dat Yq2,.dat Yq2,.dat Yq2,.dat Yq2,.dat .bool])],[]⟩],fun x=>fn_stmt_own x.1 x.2⟩
noncomputable def oQ22:OkSpec Tryz.prog:=⟨sQ22,fn_is func202 hQ22 (by kernel_rfl) (by kernel_rfl),call202⟩

noncomputable def fn_stmt_form (xa:Tq5):Option (Bool×Bool×Bool×Int) :=
 (fn_stmt_fieldsOf xa.1).bind fun (t67,t68,t69,t70)=>cond (!t70) (some ((false,false,false,3))) ((fn_stmt_own (xa.1,xa.2.1,xa.2.2.1,xa.2.2.2.1,xa.2.2.2.2) (t67,t68,t69)).bind fun (i1,i2,i3,i4,t5)=>cond (!((decide (xa.1=i1))&&((decide (xa.2.1=i2))&&((decide (xa.2.2.1=i3))&&((decide (xa.2.2.2.1=i4))&&(xa.2.2.2.2 == t5)))))) (some ((false,false,false,3))) (some ((t67,t68,t69,0))))
noncomputable def hQ23:Hn Tryz.prog := .cl oQ21 [] (.mix [([0,1,2,3,4,5],6)] [7,8] [] [] (.two 14 .nil (.cl oQ22 [] (.tw 20 .nil .nil))))
noncomputable def sQ23:Spec:=⟨193,⟨[(0,.dat Yq6)],[]⟩,[⟨[(0,.tup [.agg [.dat .bool,.dat .bool,.dat .bool],.dat Yq2])],[]⟩],fun x=>fn_stmt_form x⟩
noncomputable def oQ23:OkSpec Tryz.prog:=⟨sQ23,fn_is func193 hQ23 (by kernel_rfl) (by kernel_rfl),call193⟩

noncomputable def fn_stmt_Needs_1_ip0_k (xa:Int) (qa0:(List Tq3)):Option Bool :=
 some ((decide (0≤xa))&&(decide (xa < (qa0.length:Int))))
noncomputable def hQ24:Hn Tryz.prog := .gp 4 .nil
noncomputable def sQ24:Spec:=⟨194,⟨[kdI 0,(1,.ptr 0 0)],[bkN 23 [.is 1 (.dat (.sl Yq7))],bkM]⟩,[⟨[kdB 0],[bkC 0 23 [.is 1 (.any)],bkU 1]⟩],fun x=>fn_stmt_Needs_1_ip0_k x.1 x.2⟩
noncomputable def oQ24:OkSpec Tryz.prog:=⟨sQ24,fn_is func194 hQ24 (by kernel_rfl) (by kernel_rfl),call194⟩
noncomputable def fn_relate_related_l1 (xa:Tq3) (xb:Tq3) (xc:Int) (xd:Int):Tq20→Option (Tq20⊕(List Tq5)):=fun (l1,i2)=>cond (decide (i2 < (xa.length:Int))) ((getI xa i2).bind fun x3=>(getI xb i2).bind fun x4=>(app l1 (([(x3.1,x4.1,xc,IntKind.wrap .i64 (xd + i2),false)]:List Tq5))).bind fun z5=>(getI xb i2).bind fun x6=>cond (x6.2) ((getI xb i2).bind fun x7=>(getI xa i2).bind fun x8=>(app z5 (([(x7.1,x8.1,xc,IntKind.wrap .i64 (xd + i2),true)]:List Tq5))).bind fun z9=>some (.inl ((z9,IntKind.wrap .i64 (i2 + 1))))) (some (.inl ((z5,IntKind.wrap .i64 (i2 + 1)))))) (some (.inr (l1)))
noncomputable def fn_relate_related (xa:Tq3) (xb:Tq3) (xc:Int) (xd:Int):Option ((List Tq5)) :=
 (loop (fn_relate_related_l1 xa xb xc xd) ([],0)).bind fun l1=>some (l1)
noncomputable def hQ25:Hn Tryz.prog := .jn [] ⟨[(9,.own 247 Yq6)],[]⟩ [] (.lp ⟨[(9,.own 247 Yq6),kdI 13],[]⟩ (.tw 14 (.mix [([0,1,2,3,4,5,6,7,8,9,10,11,12,13,14,15],16)] [] [17,18] [] (.tw 38 (.mix [([0,1,2,3,4,5,6,7,8,9,10,11,12,13,14,15],16)] [] [17,18] [] .nil) .nil)) .nil)) .nil
noncomputable def sQ25:Spec:=⟨203,⟨[(0,.dat (.sl Yq3)),(1,.dat (.sl Yq3)),kdI 2,kdI 3],[]⟩,[⟨[(0,.own 247 Yq6)],[]⟩],fun x=>fn_relate_related x.1 x.2.1 x.2.2.1 x.2.2.2⟩
noncomputable def oQ25:OkSpec Tryz.prog:=⟨sQ25,fn_is func203 hQ25 (by kernel_rfl) (by kernel_rfl),call203⟩

noncomputable def fn_relate_Flow (xa:Tq3) (xb:Tq3) (xc:Int) (xd:Int):Option (Tq20) :=
 (fn_row_Shape xa xb).bind fun t30=>cond (!t30) (some (([],8))) ((fn_relate_related xa xb xc xd).bind fun l38=>some ((l38,0)))
noncomputable def hQ26:Hn Tryz.prog := .cl oQ15 [] (.tw 13 .nil (.cl oQ25 [] .nil))
noncomputable def sQ26:Spec:=⟨195,⟨[(0,.dat Yq7),(1,.dat Yq7),kdI 2,kdI 3],[]⟩,[⟨[(0,.tup [.own 247 Yq6,.dat Yq2])],[]⟩],fun x=>fn_relate_Flow x.1 x.2.1 x.2.2.1 x.2.2.2⟩
noncomputable def oQ26:OkSpec Tryz.prog:=⟨sQ26,fn_is func195 hQ26 (by kernel_rfl) (by kernel_rfl),call195⟩
noncomputable def fn_row_Ref_l1 (xa:Tq3) (xc:Bool):(Tq3×Int)→Option ((Tq3×Int)⊕Tq3):=fun (l1,i2)=>cond (decide (i2 < (xa.length:Int))) ((getI xa i2).bind fun x3=>(app l1 (([(x3.1,x3.2||xc)]:List Tq26))).bind fun z4=>some (.inl ((z4,IntKind.wrap .i64 (i2 + 1))))) (some (.inr (l1)))
noncomputable def fn_row_Ref (xa:Tq3) (xb:Int) (xc:Bool):Option (Tq3) :=
 (loop (fn_row_Ref_l1 xa xc) ((([(xb,false)]:List Tq26),0))).bind fun l1=>some (l1)
noncomputable def hQ27:Hn Tryz.prog := .jn [] ⟨[(7,.own 69 Yq3),(12,.any)],[]⟩ [4,0] (.lp ⟨[(7,.own 69 Yq3),kdI 16],[]⟩ (.tw 17 (.gp 1 .nil) .nil)) .nil
noncomputable def sQ27:Spec:=⟨204,⟨[(0,.dat Yq7),kdI 1,kdB 2],[]⟩,[⟨[(0,.agg [.own 69 Yq3])],[]⟩],fun x=>fn_row_Ref x.1 x.2.1 x.2.2⟩
noncomputable def oQ27:OkSpec Tryz.prog:=⟨sQ27,fn_is func204 hQ27 (by kernel_rfl) (by kernel_rfl),call204⟩

noncomputable def fn_relate_Loan (xa:Tq3) (xb:Tq3) (xc:Int) (xd:Bool):Option (Tq20) :=
 (fn_row_Ref xa xc xd).bind fun l1=>(fn_row_Shape xb l1).bind fun t2=>cond (!t2) (some (([],8))) ((getI xb 0).bind fun x3=>(subL xb 1 (xb.length:Int)).bind fun y4=>(fn_relate_related xa y4 1 1).bind fun l5=>(app (([(xc,x3.1,2,0,false)]:List Tq5)) l5).bind fun z6=>some ((z6,0)))
noncomputable def hQ28:Hn Tryz.prog := .mix [([0,1,2,3],4)] [] [5,6] [] (.cl oQ27 [] (.cl oQ15 [4] (.tw 17 .nil (.mix [([0,1,2,3,4,5],6)] [] [7,8,9] [] (.cl oQ25 [] .nil)))))
noncomputable def sQ28:Spec:=⟨196,⟨[(0,.dat Yq7),(1,.dat Yq7),kdI 2,kdB 3],[]⟩,[⟨[(0,.tup [.own 247 Yq6,.dat Yq2])],[]⟩],fun x=>fn_relate_Loan x.1 x.2.1 x.2.2.1 x.2.2.2⟩
noncomputable def oQ28:OkSpec Tryz.prog:=⟨sQ28,fn_is func196 hQ28 (by kernel_rfl) (by kernel_rfl),call196⟩

noncomputable def fn_relate_mayBorrowAgain_1 (xa:Tq26):Option Bool :=
 some (!xa.2)
noncomputable def hQ29:Hn Tryz.prog := .nil
noncomputable def sQ29:Spec:=⟨211,⟨[(0,.dat Yq3)],[]⟩,[⟨[kdB 0],[]⟩],fun x=>fn_relate_mayBorrowAgain_1 x⟩
noncomputable def oQ29:OkSpec Tryz.prog:=⟨sQ29,fn_is func211 hQ29 (by kernel_rfl) (by kernel_rfl),call211⟩
noncomputable def fn_slices_IndexFunc_api_Slot_api_Slot_k_relate_mayBorrowAgain_1_l1 (xa:Tq3):Int→Option (Int⊕(Unit⊕Int)):=fun i1=>cond (decide (i1 < (xa.length:Int))) ((getI xa i1).bind fun x2=>(fn_relate_mayBorrowAgain_1 (x2.1,x2.2)).bind fun t3=>cond (t3) (some (.inr ((.inr (i1))))) (some (.inl (IntKind.wrap .i64 (i1 + 1))))) (some (.inr ((.inl ()))))
noncomputable def fn_slices_IndexFunc_api_Slot_api_Slot_k_relate_mayBorrowAgain_1 (xa:Tq3):Option Int :=
 (loop (fn_slices_IndexFunc_api_Slot_api_Slot_k_relate_mayBorrowAgain_1_l1 xa) 0).bind fun o=>match o with | .inr r=>some r | .inl ()=>some ((-1))
noncomputable def hQ30:Hn Tryz.prog := .jx [] ⟨[],[]⟩ [] (.lp ⟨[kdI 8],[]⟩ (.tw 9 (.cl oQ29 [] (.tw 16 .nil .nil)) .nil)) .nil
noncomputable def sQ30:Spec:=⟨102,⟨[(0,.dat (.sl Yq3)),(1,.fn 211 [])],[]⟩,[⟨[kdI 0],[]⟩],fun x=>fn_slices_IndexFunc_api_Slot_api_Slot_k_relate_mayBorrowAgain_1 x⟩
noncomputable def oQ30:OkSpec Tryz.prog:=⟨sQ30,fn_is func102 hQ30 (by kernel_rfl) (by kernel_rfl),call102⟩

noncomputable def fn_slices_ContainsFunc_api_Slot_api_Slot_k_relate_mayBorrowAgain_1 (xa:Tq3):Option Bool :=
 (fn_slices_IndexFunc_api_Slot_api_Slot_k_relate_mayBorrowAgain_1 xa).bind fun i10=>some (decide (0≤i10))
noncomputable def hQ31:Hn Tryz.prog := .cl oQ30 [] .nil
noncomputable def sQ31:Spec:=⟨66,⟨[(0,.dat (.sl Yq3)),(1,.fn 211 [])],[]⟩,[⟨[kdB 0],[]⟩],fun x=>fn_slices_ContainsFunc_api_Slot_api_Slot_k_relate_mayBorrowAgain_1 x⟩
noncomputable def oQ31:OkSpec Tryz.prog:=⟨sQ31,fn_is func66 hQ31 (by kernel_rfl) (by kernel_rfl),call66⟩

noncomputable def fn_relate_mayBorrowAgain (xa:Tq3) (xb:Tq3) (xc:Bool):Option Bool :=
 (cond (decide ((xa.length:Int)=0)) (some (true)) ((getI xa 0).bind fun x70=>some (x70.2))).bind fun t68=>(cond (t68) (some (true)) ((fn_row_Shape xa xb).bind fun t90=>some (!t90))).bind fun t86=>cond (t86) (some (false)) ((subL xa 1 (xa.length:Int)).bind fun y95=>(fn_slices_ContainsFunc_api_Slot_api_Slot_k_relate_mayBorrowAgain_1 y95).bind fun t1=>some ((!xc)||(!t1)))
noncomputable def hQ32:Hn Tryz.prog := .gj 5 ⟨[kdB 18],[]⟩ [] (.two 12 .nil .nil) (.wt 19 (.gj 4 ⟨[kdB 24],[]⟩ [] (.two 19 .nil (.cl oQ15 [] .nil)) (.tw 24 .nil (.cl oQ31 [] (.gp 2 .nil)))))
noncomputable def sQ32:Spec:=⟨205,⟨[(0,.dat Yq7),(1,.dat Yq7),kdB 2],[]⟩,[⟨[kdB 0],[]⟩],fun x=>fn_relate_mayBorrowAgain x.1 x.2.1 x.2.2⟩
noncomputable def oQ32:OkSpec Tryz.prog:=⟨sQ32,fn_is func205 hQ32 (by kernel_rfl) (by kernel_rfl),call205⟩

noncomputable def fn_relate_Again (xa:Tq3) (xb:Tq3) (xc:Int) (xd:Bool):Option (Tq20) :=
 (fn_relate_mayBorrowAgain xa xb xd).bind fun t1=>cond (!t1) (some (([],8))) ((getI xa 0).bind fun x2=>(getI xb 0).bind fun x3=>(subL xa 1 (xa.length:Int)).bind fun y4=>(subL xb 1 (xb.length:Int)).bind fun y5=>(fn_relate_related y4 y5 1 1).bind fun l6=>(app (([(x2.1,xc,3,0,false),(xc,x3.1,2,0,false)]:List Tq5)) l6).bind fun z7=>some ((z7,0)))
noncomputable def hQ33:Hn Tryz.prog := .cl oQ32 [] (.tw 15 .nil (.mix [([0,1,2,3,4,5,6,7,8,9,10,11,12,13],14)] [15] [] [] (.mix [([0,1,2,3,4,5,6],7)] [] [8,9,10] [] (.cl oQ25 [] .nil))))
noncomputable def sQ33:Spec:=⟨197,⟨[(0,.dat Yq7),(1,.dat Yq7),kdI 2,kdB 3],[]⟩,[⟨[(0,.tup [.own 247 Yq6,.dat Yq2])],[]⟩],fun x=>fn_relate_Again x.1 x.2.1 x.2.2.1 x.2.2.2⟩
noncomputable def oQ33:OkSpec Tryz.prog:=⟨sQ33,fn_is func197 hQ33 (by kernel_rfl) (by kernel_rfl),call197⟩

noncomputable def fn_stmt_Needs (xa:Tq5) (xb:(List Tq3)) (xc:Int):Option (Tq20) :=
 (fn_stmt_form (xa.1,xa.2.1,xa.2.2.1,xa.2.2.2.1,xa.2.2.2.2)).bind fun (t1,t2,t3,i4)=>cond (!decide (i4=0)) (some (([],i4))) ((cond (t1) ((fn_stmt_Needs_1_ip0_k xa.2.1 xb).bind fun t5=>some (!t5)) (some (false))).bind fun t6=>(cond (t6) (some (true)) ((cond (t2) ((fn_stmt_Needs_1_ip0_k xa.2.2.1 xb).bind fun t7=>some (!t7)) (some (false))).bind fun t8=>some (t8))).bind fun t9=>cond (t9||(t3&&((decide (xa.2.2.2.1 < 0))||(decide (xc≤xa.2.2.2.1))))) (some (([],7))) (cond (decide (xa.1=1)) ((getI xb xa.2.2.1).bind fun x10=>(getI xb xa.2.1).bind fun x11=>(fn_relate_Flow x10 x11 1 0).bind fun (l12,i13)=>some ((l12,i13))) (cond (decide (xa.1=2)) ((getI xb xa.2.2.1).bind fun x14=>(getI xb xa.2.1).bind fun x15=>(fn_relate_Loan x14 x15 xa.2.2.2.1 xa.2.2.2.2).bind fun (l16,i17)=>some ((l16,i17))) (cond (decide (xa.1=3)) ((getI xb xa.2.2.1).bind fun x18=>(getI xb xa.2.1).bind fun x19=>(fn_relate_Again x18 x19 xa.2.2.2.1 xa.2.2.2.2).bind fun (l20,i21)=>some ((l20,i21))) (some (([],0)))))))
noncomputable def hQ34:Hn Tryz.prog := .cl oQ23 [] (.tw 17 .nil (.mc 2 0 3 (.gj 5 ⟨[kdB 28],[bkC 2 23 [.is 1 (.any)],bkU 7]⟩ [2] (.two 22 (.cl oQ24 [] .nil) .nil) (.wt 29 (.gj 9 ⟨[kdB 39],[bkC 2 23 [.is 1 (.any)],bkU 7]⟩ [2] (.two 29 .nil (.wt 32 (.gj 5 ⟨[kdB 38],[bkC 2 23 [.is 1 (.any)],bkU 7]⟩ [2] (.two 32 (.cl oQ24 [] .nil) .nil) .nil))) (.wt 40 (.gp 13 (.tw 54 .nil (.tw 57 (.mix [([0,1,2,3,4,5,6,7,8,9],10)] [11,12,13,14] [] [] (.cl oQ26 [] .nil)) (.tw 72 (.mix [([0,1,2,3,4,5,6,7,8,9,10,11,12,13],14)] [15,16,17,18] [] [] (.cl oQ28 [] .nil)) (.tw 91 (.mix [([0,1,2,3,4,5,6,7,8,9,10,11,12,13],14)] [15,16,17,18] [] [] (.cl oQ33 [] .nil)) .nil)))))))))))
noncomputable def sQ34:Spec:=⟨190,⟨[(0,.dat Yq6),(1,.dat (.sl Yq7)),kdI 2],[]⟩,[⟨[(0,.tup [.own 247 Yq6,.dat Yq2])],[]⟩],fun x=>fn_stmt_Needs x.1 x.2.1 x.2.2⟩
noncomputable def oQ34:OkSpec Tryz.prog:=⟨sQ34,fn_is func190 hQ34 (by kernel_rfl) (by kernel_rfl),call190⟩

noncomputable def fn_stmt_Check (xa:Tq5) (xb:(List Tq3)) (xc:Int):Option Int :=
 (fn_stmt_Needs (xa.1,xa.2.1,xa.2.2.1,xa.2.2.2.1,xa.2.2.2.2) xb xc).bind fun (l17,i18)=>some (i18)
noncomputable def hQ35:Hn Tryz.prog := .cl oQ34 [] .nil
noncomputable def sQ35:Spec:=⟨178,⟨[(0,.dat Yq6),(1,.dat (.sl Yq7)),kdI 2],[]⟩,[⟨[kdI 0],[]⟩],fun x=>fn_stmt_Check x.1 x.2.1 x.2.2⟩
noncomputable def oQ35:OkSpec Tryz.prog:=⟨sQ35,fn_is func178 hQ35 (by kernel_rfl) (by kernel_rfl),call178⟩

noncomputable def fn_term_calls (xa:Tq8):Option Bool :=
 some (((!decide (xa.2.1=0))||(!decide (xa.2.2.1=0)))||(decide (0 < (xa.2.2.2.2.2.length:Int))))
noncomputable def hQ36:Hn Tryz.prog := .gp 3 (.wt 11 (.gp 4 .nil))
noncomputable def sQ36:Spec:=⟨206,⟨[(0,.dat Yq12)],[]⟩,[⟨[kdB 0],[]⟩],fun x=>fn_term_calls x⟩
noncomputable def oQ36:OkSpec Tryz.prog:=⟨sQ36,fn_is func206 hQ36 (by kernel_rfl) (by kernel_rfl),call206⟩

noncomputable def fn_term_form (xa:Tq8):Option Int :=
 (cond (decide (xa.1=1)) ((cond ((decide ((xa.2.2.2.1.length:Int)=1))&&(decide ((xa.2.2.2.2.1.length:Int)=0))) ((fn_term_calls (xa.1,xa.2.1,xa.2.2.1,xa.2.2.2.1,xa.2.2.2.2.1,xa.2.2.2.2.2)).bind fun t1=>some (!t1)) (some (false))).bind fun t2=>some (t2)) (cond (decide (xa.1=2)) ((cond (decide (0 < (xa.2.2.2.1.length:Int))) ((fn_term_calls (xa.1,xa.2.1,xa.2.2.1,xa.2.2.2.1,xa.2.2.2.2.1,xa.2.2.2.2.2)).bind fun t3=>some (!t3)) (some (false))).bind fun t4=>some (t4)) (cond (decide (xa.1=3)) ((cond ((decide ((xa.2.2.2.1.length:Int)=0))&&(decide ((xa.2.2.2.2.1.length:Int)=0))) ((fn_term_calls (xa.1,xa.2.1,xa.2.2.1,xa.2.2.2.1,xa.2.2.2.2.1,xa.2.2.2.2.2)).bind fun t5=>some (!t5)) (some (false))).bind fun t6=>some (t6)) (cond (decide (xa.1=4)) (some (decide ((xa.2.2.2.1.length:Int)=1))) (some (false))))):Option Bool).bind fun t7=>cond (!t7) (some (3)) (cond (((decide (16 < (xa.2.2.2.1.length:Int)))||(decide (16 < (xa.2.2.2.2.1.length:Int))))||(decide (16 < (xa.2.2.2.2.2.length:Int)))) (some (6)) (some (0)))
noncomputable def hQ37:Hn Tryz.prog := .pl (.pl (.sq [] ⟨[kdB 3],[]⟩ [] (.tw 6 (.gp 4 (.wt 18 (.gj 3 ⟨[kdB 22],[]⟩ [] (.two 18 (.cl oQ36 [] .nil) .nil) .nil))) (.tw 23 (.gj 3 ⟨[kdB 33],[]⟩ [] (.two 29 (.cl oQ36 [] .nil) .nil) .nil) (.tw 34 (.gp 4 (.wt 46 (.gj 3 ⟨[kdB 50],[]⟩ [] (.two 46 (.cl oQ36 [] .nil) .nil) .nil))) (.tw 51 .nil .nil)))) (.tw 58 .nil (.gp 4 (.wt 69 (.gp 4 (.tw 74 .nil .nil)))))))
noncomputable def sQ37:Spec:=⟨198,⟨[(0,.dat Yq12)],[]⟩,[⟨[kdI 0],[]⟩],fun x=>fn_term_form x⟩
noncomputable def oQ37:OkSpec Tryz.prog:=⟨sQ37,fn_is func198 hQ37 (by kernel_rfl) (by kernel_rfl),call198⟩

noncomputable def fn_term_beyond (xa:Int):Option Int :=
 some (xa)
noncomputable def hQ38:Hn Tryz.prog := .nil
noncomputable def sQ38:Spec:=⟨207,⟨[kdI 0],[]⟩,[⟨[(0,.fn 212 [.ptr 0 0])],[bkN 3 [.dat Yq2]]⟩],fun x=>fn_term_beyond x⟩
noncomputable def oQ38:OkSpec Tryz.prog:=⟨sQ38,fn_is func207 hQ38 (by kernel_rfl) (by kernel_rfl),call207⟩

noncomputable def fn_term_beyond_1_ip0_i (xa:Int) (qa0:Int):Option Bool :=
 some ((decide (xa < 0))||(decide (qa0≤xa)))
noncomputable def hQ39:Hn Tryz.prog := .gp 3 .nil
noncomputable def sQ39:Spec:=⟨212,⟨[kdI 0,(1,.ptr 0 0)],[bkN 3 [.is 1 (.dat Yq2)],bkM]⟩,[⟨[kdB 0],[bkC 0 3 [.is 1 (.any)],bkU 1]⟩],fun x=>fn_term_beyond_1_ip0_i x.1 x.2⟩
noncomputable def oQ39:OkSpec Tryz.prog:=⟨sQ39,fn_is func212 hQ39 (by kernel_rfl) (by kernel_rfl),call212⟩
noncomputable def fn_slices_IndexFunc_int_int_k_term_beyond_1_p0_i_l1 (xa:(List Int)) (qa0:Int):Int→Option (Int⊕(Unit⊕Int)):=fun i1=>cond (decide (i1 < (xa.length:Int))) ((getI xa i1).bind fun x2=>(fn_term_beyond_1_ip0_i x2 qa0).bind fun t3=>cond (t3) (some (.inr ((.inr (i1))))) (some (.inl (IntKind.wrap .i64 (i1 + 1))))) (some (.inr ((.inl ()))))
noncomputable def fn_slices_IndexFunc_int_int_k_term_beyond_1_p0_i (xa:(List Int)) (qa0:Int):Option Int :=
 (loop (fn_slices_IndexFunc_int_int_k_term_beyond_1_p0_i_l1 xa qa0) 0).bind fun o=>match o with | .inr r=>some r | .inl ()=>some ((-1))
noncomputable def hQ40:Hn Tryz.prog := .jx [] ⟨[],[bkC 0 3 [.is 1 (.any)],bkU 1]⟩ [0] (.lp ⟨[kdI 8],[bkC 0 3 [.is 1 (.any)],bkU 1]⟩ (.tw 9 (.cl oQ39 [] (.tw 16 .nil .nil)) .nil)) .nil
noncomputable def sQ40:Spec:=⟨213,⟨[(0,.dat (.sl Yq2)),(1,.fn 212 [.ptr 0 0])],[bkN 3 [.is 1 (.dat Yq2)],bkM]⟩,[⟨[kdI 0],[bkC 0 3 [.is 1 (.any)],bkU 1]⟩],fun x=>fn_slices_IndexFunc_int_int_k_term_beyond_1_p0_i x.1 x.2⟩
noncomputable def oQ40:OkSpec Tryz.prog:=⟨sQ40,fn_is func213 hQ40 (by kernel_rfl) (by kernel_rfl),call213⟩

noncomputable def fn_slices_ContainsFunc_int_int_k_term_beyond_1_p0_i (xa:(List Int)) (qa0:Int):Option Bool :=
 (fn_slices_IndexFunc_int_int_k_term_beyond_1_p0_i xa qa0).bind fun i10=>some (decide (0≤i10))
noncomputable def hQ41:Hn Tryz.prog := .cl oQ40 [] .nil
noncomputable def sQ41:Spec:=⟨208,⟨[(0,.dat (.sl Yq2)),(1,.fn 212 [.ptr 0 0])],[bkN 3 [.is 1 (.dat Yq2)],bkM]⟩,[⟨[kdB 0],[bkC 0 3 [.is 1 (.any)],bkU 1]⟩],fun x=>fn_slices_ContainsFunc_int_int_k_term_beyond_1_p0_i x.1 x.2⟩
noncomputable def oQ41:OkSpec Tryz.prog:=⟨sQ41,fn_is func208 hQ41 (by kernel_rfl) (by kernel_rfl),call208⟩

noncomputable def fn_term_within (xa:Tq8) (xb:Tq25):Option Bool :=
 (fn_term_beyond (xb.2.2.1.length:Int)).bind fun i1=>(fn_term_beyond xb.1).bind fun i2=>(fn_slices_ContainsFunc_int_int_k_term_beyond_1_p0_i xa.2.2.2.1 i2).bind fun t3=>cond (t3) (some (false)) ((fn_slices_ContainsFunc_int_int_k_term_beyond_1_p0_i xa.2.2.2.2.1 i1).bind fun t4=>cond (t4) (some (false)) ((fn_term_beyond xb.2.1).bind fun i5=>(fn_slices_ContainsFunc_int_int_k_term_beyond_1_p0_i xa.2.2.2.2.2 i5).bind fun t6=>cond (t6) (some (false)) (cond (!decide (xa.1=4)) (some (true)) ((fn_term_beyond_1_ip0_i xa.2.2.1 i1).bind fun t7=>cond (!t7) ((fn_term_beyond (xb.2.2.2.2.length:Int)).bind fun i8=>(fn_term_beyond_1_ip0_i xa.2.1 i8).bind fun t9=>some (!t9)) (some (false))))))
noncomputable def hQ42:Hn Tryz.prog := .cl oQ38 [] (.mix [([0,1,2,3],4),([],5),([6,7,8,9],10),([11,12,13,14,15,16],17)] [] [18,19] [4] (.cl oQ38 [] (.mc 6 0 7 (.cl oQ41 [] (.two 16 .nil (.wt 1000011 (.mc 4 0 5 (.cl oQ41 [] (.two 22 .nil (.cl oQ38 [] (.mc 14 0 15 (.cl oQ41 [] (.tw 29 .nil (.mix [([0,1,2,3,4,5,6],7),([8,9,10,11,12,14,15],13)] [] [16,17,18,19,20] [4] (.two 33 .nil (.cl oQ39 [] (.two 39 (.cl oQ38 [] (.mc 21 0 22 (.cl oQ39 [] .nil))) .nil)))))))))))))))))
noncomputable def sQ42:Spec:=⟨199,⟨[(0,.dat Yq12),(1,.dat Yq15)],[]⟩,[⟨[kdB 0],[]⟩],fun x=>fn_term_within x.1 x.2⟩
noncomputable def oQ42:OkSpec Tryz.prog:=⟨sQ42,fn_is func199 hQ42 (by kernel_rfl) (by kernel_rfl),call199⟩
noncomputable def fn_sig_callable_l1 (xa:Tq13) (xc:(List Tq3)):Int→Option (Int⊕(Unit⊕Int)):=fun i1=>cond (decide (i1 < (xa.2.2.1.length:Int))) ((getI xa.2.2.1 i1).bind fun x2=>(getI xc i1).bind fun x3=>(fn_row_Shape x3 x2).bind fun t4=>cond (!t4) (some (.inr ((.inr (8))))) (some (.inl (IntKind.wrap .i64 (i1 + 1))))) (some (.inr ((.inl ()))))
noncomputable def fn_sig_callable (xa:Tq13) (xb:(List Int)) (xc:(List Tq3)) (xd:Tq3):Option Int :=
 (fn_sig_Check (xa.1,xa.2.1,xa.2.2.1,xa.2.2.2)).bind fun i1=>cond (!decide (i1=0)) (some (i1)) (cond ((!decide ((xb.length:Int)=xa.1))||(!decide ((xc.length:Int)=(xa.2.2.1.length:Int)))) (some (2)) ((loop (fn_sig_callable_l1 xa xc) 0).bind fun o=>match o with | .inr r=>some r | .inl ()=>(fn_row_Shape xd xa.2.2.2).bind fun t2=>cond (!t2) (some (8)) (some (0))))
noncomputable def hQ43:Hn Tryz.prog := .cl oQ18 [] (.tw 15 .nil (.gp 6 (.tw 29 .nil (.jx [] ⟨[],[]⟩ [] (.lp ⟨[kdI 33],[]⟩ (.tw 34 (.mix [] [0,1,2,3,4] [5,6] [] (.cl oQ15 [] (.tw 44 .nil .nil))) .nil)) (.cl oQ15 [] (.tw 50 .nil .nil))))))
noncomputable def sQ43:Spec:=⟨209,⟨[(0,.dat Yq11),(1,.dat (.sl Yq2)),(2,.dat (.sl Yq7)),(3,.dat Yq7)],[]⟩,[⟨[kdI 0],[]⟩],fun x=>fn_sig_callable x.1 x.2.1 x.2.2.1 x.2.2.2⟩
noncomputable def oQ43:OkSpec Tryz.prog:=⟨sQ43,fn_is func209 hQ43 (by kernel_rfl) (by kernel_rfl),call209⟩

noncomputable def fn_slices_Clone_api_Slot_api_Slot (xa:Tq3):Option (Tq3) :=
 nilb xa (some ([])) ((app (([]:List Tq26)) xa).bind fun z21=>some (z21))
noncomputable def hQ44:Hn Tryz.prog := .two 4 .nil .nil
noncomputable def sQ44:Spec:=⟨215,⟨[(0,.dat (.sl Yq3))],[]⟩,[⟨[(0,.own 69 Yq3)],[]⟩],fun x=>fn_slices_Clone_api_Slot_api_Slot x⟩
noncomputable def oQ44:OkSpec Tryz.prog:=⟨sQ44,fn_is func215 hQ44 (by kernel_rfl) (by kernel_rfl),call215⟩

noncomputable def fn_row_Clone (xa:Tq3):Option (Tq3) :=
 (fn_slices_Clone_api_Slot_api_Slot xa).bind fun l22=>some (l22)
noncomputable def hQ45:Hn Tryz.prog := .cl oQ44 [] .nil
noncomputable def sQ45:Spec:=⟨214,⟨[(0,.dat Yq7)],[]⟩,[⟨[(0,.agg [.own 69 Yq3])],[]⟩],fun x=>fn_row_Clone x⟩
noncomputable def oQ45:OkSpec Tryz.prog:=⟨sQ45,fn_is func214 hQ45 (by kernel_rfl) (by kernel_rfl),call214⟩
noncomputable def fn_row_Subst_l1 (xb:(List Int)) (l1:Tq3):(Tq3×Int)→Option ((Tq3×Int)⊕Tq3):=fun (l2,i3)=>cond (decide (i3 < (l1.length:Int))) ((getI l2 i3).bind fun x4=>(getI xb x4.1).bind fun x5=>(getI l2 i3).bind fun x6=>(some (l2.set i3.toNat (x5,x6.2))).bind fun z7=>some (.inl ((z7,IntKind.wrap .i64 (i3 + 1))))) (some (.inr (l2)))
noncomputable def fn_row_Subst (xa:Tq3) (xb:(List Int)):Option ((Tq3×Int)) :=
 (fn_row_within xa (xb.length:Int)).bind fun t1=>cond (!t1) (some (([],7))) ((fn_row_Clone xa).bind fun l2=>(loop (fn_row_Subst_l1 xb l2) (l2,0)).bind fun l3=>some ((l3,0)))
noncomputable def hQ46:Hn Tryz.prog := .cl oQ10 [] (.tw 13 .nil (.cl oQ45 [] (.jn [] ⟨[(16,.any),(18,.any)],[bkC 6 26 [.own 69 Yq3]]⟩ [6,4,0] (.lp ⟨[(18,.own 69 Yq3),kdI 20],[bkC 6 26 [.al 0]]⟩ (.tw 21 (.mix [] [0,1,2,3,4,5,6,7,8,9] [10] [] .nil) .nil)) .nil)))
noncomputable def sQ46:Spec:=⟨210,⟨[(0,.dat Yq7),(1,.dat (.sl Yq2))],[]⟩,[⟨[(0,.tup [.agg [.own 69 Yq3],.dat Yq2])],[]⟩],fun x=>fn_row_Subst x.1 x.2⟩
noncomputable def oQ46:OkSpec Tryz.prog:=⟨sQ46,fn_is func210 hQ46 (by kernel_rfl) (by kernel_rfl),call210⟩
noncomputable def fn_sig_Call_l1 (xa:Tq13) (xb:(List Int)):Tq20→Option (Tq20⊕(List Tq5)):=fun (l1,i2)=>cond (decide (i2 < (xa.2.1.length:Int))) ((getI xa.2.1 i2).bind fun x3=>(getI xb x3.1).bind fun x4=>(getI xb x3.2).bind fun x5=>(app l1 (([(x4,x5,4,i2,false)]:List Tq5))).bind fun z6=>some (.inl ((z6,IntKind.wrap .i64 (i2 + 1))))) (some (.inr (l1)))
noncomputable def fn_sig_Call_l2 (xa:Tq13) (xb:(List Int)) (xc:(List Tq3)):Tq20→Option (Tq20⊕(List Tq5)):=fun (l1,i2)=>cond (decide (i2 < (xa.2.2.1.length:Int))) ((getI xa.2.2.1 i2).bind fun x3=>(fn_row_Subst x3 xb).bind fun (l4,i5)=>(getI xc i2).bind fun x6=>(fn_relate_Flow x6 l4 5 (IntKind.wrap .i64 (16 * i2))).bind fun (l7,i8)=>(app l1 l7).bind fun z9=>some (.inl ((z9,IntKind.wrap .i64 (i2 + 1))))) (some (.inr (l1)))
noncomputable def fn_sig_Call (xa:Tq13) (xb:(List Int)) (xc:(List Tq3)) (xd:Tq3):Option (Tq20) :=
 (fn_sig_callable (xa.1,xa.2.1,xa.2.2.1,xa.2.2.2) xb xc xd).bind fun i1=>cond (!decide (i1=0)) (some (([],i1))) ((loop (fn_sig_Call_l1 xa xb) ([],0)).bind fun l2=>(loop (fn_sig_Call_l2 xa xb xc) (l2,0)).bind fun l3=>(fn_row_Subst xa.2.2.2 xb).bind fun (l4,i5)=>(fn_relate_Flow l4 xd 6 0).bind fun (l6,i7)=>(app l3 l6).bind fun z8=>some ((z8,0)))
noncomputable def hQ47:Hn Tryz.prog := .cl oQ43 [] (.tw 30 .nil (.jn [] ⟨[(11,.own 247 Yq6)],[]⟩ [] (.lp ⟨[(11,.own 247 Yq6),kdI 35],[]⟩ (.tw 36 (.mix [([0,1,2,3,4,5,6,7,8,9,10,11,12],13)] [] [14,15] [] .nil) .nil)) (.jn [] ⟨[(11,.own 247 Yq6)],[]⟩ [4] (.lp ⟨[(11,.own 247 Yq6),kdI 59],[]⟩ (.tw 60 (.cl oQ46 [] (.per 11 12 (.mix [([0,1,2,3,4,5,6],7)] [8,9,10,11,12] [] [] (.cl oQ26 [] .nil)))) .nil)) (.cl oQ46 [] (.per 8 9 (.cl oQ26 [] .nil))))))
noncomputable def sQ47:Spec:=⟨200,⟨[(0,.dat Yq11),(1,.dat (.sl Yq2)),(2,.dat (.sl Yq7)),(3,.dat Yq7)],[]⟩,[⟨[(0,.tup [.own 247 Yq6,.dat Yq2])],[]⟩],fun x=>fn_sig_Call x.1 x.2.1 x.2.2.1 x.2.2.2⟩
noncomputable def oQ47:OkSpec Tryz.prog:=⟨sQ47,fn_is func200 hQ47 (by kernel_rfl) (by kernel_rfl),call200⟩
noncomputable def fn_term_Needs_l1 (xa:Tq8) (xb:Tq25):((List Tq3)×Int)→Option (((List Tq3)×Int)⊕(List Tq3)):=fun (l1,i2)=>cond (decide (i2 < (xa.2.2.2.2.1.length:Int))) ((getI xa.2.2.2.2.1 i2).bind fun x3=>(getI xb.2.2.1 x3).bind fun x4=>(app l1 (([x4]:List Tq3))).bind fun z5=>some (.inl ((z5,IntKind.wrap .i64 (i2 + 1))))) (some (.inr (l1)))
noncomputable def fn_term_Needs (xa:Tq8) (xb:Tq25):Option (Tq20) :=
 (fn_term_form (xa.1,xa.2.1,xa.2.2.1,xa.2.2.2.1,xa.2.2.2.2.1,xa.2.2.2.2.2)).bind fun i1=>cond (!decide (i1=0)) (some (([],i1))) ((fn_term_within (xa.1,xa.2.1,xa.2.2.1,xa.2.2.2.1,xa.2.2.2.2.1,xa.2.2.2.2.2) (xb.1,xb.2.1,xb.2.2.1,xb.2.2.2.1,xb.2.2.2.2)).bind fun t2=>cond (!t2) (some (([],7))) (cond (decide (xa.1=3)) (cond (decide ((xb.2.2.1.length:Int)=0)) (some (([],14))) ((getI xb.2.2.1 0).bind fun x3=>(fn_relate_Flow x3 xb.2.2.2.1 7 0).bind fun (l4,i5)=>some ((l4,i5)))) (cond (decide (xa.1=4)) ((loop (fn_term_Needs_l1 xa xb) ([],0)).bind fun l6=>(getI xb.2.2.2.2 xa.2.1).bind fun x7=>(getI xb.2.2.1 xa.2.2.1).bind fun x8=>(fn_sig_Call (x7.1,x7.2.1,x7.2.2.1,x7.2.2.2) xa.2.2.2.2.2 l6 x8).bind fun (l9,i10)=>some ((l9,i10))) (some (([],0))))))
noncomputable def hQ48:Hn Tryz.prog := .cl oQ37 [] (.tw 13 .nil (.cl oQ42 [] (.tw 18 .nil (.tw 21 (.tw 26 .nil (.mix [([0,1,2,3,4,5],6)] [7,8,9,10] [] [] (.cl oQ26 [] .nil))) (.tw 36 (.jn [] ⟨[(7,.own 26 Yq7)],[]⟩ [] (.lp ⟨[(7,.own 26 Yq7),kdI 41],[]⟩ (.tw 42 .nil .nil)) (.mix [([0,1,2,3,4,5,6,7,8,9,10,11,12,13,14],15)] [16,17,18,19] [] [4] (.per 4 5 (.cl oQ47 [] .nil)))) .nil)))))
noncomputable def sQ48:Spec:=⟨191,⟨[(0,.dat Yq12),(1,.dat Yq15)],[]⟩,[⟨[(0,.tup [.own 247 Yq6,.dat Yq2])],[]⟩],fun x=>fn_term_Needs x.1 x.2⟩
noncomputable def oQ48:OkSpec Tryz.prog:=⟨sQ48,fn_is func191 hQ48 (by kernel_rfl) (by kernel_rfl),call191⟩

noncomputable def fn_term_Check (xa:Tq8) (xb:Tq25):Option Int :=
 (fn_term_Needs (xa.1,xa.2.1,xa.2.2.1,xa.2.2.2.1,xa.2.2.2.2.1,xa.2.2.2.2.2) (xb.1,xb.2.1,xb.2.2.1,xb.2.2.2.1,xb.2.2.2.2)).bind fun (l19,i20)=>some (i20)
noncomputable def hQ49:Hn Tryz.prog := .cl oQ48 [] .nil
noncomputable def sQ49:Spec:=⟨179,⟨[(0,.dat Yq12),(1,.dat Yq15)],[]⟩,[⟨[kdI 0],[]⟩],fun x=>fn_term_Check x.1 x.2⟩
noncomputable def oQ49:OkSpec Tryz.prog:=⟨sQ49,fn_is func179 hQ49 (by kernel_rfl) (by kernel_rfl),call179⟩
noncomputable def fn_valid_code_az_l1 (xa:Tq1) (i1:Int) (x2:((List Tq5)×Tq8)):Int→Option (Int⊕(Unit⊕(Int⊕(Unit⊕Tq9)))):=fun i3=>cond (decide (i3 < (x2.1.length:Int))) ((getI x2.1 i3).bind fun x4=>(fn_tick_Counter_Add_zii 1 1).bind fun _=>(fn_stmt_Check (x4.1,x4.2.1,x4.2.2.1,x4.2.2.2.1,x4.2.2.2.2) xa.2.2.2.1 xa.2.1).bind fun i5=>cond (!decide (i5=0)) (some (.inr ((.inr (.inr ((.inr ((i5,6,i1,i3))))))))) (some (.inl (IntKind.wrap .i64 (i3 + 1))))) (some (.inr ((.inl ()))))
noncomputable def fn_valid_code_az_l2 (xa:Tq1):Int→Option (Int⊕(Unit⊕Tq9)):=fun i1=>cond (decide (i1 < (xa.2.2.2.2.2.2.length:Int))) ((getI xa.2.2.2.2.2.2 i1).bind fun x2=>(loop (fn_valid_code_az_l1 xa i1 x2) 0).bind fun o=>match o with | .inr r=>some r | .inl ()=>(fn_tick_Counter_Add_zii 1 1).bind fun _=>(fn_term_Check (x2.2.1,x2.2.2.1,x2.2.2.2.1,x2.2.2.2.2.1,x2.2.2.2.2.2.1,x2.2.2.2.2.2.2) (((xa.2.2.2.2.2.2.length:Int),xa.2.1,xa.2.2.2.1,xa.2.2.2.2.1,xa.2.2.2.2.2.1))).bind fun i3=>cond (!decide (i3=0)) (some (.inr ((.inr ((i3,7,i1,0)))))) (some (.inl (IntKind.wrap .i64 (i1 + 1))))) (some (.inr ((.inl ()))))
noncomputable def fn_valid_code_az (xa:Tq1):Option Tq9 :=
 (loop (fn_valid_code_az_l2 xa) 0).bind fun o=>match o with | .inr r=>some r | .inl ()=>some ((0,0,0,0))
noncomputable def hQ50:Hn Tryz.prog := .jx [] ⟨[],[bkC 2 160 [.lit (.int .i64 0),.lit (.int .i64 0),.lit (.int .i64 0),.lit (.int .i64 0)]]⟩ [2] (.lp ⟨[kdI 27],[bkC 2 160 [.lit (.int .i64 0),.lit (.int .i64 0),.lit (.int .i64 0),.lit (.int .i64 0)]]⟩ (.tw 28 (.pl (.pl (.jx [] ⟨[],[bkC 2 160 [.lit (.int .i64 0),.lit (.int .i64 0),.lit (.int .i64 0),.lit (.int .i64 0)]]⟩ [2] (.lp ⟨[kdI 35],[bkC 2 160 [.lit (.int .i64 0),.lit (.int .i64 0),.lit (.int .i64 0),.lit (.int .i64 0)]]⟩ (.tw 36 (.cl oQ3 [] (.cl oQ35 [] (.tw 49 .nil .nil))) .nil)) (.cl oQ3 [] (.cl oQ49 [] (.tw 62 .nil .nil)))))) .nil)) .nil
noncomputable def sQ50:Spec:=⟨147,⟨[(0,.dat Yq1),(1,.nilp)],[]⟩,[⟨[(0,.agg [.dat Yq2,.dat Yq2,.dat Yq2,.dat Yq2])],[]⟩],fun x=>fn_valid_code_az x⟩
noncomputable def oQ50:OkSpec Tryz.prog:=⟨sQ50,fn_is func147 hQ50 (by kernel_rfl) (by kernel_rfl),call147⟩

noncomputable def fn_valid_Check_az (xa:Tq1):Option Tq9 :=
 (fn_tick_Counter_Add_zii 1 1).bind fun _=>(fn_valid_head_az xa).bind fun (i1,i2,i3,i4)=>cond (!decide (i1=0)) (some ((i1,i2,i3,i4))) ((fn_valid_bounds_az xa).bind fun (i5,i6,i7,i8)=>cond (!decide (i5=0)) (some ((i5,i6,i7,i8))) ((fn_valid_locals_az xa).bind fun (i9,i10,i11,i12)=>cond (!decide (i9=0)) (some ((i9,i10,i11,i12))) ((fn_valid_ret_az xa).bind fun (i13,i14,i15,i16)=>cond (!decide (i13=0)) (some ((i13,i14,i15,i16))) ((fn_valid_sigs_az xa).bind fun (i17,i18,i19,i20)=>cond (!decide (i17=0)) (some ((i17,i18,i19,i20))) ((fn_valid_blocks_az xa).bind fun (i21,i22,i23,i24)=>cond (!decide (i21=0)) (some ((i21,i22,i23,i24))) ((fn_valid_code_az xa).bind fun (i25,i26,i27,i28)=>cond (!decide (i25=0)) (some ((i25,i26,i27,i28))) (some ((0,0,0,0)))))))))
noncomputable def hQ51:Hn Tryz.prog := .cl oQ3 [] (.un 64 (.cl oQ4 [] (.tw 24 .nil (.cl oQ6 [] (.tw 24 .nil (.cl oQ12 [] (.tw 24 .nil (.cl oQ16 [] (.tw 24 .nil (.cl oQ19 [] (.tw 24 .nil (.cl oQ20 [] (.tw 24 .nil (.cl oQ50 [] (.tw 24 .nil .nil)))))))))))))))
noncomputable def sQ51:Spec:=⟨101,⟨[(0,.dat Yq1),(1,.nilp)],[]⟩,[⟨[(0,.agg [.dat Yq2,.dat Yq2,.dat Yq2,.dat Yq2])],[]⟩],fun x=>fn_valid_Check_az x⟩
noncomputable def oQ51:OkSpec Tryz.prog:=⟨sQ51,fn_is func101 hQ51 (by kernel_rfl) (by kernel_rfl),call101⟩

noncomputable def fn_valid_OK (xa:Tq1):Option Bool :=
 (fn_valid_Check_az xa).bind fun (i15,i17,i18,i19)=>some (decide (i15=0))
noncomputable def hQ52:Hn Tryz.prog := .cl oQ51 [] .nil
noncomputable def sQ52:Spec:=⟨65,⟨[(0,.dat Yq1)],[]⟩,[⟨[kdB 0],[]⟩],fun x=>fn_valid_OK x⟩
noncomputable def oQ52:OkSpec Tryz.prog:=⟨sQ52,fn_is func65 hQ52 (by kernel_rfl) (by kernel_rfl),call65⟩
noncomputable def fn_point_New_l1 (xa:Tq1):(Int×(List Int)×Int)→Option ((Int×(List Int)×Int)⊕Tq17):=fun (i1,l2,i3)=>cond (decide (i1 < (xa.2.2.2.2.2.2.length:Int))) ((getI xa.2.2.2.2.2.2 i1).bind fun x4=>(app l2 ([i3]:List Int)).bind fun z5=>some (.inl ((IntKind.wrap .i64 (i1 + 1),z5,IntKind.wrap .i64 (i3 + (IntKind.wrap .i64 ((x4.1.length:Int) + 1))))))) (some (.inr (((l2,i3)))))
noncomputable def fn_point_New (xa:Tq1):Option ((Option Tq17)) :=
 (fn_valid_OK xa).bind fun t1=>cond (!t1) (some ((some ([],0)))) ((loop (fn_point_New_l1 xa) (0,[],0)).bind fun (l2,i3)=>some ((some (l2,i3))))
noncomputable def hQ53:Hn Tryz.prog := .cl oQ52 [] (.tw 10 (.perb 2 3 (.cons (.sl Yq2) (.one Yq2)) .nil) (.jn [] ⟨[],[bkC 2 110 [.own 3 Yq2,.dat Yq2]]⟩ [2,0] (.lp ⟨[kdI 15],[bkC 2 110 [.own 3 Yq2,.dat Yq2]]⟩ (.tw 16 (.mix [([0,1,2,3,4,5,6,7,8],9),([],10)] [11,12] [13] [4] (.mix [] [0,1,2,3,4,5,6,7,8,9,10] [11] [] .nil)) .nil)) (.per 4 5 (.perb 2 6 (.cons (.sl Yq2) (.one Yq2)) .nil))))
noncomputable def sQ53:Spec:=⟨36,⟨[(0,.dat Yq1)],[]⟩,[⟨[(0,.dat Yq13)],[]⟩],fun x=>fn_point_New x⟩
noncomputable def oQ53:OkSpec Tryz.prog:=⟨sQ53,fn_is func36 hQ53 (by kernel_rfl) (by kernel_rfl),call36⟩

noncomputable def fn_point_Points_Len (xa:(Option Tq17)):Option Int :=
 cond (xa.isNone) (some (0)) (xa.bind fun y11=>some (y11.2))
noncomputable def hQ54:Hn Tryz.prog := .tw 4 .nil .nil
noncomputable def sQ54:Spec:=⟨37,⟨[(0,.dat Yq13)],[]⟩,[⟨[kdI 0],[]⟩],fun x=>fn_point_Points_Len x⟩
noncomputable def oQ54:OkSpec Tryz.prog:=⟨sQ54,fn_is func37 hQ54 (by kernel_rfl) (by kernel_rfl),call37⟩

noncomputable def fn_touch_byStmt (xa:Tq5):Option (Tq4) :=
 (cond (decide (xa.1=1)) (some (decide (xa.1=1))) (cond (decide (xa.1=2)) (some (decide (xa.1=2))) (some (decide (xa.1=3)))):Option Bool).bind fun t37=>cond (t37) (some ((([xa.2.2.1]:List Int),([xa.2.1]:List Int)))) (cond (decide (xa.1=4)) (some ((([xa.2.2.1]:List Int),[]))) (cond (decide (xa.1=5)) (some (([],([xa.2.1]:List Int)))) (some (([],[])))))
noncomputable def hQ55:Hn Tryz.prog := .pl (.pl (.pl (.sq [] ⟨[kdB 5],[]⟩ [] (.tw 5 .nil (.tw 5 .nil .nil)) (.tw 5 .nil (.tw 16 .nil (.tw 22 .nil .nil))))))
noncomputable def sQ55:Spec:=⟨75,⟨[(0,.dat Yq6)],[]⟩,[⟨[(0,.agg [.own 3 Yq2,.own 3 Yq2])],[]⟩],fun x=>fn_touch_byStmt x⟩
noncomputable def oQ55:OkSpec Tryz.prog:=⟨sQ55,fn_is func75 hQ55 (by kernel_rfl) (by kernel_rfl),call75⟩
noncomputable def fn_touch_Touches_add_p0arr_nod_l1 (l1:List Int):(Int×(List Tq4))→Option ((Int×(List Tq4))⊕(List Tq4)):=fun (i2,l3)=>cond (decide (i2 < (l1.length:Int))) ((getI l1 i2).bind fun x4=>(getI l3 x4).bind fun x5=>(getI l3 x4).bind fun _=>(chkI x4 x4).bind fun _=>(app x5.1 ([0]:List Int)).bind fun z6=>(getI l3 x4).bind fun _=>(chkI x4 x4).bind fun _=>some (.inl ((IntKind.wrap .i64 (i2 + 1),l3.set x4.toNat (z6,x5.2))))) (some (.inr (l3)))
noncomputable def fn_touch_Touches_add_p0arr_rod_l1 (qa0:(List Tq4)) (l1:List Int):(Int×(List Tq4))→Option ((Int×(List Tq4))⊕(List Tq4)):=fun (i2,l3)=>cond (decide (i2 < (l1.length:Int))) ((getI l1 i2).bind fun x4=>(getI l3 x4).bind fun x5=>(getI l3 x4).bind fun _=>(chkI x4 x4).bind fun _=>(app x5.1 (([(qa0.length:Int)]:List Int))).bind fun z6=>(getI l3 x4).bind fun _=>(chkI x4 x4).bind fun _=>some (.inl ((IntKind.wrap .i64 (i2 + 1),l3.set x4.toNat (z6,x5.2))))) (some (.inr (l3)))
noncomputable def fn_touch_Touches_add_p0arr_rod_l2 (qxb_1:(List Int)) (qa0:(List Tq4)):(Int×(List Tq4))→Option ((Int×(List Tq4))⊕(List Tq4)):=fun (i1,l2)=>cond (decide (i1 < (qxb_1.length:Int))) ((getI qxb_1 i1).bind fun x3=>(getI l2 x3).bind fun x4=>(getI l2 x3).bind fun _=>(chkI x3 x3).bind fun _=>(app x4.2 (([(qa0.length:Int)]:List Int))).bind fun z5=>(getI l2 x3).bind fun _=>(chkI x3 x3).bind fun _=>some (.inl ((IntKind.wrap .i64 (i1 + 1),l2.set x3.toNat (x4.1,z5))))) (some (.inr (l2)))
noncomputable def fn_touch_Touches_add_p0arr_rod (qxb_0:(List Int)) (qxb_1:(List Int)) (qa0:(List Tq4)) (qa1:(List Tq4)):Option (Tq24) :=
 (srt qxb_0).bind fun l2=>(cmpt l2).bind fun l3=>(app qa0 (([(l3,qxb_1)]:List Tq4))).bind fun z4=>(loop (fn_touch_Touches_add_p0arr_rod_l1 qa0 l3) (0,qa1)).bind fun l5=>(loop (fn_touch_Touches_add_p0arr_rod_l2 qxb_1 qa0) (0,l5)).bind fun l6=>some ((z4,l6))
noncomputable def hQ56:Hn Tryz.prog := .cl ok_Sort [] (.cl ok_Compact [] (.per 16 17 (.per 3 4 (.mix [([0,1,2,3,4,5],6),([],7)] [8,9] [10] [5] (.jn [] ⟨[],[bkO 7 (.row 142 (.cons (.row 3 (.dat Yq2)) (.one (.row 3 (.dat Yq2)))))]⟩ [7] (.lp ⟨[kdI 34],[bkO 7 (.row 142 (.cons (.row 3 (.dat Yq2)) (.one (.row 3 (.dat Yq2)))))]⟩ (.tw 35 (.opp [9] 7 47 (.mix [([0,1,2,3,4,5,6,7,8,9,10,11,12,13],14),([],15)] [16,17] [18] [26] (.cls 7 34 .nil))) .nil)) (.jn [] ⟨[],[bkO 7 (.row 142 (.cons (.row 3 (.dat Yq2)) (.one (.row 3 (.dat Yq2)))))]⟩ [10,7] (.lp ⟨[kdI 60],[bkO 7 (.row 142 (.cons (.row 3 (.dat Yq2)) (.one (.row 3 (.dat Yq2)))))]⟩ (.tw 61 (.opp [9] 7 73 (.mix [([0,1,2,3,4,5,6,7,8,9,10,11,12,13],14),([],15)] [16,17] [18] [29] (.cls 7 35 .nil))) .nil)) .nil))))))
noncomputable def sQ56:Spec:=⟨74,⟨[(0,.ptr 0 0),(1,.agg [.own 3 Yq2,.own 3 Yq2])],[bkN 124 [.own 127 Yq5,.od (.row 142 (.cons (.row 3 (.dat Yq2)) (.one (.row 3 (.dat Yq2)))))]]⟩,[⟨[],[bkC 0 124 [.own 127 Yq5,.od (.row 142 (.cons (.row 3 (.dat Yq2)) (.one (.row 3 (.dat Yq2)))))]]⟩],fun x=>fn_touch_Touches_add_p0arr_rod x.1 x.2.1 x.2.2.1 x.2.2.2⟩
noncomputable def oQ56:OkSpec Tryz.prog:=⟨sQ56,fn_is func74 hQ56 (by kernel_rfl) (by kernel_rfl),call74⟩

noncomputable def fn_slices_Clone_int_int (xa:(List Int)):Option (List Int) :=
 nilb xa (some ([])) ((app ([]:List Int) xa).bind fun z21=>some (z21))
noncomputable def hQ57:Hn Tryz.prog := .two 4 .nil .nil
noncomputable def sQ57:Spec:=⟨83,⟨[(0,.dat (.sl Yq2))],[]⟩,[⟨[(0,.own 3 Yq2)],[]⟩],fun x=>fn_slices_Clone_int_int x⟩
noncomputable def oQ57:OkSpec Tryz.prog:=⟨sQ57,fn_is func83 hQ57 (by kernel_rfl) (by kernel_rfl),call83⟩

noncomputable def fn_touch_byTerm (xa:Tq8):Option (Tq4) :=
 cond (decide (xa.1=2)) ((fn_slices_Clone_int_int xa.2.2.2.2.1).bind fun l1=>some ((l1,[]))) (cond (decide (xa.1=4)) ((((fn_slices_Clone_int_int xa.2.2.2.2.1).bind fun l2=>some ((l2,([xa.2.2.1]:List Int)))).bind fun x3=>((fn_slices_Clone_int_int xa.2.2.2.2.1).bind fun l4=>some ((l4,([xa.2.2.1]:List Int)))).bind fun y5=>agr x3 y5 (some x3):Option (Tq4)).bind fun (l6,l7)=>some ((l6,l7))) (cond (decide (xa.1=3)) (some ((([0]:List Int),[]))) (some (([],[])))))
noncomputable def hQ58:Hn Tryz.prog := .tw 5 (.cl oQ57 [] .nil) (.tw 11 (.tr (.still [0,1,3,4] (.alt 2 (.alt 5 (.still [6] (.alt 7 (.leaf []) .done)) .done) (.alt 5 (.alt 2 (.still [6] (.alt 7 (.leaf []) .done)) .done) .done))) ⟨[],[bkC 2 127 [.own 3 Yq2,.own 3 Yq2]]⟩ [2] (.two 0 (.cl oQ57 [] .nil) (.cl oQ57 [] .nil)) .nil) (.tw 20 .nil .nil))
noncomputable def sQ58:Spec:=⟨76,⟨[(0,.dat Yq12)],[]⟩,[⟨[(0,.agg [.own 3 Yq2,.own 3 Yq2])],[]⟩],fun x=>fn_touch_byTerm x⟩
noncomputable def oQ58:OkSpec Tryz.prog:=⟨sQ58,fn_is func76 hQ58 (by kernel_rfl) (by kernel_rfl),call76⟩
noncomputable def fn_touch_New_l1 (x1:((List Tq5)×Tq8)):(Int×(List Tq4)×(List Tq4))→Option ((Int×(List Tq4)×(List Tq4))⊕Tq24):=fun (i2,l3,l4)=>cond (decide (i2 < (x1.1.length:Int))) ((getI x1.1 i2).bind fun x5=>(fn_touch_byStmt (x5.1,x5.2.1,x5.2.2.1,x5.2.2.2.1,x5.2.2.2.2)).bind fun (l6,l7)=>(fn_touch_Touches_add_p0arr_rod l6 l7 l3 l4).bind fun (l8,l9)=>some (.inl ((IntKind.wrap .i64 (i2 + 1),l8,l9)))) (some (.inr (((l3,l4)))))
noncomputable def fn_touch_New_l2 (xa:Tq1):(Int×(List Tq4)×(List Tq4))→Option ((Int×(List Tq4)×(List Tq4))⊕Tq24):=fun (i1,l2,l3)=>cond (decide (i1 < (xa.2.2.2.2.2.2.length:Int))) ((getI xa.2.2.2.2.2.2 i1).bind fun x4=>(loop (fn_touch_New_l1 x4) (0,l2,l3)).bind fun (l5,l6)=>(fn_touch_byTerm (x4.2.1,x4.2.2.1,x4.2.2.2.1,x4.2.2.2.2.1,x4.2.2.2.2.2.1,x4.2.2.2.2.2.2)).bind fun (l7,l8)=>(fn_touch_Touches_add_p0arr_rod l7 l8 l5 l6).bind fun (l9,l10)=>some (.inl ((IntKind.wrap .i64 (i1 + 1),l9,l10)))) (some (.inr (((l2,l3)))))
noncomputable def fn_touch_New (xa:Tq1):Option ((Option Tq24)) :=
 (fn_point_New xa).bind fun p1=>(fn_point_Points_Len p1).bind fun i2=>cond (decide (i2=0)) (some ((some ([],[])))) ((mk (xa.2.2.2.1.length:Int) (xa.2.2.2.1.length:Int) ([],[]):Option (List Tq4)).bind fun z3=>(loop (fn_touch_New_l2 xa) (0,[],z3)).bind fun (l4,l5)=>some ((some (l4,l5))))
noncomputable def hQ59:Hn Tryz.prog := .cl oQ53 [] (.cl oQ54 [] (.tw 13 (.perb 2 3 (.cons (.sl Yq5) (.one (.sl Yq5))) .nil) (.ot (.cons (.row 3 (.dat Yq2)) (.one (.row 3 (.dat Yq2)))) (.jn [] ⟨[],[bkC 2 124 [.own 127 Yq5,.od (.row 142 (.cons (.row 3 (.dat Yq2)) (.one (.row 3 (.dat Yq2)))))]]⟩ [2,4,0] (.lp ⟨[kdI 25],[bkC 2 124 [.own 127 Yq5,.od (.row 142 (.cons (.row 3 (.dat Yq2)) (.one (.row 3 (.dat Yq2)))))]]⟩ (.tw 26 (.pl (.pl (.jn [] ⟨[],[bkC 2 124 [.own 127 Yq5,.od (.row 142 (.cons (.row 3 (.dat Yq2)) (.one (.row 3 (.dat Yq2)))))]]⟩ [2,7,9] (.lp ⟨[kdI 32],[bkC 2 124 [.own 127 Yq5,.od (.row 142 (.cons (.row 3 (.dat Yq2)) (.one (.row 3 (.dat Yq2)))))]]⟩ (.tw 33 (.cl oQ55 [] (.cl oQ56 [] .nil)) .nil)) (.cl oQ58 [] (.cl oQ56 [] .nil))))) .nil)) (.per 7 8 (.per 9 10 (.perb 2 11 (.cons (.sl Yq5) (.one (.sl Yq5))) .nil)))))))
noncomputable def sQ59:Spec:=⟨47,⟨[(0,.dat Yq1)],[]⟩,[⟨[(0,.dat (.ptr (.cons (.sl Yq5) (.one (.sl Yq5)))))],[]⟩],fun x=>fn_touch_New x⟩
noncomputable def oQ59:OkSpec Tryz.prog:=⟨sQ59,fn_is func47 hQ59 (by kernel_rfl) (by kernel_rfl),call47⟩

noncomputable def fn_touch_Touches_Len (xa:(Option Tq24)):Option Int :=
 cond (xa.isNone) (some (0)) (xa.bind fun y14=>some (y14.1.length:Int))
noncomputable def hQ60:Hn Tryz.prog := .tw 4 .nil .nil
noncomputable def sQ60:Spec:=⟨48,⟨[(0,.dat (.ptr (.cons (.sl Yq5) (.one (.sl Yq5)))))],[]⟩,[⟨[kdI 0],[]⟩],fun x=>fn_touch_Touches_Len x⟩
noncomputable def oQ60:OkSpec Tryz.prog:=⟨sQ60,fn_is func48 hQ60 (by kernel_rfl) (by kernel_rfl),call48⟩

noncomputable def fn_point_Points_Begins (xa:(Option Tq17)):Option (List Int) :=
 cond (xa.isNone) (some ([])) (xa.bind fun y29=>(fn_slices_Clone_int_int y29.1).bind fun l41=>some (l41))
noncomputable def hQ61:Hn Tryz.prog := .tw 4 .nil (.cl oQ57 [] .nil)
noncomputable def sQ61:Spec:=⟨78,⟨[(0,.dat Yq13)],[]⟩,[⟨[(0,.own 3 Yq2)],[]⟩],fun x=>fn_point_Points_Begins x⟩
noncomputable def oQ61:OkSpec Tryz.prog:=⟨sQ61,fn_is func78 hQ61 (by kernel_rfl) (by kernel_rfl),call78⟩

noncomputable def fn_point_Points_At_1_ip0p1_kp_i (xa:Int) (qa0:(Option Tq17)) (qb0:Int):Option Bool :=
 qa0.bind fun y1=>(getI y1.1 xa).bind fun x2=>some (decide (qb0 < x2))
noncomputable def hQ62:Hn Tryz.prog := .mix [] [0,1,2,3,4,5,6,7,8,9] [] [] .nil
noncomputable def sQ62:Spec:=⟨109,⟨[kdI 0,(1,.ptr 0 0),(2,.ptr 1 0)],[bkN 79 [.is 2 (.dat Yq13)],bkN 3 [.is 3 (.dat Yq2)],bkM,bkM]⟩,[⟨[kdB 0],[bkC 0 79 [.is 2 (.any)],bkC 1 3 [.is 3 (.any)],bkU 2,bkU 3]⟩],fun x=>fn_point_Points_At_1_ip0p1_kp_i x.1 x.2.1 x.2.2⟩
noncomputable def oQ62:OkSpec Tryz.prog:=⟨sQ62,fn_is func109 hQ62 (by kernel_rfl) (by kernel_rfl),call109⟩
noncomputable def fn_sort_Search_i_point_Points_At_1_p0p1_kp_i_l1 (qa0:(Option Tq17)) (qb0:Int):Tq23→Option (Tq23⊕Int):=fun (i1,i2)=>cond (decide (i1 < i2)) ((fn_point_Points_At_1_ip0p1_kp_i (IntKind.wrap .i64 (Int.fdiv (IntKind.wrap .u64 (IntKind.wrap .i64 (i1 + i2))) (2 ^ (min (Int.toNat 1) (IntKind.bits .u64))))) qa0 qb0).bind fun t3=>cond (!t3) (some (.inl ((IntKind.wrap .i64 ((IntKind.wrap .i64 (Int.fdiv (IntKind.wrap .u64 (IntKind.wrap .i64 (i1 + i2))) (2 ^ (min (Int.toNat 1) (IntKind.bits .u64))))) + 1),i2)))) (some (.inl ((i1,IntKind.wrap .i64 (Int.fdiv (IntKind.wrap .u64 (IntKind.wrap .i64 (i1 + i2))) (2 ^ (min (Int.toNat 1) (IntKind.bits .u64))))))))) (some (.inr (i1)))
noncomputable def fn_sort_Search_i_point_Points_At_1_p0p1_kp_i (xa:Int) (qa0:(Option Tq17)) (qb0:Int):Option Int :=
 (loop (fn_sort_Search_i_point_Points_At_1_p0p1_kp_i_l1 qa0 qb0) (0,xa)).bind fun i97=>some (i97)
noncomputable def hQ63:Hn Tryz.prog := .jn [] ⟨[kdI 5],[bkC 0 79 [.is 2 (.any)],bkC 1 3 [.is 3 (.any)],bkU 2,bkU 3]⟩ [0,1] (.lp ⟨[kdI 5,kdI 6],[bkC 0 79 [.is 2 (.any)],bkC 1 3 [.is 3 (.any)],bkU 2,bkU 3]⟩ (.tw 11 (.cl oQ62 [] (.tw 21 .nil .nil)) .nil)) .nil
noncomputable def sQ63:Spec:=⟨108,⟨[kdI 0,(1,.fn 109 [.ptr 0 0,.ptr 1 0])],[bkN 79 [.is 2 (.dat Yq13)],bkN 3 [.is 3 (.dat Yq2)],bkM,bkM]⟩,[⟨[kdI 0],[bkC 0 79 [.is 2 (.any)],bkC 1 3 [.is 3 (.any)],bkU 2,bkU 3]⟩],fun x=>fn_sort_Search_i_point_Points_At_1_p0p1_kp_i x.1 x.2.1 x.2.2⟩
noncomputable def oQ63:OkSpec Tryz.prog:=⟨sQ63,fn_is func108 hQ63 (by kernel_rfl) (by kernel_rfl),call108⟩

noncomputable def fn_point_Points_At (xa:(Option Tq17)) (xb:Int):Option (Int×Int×Bool) :=
 cond (decide (xb < 0)) (some ((0,0,false))) ((fn_point_Points_Len xa).bind fun i1=>cond (decide (i1≤xb)) (some ((0,0,false))) (xa.bind fun y2=>(fn_sort_Search_i_point_Points_At_1_p0p1_kp_i (y2.1.length:Int) (some y2) xb).bind fun i3=>(getI y2.1 (IntKind.wrap .i64 (i3 - 1))).bind fun x4=>some ((IntKind.wrap .i64 (i3 - 1),IntKind.wrap .i64 (xb - x4),true))))
noncomputable def hQ64:Hn Tryz.prog := .mix [([0,1,2,3,4],5)] [6,7] [] [] (.two 10 .nil (.cl oQ54 [] (.tw 15 .nil (.wt 1000004 (.mc 0 0 1 (.mc 2 0 3 (.cl oQ63 [] (.mix [] [0,1,2,3,4,5,6,7,8,9,10,11,12] [] [] .nil))))))))
noncomputable def sQ64:Spec:=⟨79,⟨[(0,.dat Yq13),kdI 1],[]⟩,[⟨[(0,.tup [.dat Yq2,.dat Yq2,.dat .bool])],[]⟩],fun x=>fn_point_Points_At x.1 x.2⟩
noncomputable def oQ64:OkSpec Tryz.prog:=⟨sQ64,fn_is func79 hQ64 (by kernel_rfl) (by kernel_rfl),call79⟩

noncomputable def fn_point_Points_end (xa:(Option Tq17)) (xb:Int):Option Int :=
 xa.bind fun y26=>cond (decide ((IntKind.wrap .i64 (xb + 1)) < (y26.1.length:Int))) ((getI y26.1 (IntKind.wrap .i64 (xb + 1))).bind fun x41=>some (x41)) (some (y26.2))
noncomputable def hQ65:Hn Tryz.prog := .ms 0 (.tw 12 .nil .nil)
noncomputable def sQ65:Spec:=⟨110,⟨[(0,.dat Yq13),kdI 1],[]⟩,[⟨[kdI 0],[]⟩],fun x=>fn_point_Points_end x.1 x.2⟩
noncomputable def oQ65:OkSpec Tryz.prog:=⟨sQ65,fn_is func110 hQ65 (by kernel_rfl) (by kernel_rfl),call110⟩

noncomputable def fn_point_Points_Ends (xa:(Option Tq17)) (xb:Int):Option Bool :=
 (fn_point_Points_At xa xb).bind fun (i27,i28,t29)=>(cond (t29) ((fn_point_Points_end xa i27).bind fun i44=>some (decide ((IntKind.wrap .i64 (xb + 1))=i44))) (some (false))).bind fun t40=>some (t40)
noncomputable def hQ66:Hn Tryz.prog := .cl oQ64 [] (.gj 6 ⟨[kdB 23],[]⟩ [] (.two 16 (.cl oQ65 [] .nil) .nil) .nil)
noncomputable def sQ66:Spec:=⟨80,⟨[(0,.dat Yq13),kdI 1],[]⟩,[⟨[kdB 0],[]⟩],fun x=>fn_point_Points_Ends x.1 x.2⟩
noncomputable def oQ66:OkSpec Tryz.prog:=⟨sQ66,fn_is func80 hQ66 (by kernel_rfl) (by kernel_rfl),call80⟩
noncomputable def fn_flow_heads_l1 (xa:Tq8) (xb:(List Int)):Tq17→Option (Tq17⊕(List Int)):=fun (l1,i2)=>cond (decide (i2 < (xa.2.2.2.1.length:Int))) ((getI xa.2.2.2.1 i2).bind fun x3=>(getI xb x3).bind fun x4=>(app l1 ([x4]:List Int)).bind fun z5=>some (.inl ((z5,IntKind.wrap .i64 (i2 + 1))))) (some (.inr (l1)))
noncomputable def fn_flow_heads (xa:Tq8) (xb:(List Int)):Option (List Int) :=
 (loop (fn_flow_heads_l1 xa xb) ([],0)).bind fun l1=>(srt l1).bind fun l2=>(cmpt l2).bind fun l3=>some (l3)
noncomputable def hQ67:Hn Tryz.prog := .jn [] ⟨[(5,.own 3 Yq2)],[]⟩ [0] (.lp ⟨[(5,.own 3 Yq2),kdI 11],[]⟩ (.tw 12 .nil .nil)) (.cl ok_Sort [] (.cl ok_Compact [] .nil))
noncomputable def sQ67:Spec:=⟨81,⟨[(0,.dat Yq12),(1,.dat (.sl Yq2))],[]⟩,[⟨[(0,.own 3 Yq2)],[]⟩],fun x=>fn_flow_heads x.1 x.2⟩
noncomputable def oQ67:OkSpec Tryz.prog:=⟨sQ67,fn_is func81 hQ67 (by kernel_rfl) (by kernel_rfl),call81⟩

noncomputable def fn_slices_Clone_graph_Arc_graph_Arc (xa:Tq6):Option (Tq6) :=
 nilb xa (some ([])) ((app (([]:List Tq23)) xa).bind fun z21=>some (z21))
noncomputable def hQ68:Hn Tryz.prog := .two 4 .nil .nil
noncomputable def sQ68:Spec:=⟨111,⟨[(0,.dat Yq4)],[]⟩,[⟨[(0,.own 135 Yq16)],[]⟩],fun x=>fn_slices_Clone_graph_Arc_graph_Arc x⟩
noncomputable def oQ68:OkSpec Tryz.prog:=⟨sQ68,fn_is func111 hQ68 (by kernel_rfl) (by kernel_rfl),call111⟩

noncomputable def fn_graph_New_1 (xa:Tq23):Option Int :=
 some (xa.1)
noncomputable def hQ69:Hn Tryz.prog := .nil
noncomputable def sQ69:Spec:=⟨113,⟨[(0,.dat Yq16)],[]⟩,[⟨[kdI 0],[]⟩],fun x=>fn_graph_New_1 x⟩
noncomputable def oQ69:OkSpec Tryz.prog:=⟨sQ69,fn_is func113 hQ69 (by kernel_rfl) (by kernel_rfl),call113⟩
noncomputable def fn_graph_indexed_ik_graph_New_1_l1 (xb:Tq6):Tq21→Option (Tq21⊕(List Int)):=fun (i1,l2)=>cond (decide (i1 < (xb.length:Int))) ((getI xb i1).bind fun x3=>(fn_graph_New_1 (x3.1,x3.2)).bind fun i4=>(getI l2 (IntKind.wrap .i64 (i4 + 1))).bind fun x5=>(getI l2 (IntKind.wrap .i64 (i4 + 1))).bind fun x6=>(some (l2.set (IntKind.wrap .i64 (i4 + 1)).toNat (IntKind.wrap .i64 (x5 + 1)))).bind fun z7=>some (.inl ((IntKind.wrap .i64 (i1 + 1),z7)))) (some (.inr (l2)))
noncomputable def fn_graph_indexed_ik_graph_New_1_l2 (xa:Int):Tq21→Option (Tq21⊕(List Int)):=fun (i1,l2)=>cond (decide (i1 < xa)) ((getI l2 (IntKind.wrap .i64 (i1 + 1))).bind fun x3=>(getI l2 i1).bind fun x4=>(getI l2 (IntKind.wrap .i64 (i1 + 1))).bind fun x5=>(some (l2.set (IntKind.wrap .i64 (i1 + 1)).toNat (IntKind.wrap .i64 (x3 + x4)))).bind fun z6=>some (.inl ((IntKind.wrap .i64 (i1 + 1),z6)))) (some (.inr (l2)))
noncomputable def fn_graph_indexed_ik_graph_New_1_l3 (xb:Tq6):((List Int)×Int×(List Int))→Option (((List Int)×Int×(List Int))⊕(List Int)):=fun (l1,i2,l3)=>cond (decide (i2 < (xb.length:Int))) ((getI xb i2).bind fun x4=>(fn_graph_New_1 (x4.1,x4.2)).bind fun i5=>(getI l1 i5).bind fun x6=>(getI l3 x6).bind fun x7=>(some (l3.set x6.toNat i2)).bind fun z8=>(getI l1 i5).bind fun x9=>(getI l1 i5).bind fun x10=>(some (l1.set i5.toNat (IntKind.wrap .i64 (x9 + 1)))).bind fun z11=>some (.inl ((z11,IntKind.wrap .i64 (i2 + 1),z8)))) (some (.inr (l3)))
noncomputable def fn_graph_indexed_ik_graph_New_1 (xa:Int) (xb:Tq6):Option (Tq4) :=
 (((mk (IntKind.wrap .i64 (xa + 1)) (IntKind.wrap .i64 (xa + 1)) 0:Option (List Int)).bind fun z1=>((mk (xb.length:Int) (xb.length:Int) 0:Option (List Int)).bind fun z2=>some ((z1,z2))).bind fun x3=>((mk (xb.length:Int) (xb.length:Int) 0:Option (List Int)).bind fun z4=>some ((z1,z4))).bind fun y5=>agr x3 y5 (some x3)).bind fun x6=>(((mk (xb.length:Int) (xb.length:Int) 0:Option (List Int)).bind fun z7=>((mk (IntKind.wrap .i64 (xa + 1)) (IntKind.wrap .i64 (xa + 1)) 0:Option (List Int)).bind fun z8=>some ((z8,z7))).bind fun x9=>((mk (IntKind.wrap .i64 (xa + 1)) (IntKind.wrap .i64 (xa + 1)) 0:Option (List Int)).bind fun z10=>some ((z10,z7))).bind fun y11=>agr x9 y11 (some x9)).bind fun x12=>(((mk (IntKind.wrap .i64 (xa + 1)) (IntKind.wrap .i64 (xa + 1)) 0:Option (List Int)).bind fun z13=>(mk (xb.length:Int) (xb.length:Int) 0:Option (List Int)).bind fun z14=>some ((z13,z14))).bind fun x15=>((mk (xb.length:Int) (xb.length:Int) 0:Option (List Int)).bind fun z16=>(mk (IntKind.wrap .i64 (xa + 1)) (IntKind.wrap .i64 (xa + 1)) 0:Option (List Int)).bind fun z17=>some ((z17,z16))).bind fun y18=>agr x15 y18 (some x15)).bind fun y19=>agr x12 y19 (some x12)).bind fun y20=>agr x6 y20 (some x6):Option (Tq4)).bind fun (l21,l22)=>(loop (fn_graph_indexed_ik_graph_New_1_l1 xb) (0,l21)).bind fun l23=>(loop (fn_graph_indexed_ik_graph_New_1_l2 xa) (0,l23)).bind fun l24=>(fn_slices_Clone_int_int l24).bind fun l25=>(loop (fn_graph_indexed_ik_graph_New_1_l3 xb) (l25,0,l22)).bind fun l26=>some ((l24,l26))
noncomputable def hQ70:Hn Tryz.prog := .tr (.still [0,1,3,4] (.alt 2 (.alt 5 (.still [6] (.alt 7 (.alt 8 (.leaf []) .done) .done)) (.alt 7 (.alt 5 (.still [6] (.alt 8 (.leaf []) .done)) .done) .done)) (.alt 5 (.alt 2 (.still [6] (.alt 7 (.alt 8 (.leaf []) .done) .done)) (.alt 7 (.alt 2 (.still [6] (.alt 8 (.leaf []) .done)) .done) .done)) (.alt 7 (.alt 2 (.alt 5 (.still [6] (.alt 8 (.leaf []) .done)) .done) (.alt 5 (.alt 2 (.still [6] (.alt 8 (.leaf []) .done)) .done) .done)) .done)))) ⟨[(7,.ptr 0 0)],[bkN 170 [.own 3 Yq2,.own 3 Yq2]]⟩ [] (.two 0 (.two 0 .nil .nil) (.two 0 (.two 0 .nil .nil) (.two 0 .nil .nil))) (.jn [(2,1)] ⟨[],[bkC 2 170 [.own 3 Yq2,.is 1 (.any)],bkU 8]⟩ [2,3] (.lp ⟨[kdI 24],[bkC 2 170 [.own 3 Yq2,.is 1 (.any)],bkU 8]⟩ (.tw 25 (.mix [([0,1,2,3],4)] [5,6,7,8,9] [10] [] (.cl oQ69 [] .nil)) .nil)) (.jn [] ⟨[],[bkC 2 170 [.own 3 Yq2,.is 1 (.any)],bkU 8]⟩ [2,9] (.lp ⟨[kdI 40],[bkC 2 170 [.own 3 Yq2,.is 1 (.any)],bkU 8]⟩ (.tw 41 (.mix [] [0,1,2,3,4,5,6,7,8,9,10,11,12] [13] [] .nil) .nil)) (.per 12 13 (.cl oQ57 [] (.jn [(2,0)] ⟨[(59,.any),(11,.any)],[bkC 2 170 [.is 1 (.any),.own 3 Yq2],bkU 17]⟩ [15,2,5] (.lp ⟨[(11,.own 3 Yq2),kdI 62],[bkC 2 170 [.is 1 (.any),.own 3 Yq2],bkU 17]⟩ (.tw 63 (.cl oQ69 [] (.mix [] [0,1,2,3,4,5,6,7] [8] [] .nil)) .nil)) .nil)))))
noncomputable def sQ70:Spec:=⟨112,⟨[kdI 0,(1,.dat Yq4),(2,.fn 113 [])],[]⟩,[⟨[(0,.agg [.dat (.sl Yq2),.own 3 Yq2])],[]⟩],fun x=>fn_graph_indexed_ik_graph_New_1 x.1 x.2⟩
noncomputable def oQ70:OkSpec Tryz.prog:=⟨sQ70,fn_is func112 hQ70 (by kernel_rfl) (by kernel_rfl),call112⟩

noncomputable def fn_graph_New_2 (xa:Tq23):Option Int :=
 some (xa.2)
noncomputable def hQ71:Hn Tryz.prog := .nil
noncomputable def sQ71:Spec:=⟨114,⟨[(0,.dat Yq16)],[]⟩,[⟨[kdI 0],[]⟩],fun x=>fn_graph_New_2 x⟩
noncomputable def oQ71:OkSpec Tryz.prog:=⟨sQ71,fn_is func114 hQ71 (by kernel_rfl) (by kernel_rfl),call114⟩
noncomputable def fn_graph_indexed_ik_graph_New_2_l1 (xb:Tq6):Tq21→Option (Tq21⊕(List Int)):=fun (i1,l2)=>cond (decide (i1 < (xb.length:Int))) ((getI xb i1).bind fun x3=>(fn_graph_New_2 (x3.1,x3.2)).bind fun i4=>(getI l2 (IntKind.wrap .i64 (i4 + 1))).bind fun x5=>(getI l2 (IntKind.wrap .i64 (i4 + 1))).bind fun x6=>(some (l2.set (IntKind.wrap .i64 (i4 + 1)).toNat (IntKind.wrap .i64 (x5 + 1)))).bind fun z7=>some (.inl ((IntKind.wrap .i64 (i1 + 1),z7)))) (some (.inr (l2)))
noncomputable def fn_graph_indexed_ik_graph_New_2_l2 (xa:Int):Tq21→Option (Tq21⊕(List Int)):=fun (i1,l2)=>cond (decide (i1 < xa)) ((getI l2 (IntKind.wrap .i64 (i1 + 1))).bind fun x3=>(getI l2 i1).bind fun x4=>(getI l2 (IntKind.wrap .i64 (i1 + 1))).bind fun x5=>(some (l2.set (IntKind.wrap .i64 (i1 + 1)).toNat (IntKind.wrap .i64 (x3 + x4)))).bind fun z6=>some (.inl ((IntKind.wrap .i64 (i1 + 1),z6)))) (some (.inr (l2)))
noncomputable def fn_graph_indexed_ik_graph_New_2_l3 (xb:Tq6):((List Int)×Int×(List Int))→Option (((List Int)×Int×(List Int))⊕(List Int)):=fun (l1,i2,l3)=>cond (decide (i2 < (xb.length:Int))) ((getI xb i2).bind fun x4=>(fn_graph_New_2 (x4.1,x4.2)).bind fun i5=>(getI l1 i5).bind fun x6=>(getI l3 x6).bind fun x7=>(some (l3.set x6.toNat i2)).bind fun z8=>(getI l1 i5).bind fun x9=>(getI l1 i5).bind fun x10=>(some (l1.set i5.toNat (IntKind.wrap .i64 (x9 + 1)))).bind fun z11=>some (.inl ((z11,IntKind.wrap .i64 (i2 + 1),z8)))) (some (.inr (l3)))
noncomputable def fn_graph_indexed_ik_graph_New_2 (xa:Int) (xb:Tq6):Option (Tq4) :=
 (((mk (IntKind.wrap .i64 (xa + 1)) (IntKind.wrap .i64 (xa + 1)) 0:Option (List Int)).bind fun z1=>((mk (xb.length:Int) (xb.length:Int) 0:Option (List Int)).bind fun z2=>some ((z1,z2))).bind fun x3=>((mk (xb.length:Int) (xb.length:Int) 0:Option (List Int)).bind fun z4=>some ((z1,z4))).bind fun y5=>agr x3 y5 (some x3)).bind fun x6=>(((mk (xb.length:Int) (xb.length:Int) 0:Option (List Int)).bind fun z7=>((mk (IntKind.wrap .i64 (xa + 1)) (IntKind.wrap .i64 (xa + 1)) 0:Option (List Int)).bind fun z8=>some ((z8,z7))).bind fun x9=>((mk (IntKind.wrap .i64 (xa + 1)) (IntKind.wrap .i64 (xa + 1)) 0:Option (List Int)).bind fun z10=>some ((z10,z7))).bind fun y11=>agr x9 y11 (some x9)).bind fun x12=>(((mk (IntKind.wrap .i64 (xa + 1)) (IntKind.wrap .i64 (xa + 1)) 0:Option (List Int)).bind fun z13=>(mk (xb.length:Int) (xb.length:Int) 0:Option (List Int)).bind fun z14=>some ((z13,z14))).bind fun x15=>((mk (xb.length:Int) (xb.length:Int) 0:Option (List Int)).bind fun z16=>(mk (IntKind.wrap .i64 (xa + 1)) (IntKind.wrap .i64 (xa + 1)) 0:Option (List Int)).bind fun z17=>some ((z17,z16))).bind fun y18=>agr x15 y18 (some x15)).bind fun y19=>agr x12 y19 (some x12)).bind fun y20=>agr x6 y20 (some x6):Option (Tq4)).bind fun (l21,l22)=>(loop (fn_graph_indexed_ik_graph_New_2_l1 xb) (0,l21)).bind fun l23=>(loop (fn_graph_indexed_ik_graph_New_2_l2 xa) (0,l23)).bind fun l24=>(fn_slices_Clone_int_int l24).bind fun l25=>(loop (fn_graph_indexed_ik_graph_New_2_l3 xb) (l25,0,l22)).bind fun l26=>some ((l24,l26))
noncomputable def hQ72:Hn Tryz.prog := .tr (.still [0,1,3,4] (.alt 2 (.alt 5 (.still [6] (.alt 7 (.alt 8 (.leaf []) .done) .done)) (.alt 7 (.alt 5 (.still [6] (.alt 8 (.leaf []) .done)) .done) .done)) (.alt 5 (.alt 2 (.still [6] (.alt 7 (.alt 8 (.leaf []) .done) .done)) (.alt 7 (.alt 2 (.still [6] (.alt 8 (.leaf []) .done)) .done) .done)) (.alt 7 (.alt 2 (.alt 5 (.still [6] (.alt 8 (.leaf []) .done)) .done) (.alt 5 (.alt 2 (.still [6] (.alt 8 (.leaf []) .done)) .done) .done)) .done)))) ⟨[(7,.ptr 0 0)],[bkN 170 [.own 3 Yq2,.own 3 Yq2]]⟩ [] (.two 0 (.two 0 .nil .nil) (.two 0 (.two 0 .nil .nil) (.two 0 .nil .nil))) (.jn [(2,1)] ⟨[],[bkC 2 170 [.own 3 Yq2,.is 1 (.any)],bkU 8]⟩ [2,3] (.lp ⟨[kdI 24],[bkC 2 170 [.own 3 Yq2,.is 1 (.any)],bkU 8]⟩ (.tw 25 (.mix [([0,1,2,3],4)] [5,6,7,8,9] [10] [] (.cl oQ71 [] .nil)) .nil)) (.jn [] ⟨[],[bkC 2 170 [.own 3 Yq2,.is 1 (.any)],bkU 8]⟩ [2,9] (.lp ⟨[kdI 40],[bkC 2 170 [.own 3 Yq2,.is 1 (.any)],bkU 8]⟩ (.tw 41 (.mix [] [0,1,2,3,4,5,6,7,8,9,10,11,12] [13] [] .nil) .nil)) (.per 12 13 (.cl oQ57 [] (.jn [(2,0)] ⟨[(59,.any),(11,.any)],[bkC 2 170 [.is 1 (.any),.own 3 Yq2],bkU 17]⟩ [15,2,5] (.lp ⟨[(11,.own 3 Yq2),kdI 62],[bkC 2 170 [.is 1 (.any),.own 3 Yq2],bkU 17]⟩ (.tw 63 (.cl oQ71 [] (.mix [] [0,1,2,3,4,5,6,7] [8] [] .nil)) .nil)) .nil)))))
noncomputable def sQ72:Spec:=⟨112,⟨[kdI 0,(1,.dat Yq4),(2,.fn 114 [])],[]⟩,[⟨[(0,.agg [.dat (.sl Yq2),.own 3 Yq2])],[]⟩],fun x=>fn_graph_indexed_ik_graph_New_2 x.1 x.2⟩
noncomputable def oQ72:OkSpec Tryz.prog:=⟨sQ72,fn_is func112 hQ72 (by kernel_rfl) (by kernel_rfl),call112⟩
noncomputable def fn_graph_New_l1 (xa:Int) (xb:Tq6):Int→Option (Int⊕(Unit⊕(Tq19×Int))):=fun i1=>cond (decide (i1 < (xb.length:Int))) ((getI xb i1).bind fun x2=>cond ((((decide (x2.1 < 0))||(decide (xa≤x2.1)))||(decide (x2.2 < 0)))||(decide (xa≤x2.2))) (some (.inr ((.inr ((none,7)))))) (some (.inl (IntKind.wrap .i64 (i1 + 1))))) (some (.inr ((.inl ()))))
noncomputable def fn_graph_New (xa:Int) (xb:Tq6):Option ((Tq19×Int)) :=
 cond (decide (xa < 0)) (some ((none,2))) (cond ((decide (1048576 < xa))||(decide (67108864 < (xb.length:Int)))) (some ((none,5))) ((loop (fn_graph_New_l1 xa xb) 0).bind fun o=>match o with | .inr r=>some r | .inl ()=>(fn_slices_Clone_graph_Arc_graph_Arc xb).bind fun l1=>(fn_graph_indexed_ik_graph_New_1 xa l1).bind fun (l2,l3)=>(fn_graph_indexed_ik_graph_New_2 xa l1).bind fun (l4,l5)=>some (((some ((xa,l1,(l2,l3),(l4,l5)))),0))))
noncomputable def hQ73:Hn Tryz.prog := .tw 10 .nil (.gp 3 (.tw 17 .nil (.jx [] ⟨[],[]⟩ [] (.lp ⟨[kdI 20],[]⟩ (.tw 21 (.gp 4 (.wt 33 (.gp 3 (.wt 38 (.gp 4 (.tw 43 .nil .nil)))))) .nil)) (.cl oQ68 [] (.per 0 1 (.cl oQ70 [] (.cl oQ72 [] (.per 4 5 (.per 7 8 (.perb 2 9 (.cons Yq2 (.cons Yq4 (.cons Yq5 (.one Yq5)))) .nil))))))))))
noncomputable def sQ73:Spec:=⟨82,⟨[kdI 0,(1,.dat Yq4)],[]⟩,[⟨[(0,.tup [.dat Yq9,.dat Yq2])],[]⟩],fun x=>fn_graph_New x.1 x.2⟩
noncomputable def oQ73:OkSpec Tryz.prog:=⟨sQ73,fn_is func82 hQ73 (by kernel_rfl) (by kernel_rfl),call82⟩
noncomputable def fn_flow_New_l1 (i1:Int) (l2:(List Int)):(Tq6×Int)→Option ((Tq6×Int)⊕Tq6):=fun (l3,i4)=>cond (decide (i4 < (l2.length:Int))) ((getI l2 i4).bind fun x5=>(app l3 (([(i1,x5)]:List Tq23))).bind fun z6=>some (.inl ((z6,IntKind.wrap .i64 (i4 + 1))))) (some (.inr (l3)))
noncomputable def fn_flow_New_l2 (xa:Tq1) (p1:(Option Tq17)) (l2:(List Int)) (i3:Int):(Tq6×Int)→Option ((Tq6×Int)⊕Tq6):=fun (l4,i5)=>cond (decide (i5 < i3)) ((fn_point_Points_At p1 i5).bind fun (i6,i7,t8)=>((fn_point_Points_Ends p1 i5).bind fun t9=>cond (t9) ((getI xa.2.2.2.2.2.2 i6).bind fun x10=>(fn_flow_heads (x10.2.1,x10.2.2.1,x10.2.2.2.1,x10.2.2.2.2.1,x10.2.2.2.2.2.1,x10.2.2.2.2.2.2) l2).bind fun l11=>some (l11)) (some (([IntKind.wrap .i64 (i5 + 1)]:List Int))):Option (List Int)).bind fun l12=>(loop (fn_flow_New_l1 i5 l12) (l4,0)).bind fun l13=>some (.inl ((l13,IntKind.wrap .i64 (i5 + 1))))) (some (.inr (l4)))
noncomputable def fn_flow_New (xa:Tq1):Option ((Option ((Option Tq17)×Tq19))) :=
 (fn_point_New xa).bind fun p1=>(fn_point_Points_Begins p1).bind fun l2=>(fn_point_Points_Len p1).bind fun i3=>(loop (fn_flow_New_l2 xa p1 l2 i3) ([],0)).bind fun l4=>(fn_point_Points_Len p1).bind fun i5=>(fn_graph_New i5 l4).bind fun (p6,i7)=>some ((some (p1,p6)))
noncomputable def hQ74:Hn Tryz.prog := .cl oQ53 [] (.cl oQ61 [] (.cl oQ54 [] (.per 2 3 (.jn [] ⟨[(5,.own 135 Yq16)],[]⟩ [] (.lp ⟨[(5,.own 135 Yq16),kdI 21],[]⟩ (.tw 22 (.cl oQ64 [] (.pl (.sq [] ⟨[(10,.own 3 Yq2)],[]⟩ [6] (.cl oQ66 [] (.tw 36 (.cl oQ67 [] .nil) .nil)) (.jn [] ⟨[(5,.own 135 Yq16)],[]⟩ [4] (.lp ⟨[(5,.own 135 Yq16),kdI 47],[]⟩ (.tw 48 .nil .nil)) .nil)))) .nil)) (.cl oQ54 [] (.per 4 5 (.cl oQ73 [] (.perb 6 7 (.cons Yq13 (.one Yq9)) .nil))))))))
noncomputable def sQ74:Spec:=⟨50,⟨[(0,.dat Yq1)],[]⟩,[⟨[(0,.dat (.ptr (.cons Yq13 (.one Yq9))))],[]⟩],fun x=>fn_flow_New x⟩
noncomputable def oQ74:OkSpec Tryz.prog:=⟨sQ74,fn_is func50 hQ74 (by kernel_rfl) (by kernel_rfl),call50⟩

noncomputable def fn_flow_Flow_ways (xa:(Option ((Option Tq17)×Tq19))):Option (Tq19) :=
 cond (xa.isNone) (some (none)) (xa.bind fun y15=>some (y15.2))
noncomputable def hQ75:Hn Tryz.prog := .tw 4 .nil .nil
noncomputable def sQ75:Spec:=⟨105,⟨[(0,.dat (.ptr (.cons Yq13 (.one Yq9))))],[]⟩,[⟨[(0,.dat Yq9)],[]⟩],fun x=>fn_flow_Flow_ways x⟩
noncomputable def oQ75:OkSpec Tryz.prog:=⟨sQ75,fn_is func105 hQ75 (by kernel_rfl) (by kernel_rfl),call105⟩

noncomputable def fn_graph_Graph_Nodes (xa:Tq19):Option Int :=
 cond (xa.isNone) (some (0)) (xa.bind fun y11=>some (y11.1))
noncomputable def hQ76:Hn Tryz.prog := .tw 4 .nil .nil
noncomputable def sQ76:Spec:=⟨180,⟨[(0,.dat Yq9)],[]⟩,[⟨[kdI 0],[]⟩],fun x=>fn_graph_Graph_Nodes x⟩
noncomputable def oQ76:OkSpec Tryz.prog:=⟨sQ76,fn_is func180 hQ76 (by kernel_rfl) (by kernel_rfl),call180⟩

noncomputable def fn_graph_Graph_isNode (xa:Tq19) (xb:Int):Option Bool :=
 (cond (decide (0≤xb)) ((fn_graph_Graph_Nodes xa).bind fun i28=>some (decide (xb < i28))) (some (false))).bind fun t24=>some (t24)
noncomputable def hQ77:Hn Tryz.prog := .gj 4 ⟨[kdB 12],[]⟩ [] (.two 7 (.cl oQ76 [] .nil) .nil) .nil
noncomputable def sQ77:Spec:=⟨149,⟨[(0,.dat Yq9),kdI 1],[]⟩,[⟨[kdB 0],[]⟩],fun x=>fn_graph_Graph_isNode x.1 x.2⟩
noncomputable def oQ77:OkSpec Tryz.prog:=⟨sQ77,fn_is func149 hQ77 (by kernel_rfl) (by kernel_rfl),call149⟩

noncomputable def fn_graph_index_of (xa:Tq4) (xb:Int):Option (List Int) :=
 (getI xa.1 xb).bind fun x1=>(getI xa.1 (IntKind.wrap .i64 (xb + 1))).bind fun x2=>(subL xa.2 x1 x2).bind fun y3=>some (y3)
noncomputable def hQ78:Hn Tryz.prog := .mix [] [0,1,2,3,4,5,6,7,8,9,10,11,12,13,14] [] [] .nil
noncomputable def sQ78:Spec:=⟨150,⟨[(0,.dat Yq5),kdI 1],[]⟩,[⟨[(0,.dat (.sl Yq2))],[]⟩],fun x=>fn_graph_index_of x.1 x.2⟩
noncomputable def oQ78:OkSpec Tryz.prog:=⟨sQ78,fn_is func150 hQ78 (by kernel_rfl) (by kernel_rfl),call150⟩

noncomputable def fn_graph_Graph_In (xa:Tq19) (xb:Int):Option (List Int) :=
 (fn_graph_Graph_isNode xa xb).bind fun t48=>cond (!t48) (some ([])) (xa.bind fun y54=>(fn_graph_index_of (y54.2.2.2.1,y54.2.2.2.2) xb).bind fun l70=>(fn_slices_Clone_int_int l70).bind fun l79=>some (l79))
noncomputable def hQ79:Hn Tryz.prog := .cl oQ77 [] (.tw 8 .nil (.cl oQ78 [] (.cl oQ57 [] .nil)))
noncomputable def sQ79:Spec:=⟨106,⟨[(0,.dat Yq9),kdI 1],[]⟩,[⟨[(0,.own 3 Yq2)],[]⟩],fun x=>fn_graph_Graph_In x.1 x.2⟩
noncomputable def oQ79:OkSpec Tryz.prog:=⟨sQ79,fn_is func106 hQ79 (by kernel_rfl) (by kernel_rfl),call106⟩

noncomputable def fn_graph_Graph_Arcs (xa:Tq19):Option Int :=
 cond (xa.isNone) (some (0)) (xa.bind fun y14=>some (y14.2.1.length:Int))
noncomputable def hQ80:Hn Tryz.prog := .tw 4 .nil .nil
noncomputable def sQ80:Spec:=⟨151,⟨[(0,.dat Yq9)],[]⟩,[⟨[kdI 0],[]⟩],fun x=>fn_graph_Graph_Arcs x⟩
noncomputable def oQ80:OkSpec Tryz.prog:=⟨sQ80,fn_is func151 hQ80 (by kernel_rfl) (by kernel_rfl),call151⟩

noncomputable def fn_graph_Graph_Arc (xa:Tq19) (xb:Int):Option (Int×Int×Bool) :=
 (cond (decide (xb < 0)) (some (true)) ((fn_graph_Graph_Arcs xa).bind fun i52=>some (decide (i52≤xb)))).bind fun t48=>cond (t48) (some ((0,0,false))) (xa.bind fun y57=>(getI y57.2.1 xb).bind fun x67=>some ((x67.1,x67.2,true)))
noncomputable def hQ81:Hn Tryz.prog := .gj 4 ⟨[kdB 13],[]⟩ [] (.two 8 .nil (.cl oQ80 [] .nil)) (.tw 13 .nil .nil)
noncomputable def sQ81:Spec:=⟨107,⟨[(0,.dat Yq9),kdI 1],[]⟩,[⟨[(0,.tup [.agg [.dat Yq2,.dat Yq2],.dat .bool])],[]⟩],fun x=>fn_graph_Graph_Arc x.1 x.2⟩
noncomputable def oQ81:OkSpec Tryz.prog:=⟨sQ81,fn_is func107 hQ81 (by kernel_rfl) (by kernel_rfl),call107⟩
noncomputable def fn_flow_Flow_Back_l1 (xa:(Option ((Option Tq17)×Tq19))) (l1:(List Int)):Tq17→Option (Tq17⊕(List Int)):=fun (l2,i3)=>cond (decide (i3 < (l1.length:Int))) ((getI l2 i3).bind fun x4=>xa.bind fun y5=>(fn_graph_Graph_Arc y5.2 x4).bind fun (i6,i7,t8)=>(getI l2 i3).bind fun x9=>(some (l2.set i3.toNat i6)).bind fun z10=>some (.inl ((z10,IntKind.wrap .i64 (i3 + 1))))) (some (.inr (l2)))
noncomputable def fn_flow_Flow_Back (xa:(Option ((Option Tq17)×Tq19))) (xb:Int):Option (List Int) :=
 (fn_flow_Flow_ways xa).bind fun p1=>(fn_graph_Graph_In p1 xb).bind fun l2=>(loop (fn_flow_Flow_Back_l1 xa l2) (l2,0)).bind fun l3=>some (l3)
noncomputable def hQ82:Hn Tryz.prog := .cl oQ75 [] (.cl oQ79 [] (.jn [] ⟨[(5,.own 3 Yq2),(13,.any),(14,.any)],[]⟩ [0] (.lp ⟨[(5,.own 3 Yq2),(14,.al 0),kdI 16],[]⟩ (.tw 17 (.cl oQ81 [] .nil) .nil)) .nil))
noncomputable def sQ82:Spec:=⟨77,⟨[(0,.dat (.ptr (.cons Yq13 (.one Yq9)))),kdI 1],[]⟩,[⟨[(0,.own 3 Yq2)],[]⟩],fun x=>fn_flow_Flow_Back x.1 x.2⟩
noncomputable def oQ82:OkSpec Tryz.prog:=⟨sQ82,fn_is func77 hQ82 (by kernel_rfl) (by kernel_rfl),call77⟩
noncomputable def fn_live_backs_l1 (xa:(Option ((Option Tq17)×Tq19))) (z1:List (List Int)):(Tq22×Int)→Option ((Tq22×Int)⊕Tq22):=fun (l2,i3)=>cond (decide (i3 < (z1.length:Int))) ((fn_flow_Flow_Back xa i3).bind fun l4=>(getI l2 i3).bind fun x5=>(some (l2.set i3.toNat l4)).bind fun z6=>some (.inl ((z6,IntKind.wrap .i64 (i3 + 1))))) (some (.inr (l2)))
noncomputable def fn_live_backs (xa:(Option ((Option Tq17)×Tq19))) (xb:Int):Option (Tq22) :=
 (mk xb xb ([]):Option Tq22).bind fun z1=>(loop (fn_live_backs_l1 xa z1) (z1,0)).bind fun l2=>some (l2)
noncomputable def hQ83:Hn Tryz.prog := .jn [] ⟨[(5,.own 48 (.sl Yq2)),(8,.any),(9,.any)],[]⟩ [0] (.lp ⟨[(5,.own 48 (.sl Yq2)),kdI 11],[]⟩ (.tw 12 (.cl oQ82 [] (.per 4 5 .nil)) .nil)) .nil
noncomputable def sQ83:Spec:=⟨49,⟨[(0,.dat (.ptr (.cons Yq13 (.one Yq9)))),kdI 1],[]⟩,[⟨[(0,.own 48 (.sl Yq2))],[]⟩],fun x=>fn_live_backs x.1 x.2⟩
noncomputable def oQ83:OkSpec Tryz.prog:=⟨sQ83,fn_is func49 hQ83 (by kernel_rfl) (by kernel_rfl),call49⟩

noncomputable def fn_touch_Touches_Of (xa:(Option Tq24)) (xb:Int):Option (Tq4) :=
 (cond (xa.isNone||(decide (xb < 0))) (some (true)) (xa.bind fun y1=>some (decide ((y1.2.length:Int)≤xb)))).bind fun t2=>cond (t2) (some (([],[]))) (xa.bind fun y3=>(getI y3.2 xb).bind fun x4=>(fn_slices_Clone_int_int x4.1).bind fun l5=>(fn_slices_Clone_int_int x4.2).bind fun l6=>some ((l5,l6)))
noncomputable def hQ84:Hn Tryz.prog := .gp 2 (.wt 13 (.gj 7 ⟨[kdB 21],[]⟩ [] (.two 13 .nil .nil) (.tw 21 .nil (.mix [([0,1,3,4],2)] [] [5,6,7] [] (.cl oQ57 [] (.cl oQ57 [] .nil))))))
noncomputable def sQ84:Spec:=⟨51,⟨[(0,.dat (.ptr (.cons (.sl Yq5) (.one (.sl Yq5))))),kdI 1],[]⟩,[⟨[(0,.tup [.own 3 Yq2,.own 3 Yq2])],[]⟩],fun x=>fn_touch_Touches_Of x.1 x.2⟩
noncomputable def oQ84:OkSpec Tryz.prog:=⟨sQ84,fn_is func51 hQ84 (by kernel_rfl) (by kernel_rfl),call51⟩

noncomputable def fn_dense_New (xa:Int):Option ((Int⊕(Int×Int×(List Int)))) :=
 cond (decide (xa < 0)) (some (.inl 2)) (cond (decide (1048576 < xa)) (some (.inl 5)) ((mk (IntKind.wrap .i64 (Int.tdiv (IntKind.wrap .i64 ((IntKind.wrap .i64 (xa + 64)) - 1)) 64)) (IntKind.wrap .i64 (Int.tdiv (IntKind.wrap .i64 ((IntKind.wrap .i64 (xa + 64)) - 1)) 64)) 0:Option (List Int)).bind fun z20=>some (.inr (0,xa,z20))))
noncomputable def hQ85:Hn Tryz.prog := .tw 5 .nil (.tw 7 .nil (.pl (.pl .nil)))
noncomputable def sQ85:Spec:=⟨84,⟨[kdI 0],[]⟩,[⟨[(0,.tup [.nilp,.dat Yq2])],[]⟩,⟨[(0,.tup [.ptr 0 0,.dat Yq2])],[bkN 116 [.dat Yq2,.own 113 Yq10]]⟩],fun x=>fn_dense_New x⟩
noncomputable def oQ85:OkSpec Tryz.prog:=⟨sQ85,fn_is func84 hQ85 (by kernel_rfl) (by kernel_rfl),call84⟩

noncomputable def fn_dense_Set_Size (xa:Tq7):Option Int :=
 cond (xa.isNone) (some (0)) (xa.bind fun y11=>some (y11.1))
noncomputable def hQ86:Hn Tryz.prog := .tw 4 .nil .nil
noncomputable def sQ86:Spec:=⟨103,⟨[(0,.dat Yq8)],[]⟩,[⟨[kdI 0],[]⟩],fun x=>fn_dense_Set_Size x⟩
noncomputable def oQ86:OkSpec Tryz.prog:=⟨sQ86,fn_is func103 hQ86 (by kernel_rfl) (by kernel_rfl),call103⟩

noncomputable def fn_dense_Set_mayHave (xa:Tq7) (xb:Int):Option Bool :=
 (cond (decide (0≤xb)) ((fn_dense_Set_Size xa).bind fun i28=>some (decide (xb < i28))) (some (false))).bind fun t24=>some (t24)
noncomputable def hQ87:Hn Tryz.prog := .gj 4 ⟨[kdB 12],[]⟩ [] (.two 7 (.cl oQ86 [] .nil) .nil) .nil
noncomputable def sQ87:Spec:=⟨70,⟨[(0,.dat Yq8),kdI 1],[]⟩,[⟨[kdB 0],[]⟩],fun x=>fn_dense_Set_mayHave x.1 x.2⟩
noncomputable def oQ87:OkSpec Tryz.prog:=⟨sQ87,fn_is func70 hQ87 (by kernel_rfl) (by kernel_rfl),call70⟩

noncomputable def fn_dense_Set_Has (xa:Tq7) (xb:Int):Option Bool :=
 (fn_dense_Set_mayHave xa xb).bind fun t1=>cond (t1) (xa.bind fun y2=>(getI y2.2 (IntKind.wrap .i64 (Int.tdiv xb 64))).bind fun x3=>(ge0 (Int.tmod xb 64)).bind fun u4=>some (!decide ((IntKind.wrap .u64 ((BitVec.ofInt (IntKind.bits .u64) x3 &&& BitVec.ofInt (IntKind.bits .u64) (IntKind.wrap .u64 (1 * 2 ^ (min (Int.toNat (Int.tmod xb 64)) (IntKind.bits .u64))))).toNat:Int))=0))) (some (false))
noncomputable def hQ88:Hn Tryz.prog := .mix [([0,1],2)] [3,4,5,6,7,8,9,10,11,12,13,14,15,16,17,18] [] [] (.cl oQ87 [] (.two 8 .nil .nil))
noncomputable def sQ88:Spec:=⟨43,⟨[(0,.dat Yq8),kdI 1],[]⟩,[⟨[kdB 0],[]⟩],fun x=>fn_dense_Set_Has x.1 x.2⟩
noncomputable def oQ88:OkSpec Tryz.prog:=⟨sQ88,fn_is func43 hQ88 (by kernel_rfl) (by kernel_rfl),call43⟩

noncomputable def fn_dense_Set_Add_zi (xb:Int):Option Bool :=
 (fn_dense_Set_mayHave ((none:Tq7)) xb).bind fun t26=>(cond (!t26) (some (true)) ((fn_dense_Set_Has ((none:Tq7)) xb).bind fun t41=>some (t41))).bind fun t37=>cond (t37) (some (false)) (none)
noncomputable def hQ89:Hn Tryz.prog := .cl oQ87 [] (.gj 3 ⟨[kdB 13],[]⟩ [] (.two 9 .nil (.cl oQ88 [] .nil)) (.tw 13 .nil (.mix [] [0,1,2,3,4,5,6,7,8,9,10,11,12] [13] [] .nil)))
noncomputable def sQ89:Spec:=⟨57,⟨[(0,.nilp),kdI 1],[]⟩,[⟨[kdB 0],[]⟩],fun x=>fn_dense_Set_Add_zi x⟩
noncomputable def oQ89:OkSpec Tryz.prog:=⟨sQ89,fn_is func57 hQ89 (by kernel_rfl) (by kernel_rfl),call57⟩

noncomputable def fn_stack_Queue_int_grow_p0_riiod (qa0:(List Int)) (qa1:Int) (qa2:Int) (qa3:(Option Tq6)):Option (((List Int)×(Option Tq6))) :=
 (mk (IntKind.wrap .i64 ((IntKind.wrap .i64 (2 * (qa0.length:Int))) + 1)) (IntKind.wrap .i64 ((IntKind.wrap .i64 (2 * (qa0.length:Int))) + 1)) 0:Option (List Int)).bind fun z31=>(subL qa0 qa1 (qa0.length:Int)).bind fun _=>(some (cpy z31 ((0:Int).toNat) ((List.drop (qa1:Int).toNat (List.take ((qa0.length:Int):Int).toNat qa0)).take (z31.length - (0:Int).toNat)))).bind fun z38=>(subL z38 (((min (List.drop (qa1:Int).toNat (List.take ((qa0.length:Int):Int).toNat qa0)).length (z31.length - (0:Int).toNat):Nat):Int)) (z31.length:Int)).bind fun _=>(subL qa0 0 qa1).bind fun _=>(some (cpy z38 ((((min (List.drop (qa1:Int).toNat (List.take ((qa0.length:Int):Int).toNat qa0)).length (z31.length - (0:Int).toNat):Nat):Int):Int).toNat) ((List.drop (0:Int).toNat (List.take (qa1:Int).toNat qa0)).take ((((z31.length:Int):Int).toNat) - (((min (List.drop (qa1:Int).toNat (List.take ((qa0.length:Int):Int).toNat qa0)).length (z31.length - (0:Int).toNat):Nat):Int):Int).toNat)))).bind fun z42=>some ((z42,qa3))
noncomputable def hQ90:Hn Tryz.prog := .mix [] [0,1,2,3,4,5,6,7,8,9] [10,11] [] (.mix [] [0,1,2,3,4,5,6,7,8,9,10,11] [12] [] .nil)
noncomputable def sQ90:Spec:=⟨153,⟨[(0,.ptr 0 0)],[bkN 149 [.own 3 Yq2,.dat Yq2,.is 1 (.dat Yq2),.od (.obj 0 Yq4)],bkM]⟩,[⟨[],[bkC 0 149 [.own 3 Yq2,.lit (.int .i64 0),.is 1 (.any),.od (.obj 0 Yq4)],bkU 1]⟩],fun x=>fn_stack_Queue_int_grow_p0_riiod x.1 x.2.1 x.2.2.1 x.2.2.2⟩
noncomputable def oQ90:OkSpec Tryz.prog:=⟨sQ90,fn_is func153 hQ90 (by kernel_rfl) (by kernel_rfl),call153⟩
noncomputable def fn_stack_Queue_int_Push_p0k_riiod_l1 (xb:(List Int)):Tq14→Option (Tq14⊕Tq15):=fun (i1,l2,i3,i4,l5)=>cond (decide (i1 < (xb.length:Int))) ((getI xb i1).bind fun x6=>(cond (decide (i4=(l2.length:Int))) ((fn_stack_Queue_int_grow_p0_riiod l2 i3 i4 l5).bind fun (l7,l8)=>some ((l7,0,l8))) (some ((l2,i3,l5))):Option (((List Int)×Int×(Option Tq6)))).bind fun (l9,i10,l11)=>(nz (l9.length:Int)).bind fun u12=>(getI l9 (Int.tmod (IntKind.wrap .i64 (i10 + i4)) (l9.length:Int))).bind fun x13=>(some (l9.set (Int.tmod (IntKind.wrap .i64 (i10 + i4)) (l9.length:Int)).toNat x6)).bind fun z14=>some (.inl ((IntKind.wrap .i64 (i1 + 1),z14,i10,IntKind.wrap .i64 (i4 + 1),l11)))) (some (.inr (((l2,i3,i4,l5)))))
noncomputable def fn_stack_Queue_int_Push_p0k_riiod (xb:(List Int)) (qa0:(List Int)) (qa1:Int) (qa2:Int) (qa3:(Option Tq6)):Option (Tq15) :=
 (loop (fn_stack_Queue_int_Push_p0k_riiod_l1 xb) (0,qa0,qa1,qa2,qa3)).bind fun (l4,i5,i6,l7)=>some ((l4,i5,i6,l7))
noncomputable def hQ91:Hn Tryz.prog := .jn [] ⟨[],[bkC 0 149 [.own 3 Yq2,.dat Yq2,.dat Yq2,.od (.obj 0 Yq4)]]⟩ [1,0,3] (.lp ⟨[kdI 10],[bkC 0 149 [.own 3 Yq2,.dat Yq2,.dat Yq2,.od (.obj 0 Yq4)]]⟩ (.tw 11 (.pl (.pl (.sq [(0,2)] ⟨[],[bkC 0 149 [.own 3 Yq2,.dat Yq2,.is 1 (.any),.od (.obj 0 Yq4)],bkU 11]⟩ [0,6,8] (.mix [] [0,1,2,3,4,5,6,7,8,9] [] [] (.tw 23 (.cl oQ90 [] .nil) .nil)) (.mix [] [0,1,2,3,4,5,6,7,8,9,10,11,12,13,14,15,16,17,18,19,20] [21] [] .nil)))) .nil)) .nil
noncomputable def sQ91:Spec:=⟨116,⟨[(0,.ptr 0 0),(1,.dat (.sl Yq2))],[bkN 149 [.own 3 Yq2,.dat Yq2,.dat Yq2,.od (.obj 0 Yq4)]]⟩,[⟨[],[bkC 0 149 [.own 3 Yq2,.dat Yq2,.dat Yq2,.od (.obj 0 Yq4)]]⟩],fun x=>fn_stack_Queue_int_Push_p0k_riiod x.1 x.2.1 x.2.2.1 x.2.2.2.1 x.2.2.2.2⟩
noncomputable def oQ91:OkSpec Tryz.prog:=⟨sQ91,fn_is func116 hQ91 (by kernel_rfl) (by kernel_rfl),call116⟩

noncomputable def fn_stack_Work_int_Push_p0i_riiod (xb:Int) (qa0:(List Int)) (qa1:Int) (qa2:Int) (qa3:(Option Tq6)):Option ((Bool×(List Int)×Int×Int×(Option Tq6))) :=
 (markF_int xb qa0 qa1 qa2 qa3).bind fun r69=>cond (!r69.1) (some ((false,r69.2.1,r69.2.2.1,r69.2.2.2.1,r69.2.2.2.2))) ((fn_stack_Queue_int_Push_p0k_riiod ([xb]:List Int) r69.2.1 r69.2.2.1 r69.2.2.2.1 r69.2.2.2.2).bind fun (l4,i5,i6,l7)=>some ((true,l4,i5,i6,l7)))
noncomputable def hQ92:Hn Tryz.prog := .cl ok_mark_int [] (.tw 12 .nil (.cl oQ91 [16] .nil))
noncomputable def sQ92:Spec:=⟨85,⟨[(0,.ptr 0 0),kdI 1],[bkN 149 [.own 3 Yq2,.dat Yq2,.dat Yq2,.od (.obj 0 Yq4)]]⟩,[⟨[kdB 0],[bkC 0 149 [.own 3 Yq2,.dat Yq2,.dat Yq2,.od (.obj 0 Yq4)]]⟩],fun x=>fn_stack_Work_int_Push_p0i_riiod x.1 x.2.1 x.2.2.1 x.2.2.2.1 x.2.2.2.2⟩
noncomputable def oQ92:OkSpec Tryz.prog:=⟨sQ92,fn_is func85 hQ92 (by kernel_rfl) (by kernel_rfl),call85⟩

noncomputable def fn_stack_Queue_int_Len_p0_riiod (qa0:(List Int)) (qa1:Int) (qa2:Int) (qa3:(Option Tq6)):Option ((Int×(List Int)×(Option Tq6))) :=
 some ((qa2,qa0,qa3))
noncomputable def hQ93:Hn Tryz.prog := .nil
noncomputable def sQ93:Spec:=⟨117,⟨[(0,.ptr 0 0)],[bkN 149 [.own 3 Yq2,.is 1 (.dat Yq2),.is 2 (.dat Yq2),.od (.obj 0 Yq4)],bkM,bkM]⟩,[⟨[kdI 0],[bkC 0 149 [.own 3 Yq2,.is 1 (.any),.is 2 (.any),.od (.obj 0 Yq4)],bkU 1,bkU 2]⟩],fun x=>fn_stack_Queue_int_Len_p0_riiod x.1 x.2.1 x.2.2.1 x.2.2.2⟩
noncomputable def oQ93:OkSpec Tryz.prog:=⟨sQ93,fn_is func117 hQ93 (by kernel_rfl) (by kernel_rfl),call117⟩

noncomputable def fn_stack_Work_int_Len_p0_riiod (qa0:(List Int)) (qa1:Int) (qa2:Int) (qa3:(Option Tq6)):Option ((Int×(List Int)×(Option Tq6))) :=
 (fn_stack_Queue_int_Len_p0_riiod qa0 qa1 qa2 qa3).bind fun (i53,l54,l55)=>some ((i53,l54,l55))
noncomputable def hQ94:Hn Tryz.prog := .cl oQ93 [] .nil
noncomputable def sQ94:Spec:=⟨86,⟨[(0,.ptr 0 0)],[bkN 149 [.own 3 Yq2,.is 1 (.dat Yq2),.is 2 (.dat Yq2),.od (.obj 0 Yq4)],bkM,bkM]⟩,[⟨[kdI 0],[bkC 0 149 [.own 3 Yq2,.is 1 (.any),.is 2 (.any),.od (.obj 0 Yq4)],bkU 1,bkU 2]⟩],fun x=>fn_stack_Work_int_Len_p0_riiod x.1 x.2.1 x.2.2.1 x.2.2.2⟩
noncomputable def oQ94:OkSpec Tryz.prog:=⟨sQ94,fn_is func86 hQ94 (by kernel_rfl) (by kernel_rfl),call86⟩

noncomputable def fn_stack_Queue_int_Pop_p0_riiod (qa0:(List Int)) (qa1:Int) (qa2:Int) (qa3:(Option Tq6)):Option ((Int×Bool×(List Int)×Int×Int×(Option Tq6))) :=
 (fn_stack_Queue_int_Len_p0_riiod qa0 qa1 qa2 qa3).bind fun (i4,l5,l6)=>cond (decide (i4=0)) (some ((0,false,l5,qa1,qa2,l6))) ((getI l5 qa1).bind fun x7=>(getI l5 qa1).bind fun x8=>(some (l5.set qa1.toNat 0)).bind fun z9=>(nz (l5.length:Int)).bind fun u10=>some ((x7,true,z9,Int.tmod (IntKind.wrap .i64 (qa1 + 1)) (l5.length:Int),IntKind.wrap .i64 (qa2 - 1),l6)))
noncomputable def hQ95:Hn Tryz.prog := .mc 0 1 5 (.mc 0 2 5 (.cl oQ93 [] (.tw 8 .nil (.mix [] [0,1,2,3,4,5,6,7,8,9,10] [] [] (.mix [] [0,1,2,3,4,5,6,7,8,9] [10] [] (.mix [] [0,1,2,3,4,5,6,7,8,9,10,11,12,13] [14] [] .nil))))))
noncomputable def sQ95:Spec:=⟨118,⟨[(0,.ptr 0 0)],[bkN 149 [.own 3 Yq2,.dat Yq2,.dat Yq2,.od (.obj 0 Yq4)]]⟩,[⟨[(0,.tup [.dat Yq2,.dat .bool])],[bkC 0 149 [.own 3 Yq2,.dat Yq2,.dat Yq2,.od (.obj 0 Yq4)]]⟩],fun x=>fn_stack_Queue_int_Pop_p0_riiod x.1 x.2.1 x.2.2.1 x.2.2.2⟩
noncomputable def oQ95:OkSpec Tryz.prog:=⟨sQ95,fn_is func118 hQ95 (by kernel_rfl) (by kernel_rfl),call118⟩

noncomputable def fn_stack_Work_int_Pop_p0_riiod (qa0:(List Int)) (qa1:Int) (qa2:Int) (qa3:(Option Tq6)):Option ((Int×Bool×(List Int)×Int×Int×(Option Tq6))) :=
 (fn_stack_Queue_int_Pop_p0_riiod qa0 qa1 qa2 qa3).bind fun (i76,t77,l78,i79,i80,l81)=>cond (t77) ((unmarkF_int i76 l78 i79 i80 l81).bind fun r97=>some ((i76,t77,r97.1,r97.2.1,r97.2.2.1,r97.2.2.2))) (some ((i76,t77,l78,i79,i80,l81)))
noncomputable def hQ96:Hn Tryz.prog := .cl oQ95 [] (.tw 17 (.cl ok_unmark_int [] .nil) .nil)
noncomputable def sQ96:Spec:=⟨87,⟨[(0,.ptr 0 0)],[bkN 149 [.own 3 Yq2,.dat Yq2,.dat Yq2,.od (.obj 0 Yq4)]]⟩,[⟨[(0,.tup [.dat Yq2,.dat .bool])],[bkC 0 149 [.own 3 Yq2,.dat Yq2,.dat Yq2,.od (.obj 0 Yq4)]]⟩],fun x=>fn_stack_Work_int_Pop_p0_riiod x.1 x.2.1 x.2.2.1 x.2.2.2⟩
noncomputable def oQ96:OkSpec Tryz.prog:=⟨sQ96,fn_is func87 hQ96 (by kernel_rfl) (by kernel_rfl),call87⟩

noncomputable def fn_dense_Set_Add_p0i_ir (xb:Int) (qa0:Int) (qa1:(List Int)):Option ((Bool×(List Int))) :=
 (fn_dense_Set_mayHave (some (qa0,qa1)) xb).bind fun t2=>(cond (!t2) (some (true)) ((fn_dense_Set_Has (some (qa0,qa1)) xb).bind fun t3=>some (t3))).bind fun t4=>cond (t4) (some ((false,qa1))) ((getI qa1 (IntKind.wrap .i64 (Int.tdiv xb 64))).bind fun x5=>(ge0 (Int.tmod xb 64)).bind fun u6=>(getI qa1 (IntKind.wrap .i64 (Int.tdiv xb 64))).bind fun x7=>(some (qa1.set (IntKind.wrap .i64 (Int.tdiv xb 64)).toNat (IntKind.wrap .u64 ((BitVec.ofInt (IntKind.bits .u64) x5 ||| BitVec.ofInt (IntKind.bits .u64) (IntKind.wrap .u64 (1 * 2 ^ (min (Int.toNat (Int.tmod xb 64)) (IntKind.bits .u64))))).toNat:Int)))).bind fun z8=>some ((true,z8)))
noncomputable def hQ97:Hn Tryz.prog := .cl oQ87 [2,0] (.gj 3 ⟨[kdB 13],[]⟩ [] (.two 9 .nil (.cl oQ88 [2,0] .nil)) (.tw 13 .nil (.mix [] [0,1,2,3,4,5,6,7,8,9,10,11,12] [13] [] .nil)))
noncomputable def sQ97:Spec:=⟨57,⟨[(0,.ptr 0 0),kdI 1],[bkN 116 [.is 1 (.dat Yq2),.own 113 Yq10],bkM]⟩,[⟨[kdB 0],[bkC 0 116 [.is 1 (.any),.own 113 Yq10],bkU 1]⟩],fun x=>fn_dense_Set_Add_p0i_ir x.1 x.2.1 x.2.2⟩
noncomputable def oQ97:OkSpec Tryz.prog:=⟨sQ97,fn_is func57 hQ97 (by kernel_rfl) (by kernel_rfl),call57⟩
noncomputable def fn_live_spread_l1 (xc:(List Int)):Int→Option (Int⊕Unit):=fun i1=>cond (decide (i1 < (xc.length:Int))) ((getI xc i1).bind fun x2=>(fn_dense_Set_Add_zi x2).bind fun t3=>some (.inl (IntKind.wrap .i64 (i1 + 1)))) (some (.inr ((()))))
noncomputable def fn_live_spread_l2 (xb:(List Int)):Tq14→Option (Tq14⊕Tq15):=fun (i1,l2,i3,i4,l5)=>cond (decide (i1 < (xb.length:Int))) ((getI xb i1).bind fun x6=>(fn_dense_Set_Add_zi x6).bind fun t7=>(fn_stack_Work_int_Push_p0i_riiod x6 l2 i3 i4 l5).bind fun (t8,l9,i10,i11,l12)=>some (.inl ((IntKind.wrap .i64 (i1 + 1),l9,i10,i11,l12)))) (some (.inr (((l2,i3,i4,l5)))))
noncomputable def fn_live_spread_l3 (x1:(List Int)):Tq14→Option (Tq14⊕Tq15):=fun (i2,l3,i4,i5,l6)=>cond (decide (i2 < (x1.length:Int))) ((getI x1 i2).bind fun x7=>(fn_dense_Set_Has ((none:Tq7)) x7).bind fun t8=>(cond (!t8) ((fn_dense_Set_Add_zi x7).bind fun t9=>some (t9)) (some (false))).bind fun t10=>cond (t10) ((fn_stack_Work_int_Push_p0i_riiod x7 l3 i4 i5 l6).bind fun (t11,l12,i13,i14,l15)=>some (.inl ((IntKind.wrap .i64 (i2 + 1),l12,i13,i14,l15)))) (some (.inl ((IntKind.wrap .i64 (i2 + 1),l3,i4,i5,l6))))) (some (.inr (((l3,i4,i5,l6)))))
noncomputable def fn_live_spread_l4 (xa:Tq22):Tq15→Option (Tq15⊕Unit):=fun (l1,i2,i3,l4)=>(fn_stack_Work_int_Len_p0_riiod l1 i2 i3 l4).bind fun (i5,l6,l7)=>cond (decide (0 < i5)) ((fn_stack_Work_int_Pop_p0_riiod l6 i2 i3 l7).bind fun (i8,t9,l10,i11,i12,l13)=>(getI xa i8).bind fun x14=>(loop (fn_live_spread_l3 x14) (0,l10,i11,i12,l13)).bind fun (l15,i16,i17,l18)=>some (.inl (l15,i16,i17,l18))) (some (.inr ((()))))
noncomputable def fn_live_spread_l5 (xb:(List Int)) (i1:Int):Tq12→Option (Tq12⊕Tq10):=fun (i2,l3,l4,i5,i6,l7)=>cond (decide (i2 < (xb.length:Int))) ((getI xb i2).bind fun x8=>(fn_dense_Set_Add_p0i_ir x8 i1 l3).bind fun (t9,l10)=>(fn_stack_Work_int_Push_p0i_riiod x8 l4 i5 i6 l7).bind fun (t11,l12,i13,i14,l15)=>some (.inl ((IntKind.wrap .i64 (i2 + 1),l10,l12,i13,i14,l15)))) (some (.inr (((l3,l4,i5,i6,l7)))))
noncomputable def fn_live_spread_l6 (i1:Int) (x2:(List Int)):Tq12→Option (Tq12⊕Tq10):=fun (i3,l4,l5,i6,i7,l8)=>cond (decide (i3 < (x2.length:Int))) ((getI x2 i3).bind fun x9=>(fn_dense_Set_Has ((none:Tq7)) x9).bind fun t10=>cond (!t10) ((fn_dense_Set_Add_p0i_ir x9 i1 l4).bind fun (t11,l12)=>cond (t11) ((fn_stack_Work_int_Push_p0i_riiod x9 l5 i6 i7 l8).bind fun (t13,l14,i15,i16,l17)=>some (.inl ((IntKind.wrap .i64 (i3 + 1),l12,l14,i15,i16,l17)))) (some (.inl ((IntKind.wrap .i64 (i3 + 1),l12,l5,i6,i7,l8))))) (some (.inl ((IntKind.wrap .i64 (i3 + 1),l4,l5,i6,i7,l8))))) (some (.inr (((l4,l5,i6,i7,l8)))))
noncomputable def fn_live_spread_l7 (xa:Tq22) (i1:Int):Tq10→Option (Tq10⊕(List Int)):=fun (l2,l3,i4,i5,l6)=>(fn_stack_Work_int_Len_p0_riiod l3 i4 i5 l6).bind fun (i7,l8,l9)=>cond (decide (0 < i7)) ((fn_stack_Work_int_Pop_p0_riiod l8 i4 i5 l9).bind fun (i10,t11,l12,i13,i14,l15)=>(getI xa i10).bind fun x16=>(loop (fn_live_spread_l6 i1 x16) (0,l2,l12,i13,i14,l15)).bind fun (l17,l18,i19,i20,l21)=>some (.inl (l17,l18,i19,i20,l21))) (some (.inr (l2)))
noncomputable def fn_live_spread_l8 (xc:(List Int)) (i1:Int):Tq21→Option (Tq21⊕(List Int)):=fun (i2,l3)=>cond (decide (i2 < (xc.length:Int))) ((getI xc i2).bind fun x4=>(fn_dense_Set_Add_p0i_ir x4 i1 l3).bind fun (t5,l6)=>some (.inl ((IntKind.wrap .i64 (i2 + 1),l6)))) (some (.inr (l3)))
noncomputable def fn_live_spread_l9 (xb:(List Int)):Tq14→Option (Tq14⊕Tq15):=fun (i1,l2,i3,i4,l5)=>cond (decide (i1 < (xb.length:Int))) ((getI xb i1).bind fun x6=>(fn_dense_Set_Add_zi x6).bind fun t7=>(fn_stack_Work_int_Push_p0i_riiod x6 l2 i3 i4 l5).bind fun (t8,l9,i10,i11,l12)=>some (.inl ((IntKind.wrap .i64 (i1 + 1),l9,i10,i11,l12)))) (some (.inr (((l2,i3,i4,l5)))))
noncomputable def fn_live_spread_l10 (i1:Int) (l2:(List Int)) (x3:(List Int)):Tq14→Option (Tq14⊕Tq15):=fun (i4,l5,i6,i7,l8)=>cond (decide (i4 < (x3.length:Int))) ((getI x3 i4).bind fun x9=>(fn_dense_Set_Has (some (i1,l2)) x9).bind fun t10=>(cond (!t10) ((fn_dense_Set_Add_zi x9).bind fun t11=>some (t11)) (some (false))).bind fun t12=>cond (t12) ((fn_stack_Work_int_Push_p0i_riiod x9 l5 i6 i7 l8).bind fun (t13,l14,i15,i16,l17)=>some (.inl ((IntKind.wrap .i64 (i4 + 1),l14,i15,i16,l17)))) (some (.inl ((IntKind.wrap .i64 (i4 + 1),l5,i6,i7,l8))))) (some (.inr (((l5,i6,i7,l8)))))
noncomputable def fn_live_spread_l11 (xa:Tq22) (i1:Int) (l2:(List Int)):Tq15→Option (Tq15⊕Unit):=fun (l3,i4,i5,l6)=>(fn_stack_Work_int_Len_p0_riiod l3 i4 i5 l6).bind fun (i7,l8,l9)=>cond (decide (0 < i7)) ((fn_stack_Work_int_Pop_p0_riiod l8 i4 i5 l9).bind fun (i10,t11,l12,i13,i14,l15)=>(getI xa i10).bind fun x16=>(loop (fn_live_spread_l10 i1 l2 x16) (0,l12,i13,i14,l15)).bind fun (l17,i18,i19,l20)=>some (.inl (l17,i18,i19,l20))) (some (.inr ((()))))
noncomputable def fn_live_spread_l12 (xb:(List Int)) (i1:Int):Tq12→Option (Tq12⊕Tq10):=fun (i2,l3,l4,i5,i6,l7)=>cond (decide (i2 < (xb.length:Int))) ((getI xb i2).bind fun x8=>(fn_dense_Set_Add_p0i_ir x8 i1 l3).bind fun (t9,l10)=>(fn_stack_Work_int_Push_p0i_riiod x8 l4 i5 i6 l7).bind fun (t11,l12,i13,i14,l15)=>some (.inl ((IntKind.wrap .i64 (i2 + 1),l10,l12,i13,i14,l15)))) (some (.inr (((l3,l4,i5,i6,l7)))))
noncomputable def fn_live_spread_l13 (i1:Int) (l2:(List Int)) (i3:Int) (x4:(List Int)):Tq12→Option (Tq12⊕Tq10):=fun (i5,l6,l7,i8,i9,l10)=>cond (decide (i5 < (x4.length:Int))) ((getI x4 i5).bind fun x11=>(fn_dense_Set_Has (some (i1,l2)) x11).bind fun t12=>cond (!t12) ((fn_dense_Set_Add_p0i_ir x11 i3 l6).bind fun (t13,l14)=>cond (t13) ((fn_stack_Work_int_Push_p0i_riiod x11 l7 i8 i9 l10).bind fun (t15,l16,i17,i18,l19)=>some (.inl ((IntKind.wrap .i64 (i5 + 1),l14,l16,i17,i18,l19)))) (some (.inl ((IntKind.wrap .i64 (i5 + 1),l14,l7,i8,i9,l10))))) (some (.inl ((IntKind.wrap .i64 (i5 + 1),l6,l7,i8,i9,l10))))) (some (.inr (((l6,l7,i8,i9,l10)))))
noncomputable def fn_live_spread_l14 (xa:Tq22) (i1:Int) (l2:(List Int)) (i3:Int):Tq10→Option (Tq10⊕(List Int)):=fun (l4,l5,i6,i7,l8)=>(fn_stack_Work_int_Len_p0_riiod l5 i6 i7 l8).bind fun (i9,l10,l11)=>cond (decide (0 < i9)) ((fn_stack_Work_int_Pop_p0_riiod l10 i6 i7 l11).bind fun (i12,t13,l14,i15,i16,l17)=>(getI xa i12).bind fun x18=>(loop (fn_live_spread_l13 i1 l2 i3 x18) (0,l4,l14,i15,i16,l17)).bind fun (l19,l20,i21,i22,l23)=>some (.inl (l19,l20,i21,i22,l23))) (some (.inr (l4)))
noncomputable def fn_live_spread (xa:Tq22) (xb:(List Int)) (xc:(List Int)):Option ((Unit⊕Tq21)) :=
 (fn_dense_New (xa.length:Int)).bind fun o=>match o with | .inl i1=>((loop (fn_live_spread_l1 xc) 0).bind fun ()=>(fn_dense_New (xa.length:Int)).bind fun o=>match o with | .inl i2=>(loop (fn_live_spread_l2 xb) (0,[],0,0,none)).bind fun (l3,i4,i5,l6)=>(loop (fn_live_spread_l4 xa) (l3,i4,i5,l6)).bind fun ()=>some (.inl ()) | .inr (i7,i8,l9)=>(loop (fn_live_spread_l5 xb i8) (0,l9,[],0,0,none)).bind fun (l10,l11,i12,i13,l14)=>(loop (fn_live_spread_l7 xa i8) (l10,l11,i12,i13,l14)).bind fun l15=>some (.inr (i8,l15))) | .inr (i16,i17,l18)=>(loop (fn_live_spread_l8 xc i17) (0,l18)).bind fun l19=>(fn_dense_New (xa.length:Int)).bind fun o=>match o with | .inl i20=>(loop (fn_live_spread_l9 xb) (0,[],0,0,none)).bind fun (l21,i22,i23,l24)=>(loop (fn_live_spread_l11 xa i17 l19) (l21,i22,i23,l24)).bind fun ()=>some (.inl ()) | .inr (i25,i26,l27)=>(loop (fn_live_spread_l12 xb i26) (0,l27,[],0,0,none)).bind fun (l28,l29,i30,i31,l32)=>(loop (fn_live_spread_l14 xa i17 l19 i26) (l28,l29,i30,i31,l32)).bind fun l33=>some (.inr (i26,l33))
noncomputable def hQ98:Hn Tryz.prog := .c2 oQ85 [] (.jn [] ⟨[],[]⟩ [] (.lp ⟨[kdI 28],[]⟩ (.tw 29 (.cl oQ89 [] .nil) .nil)) (.c2 oQ85 [] (.jn [] ⟨[],[bkC 0 149 [.own 3 Yq2,.dat Yq2,.dat Yq2,.od (.obj 0 Yq4)]]⟩ [0] (.lp ⟨[kdI 44],[bkC 0 149 [.own 3 Yq2,.dat Yq2,.dat Yq2,.od (.obj 0 Yq4)]]⟩ (.tw 45 (.cl oQ89 [] (.cl oQ92 [] .nil)) .nil)) (.jn [] ⟨[],[]⟩ [0,2,4] (.lp ⟨[],[bkC 0 149 [.own 3 Yq2,.dat Yq2,.dat Yq2,.od (.obj 0 Yq4)]]⟩ (.mc 0 1 11 (.mc 0 2 11 (.cl oQ94 [] (.tw 55 (.cl oQ96 [] (.jn [] ⟨[],[bkC 0 149 [.own 3 Yq2,.dat Yq2,.dat Yq2,.od (.obj 0 Yq4)]]⟩ [29,0,31] (.lp ⟨[kdI 65],[bkC 0 149 [.own 3 Yq2,.dat Yq2,.dat Yq2,.od (.obj 0 Yq4)]]⟩ (.tw 66 (.cl oQ88 [] (.gj 3 ⟨[kdB 77],[]⟩ [] (.two 73 (.cl oQ89 [] .nil) .nil) (.tw 77 (.cl oQ92 [] .nil) .nil))) .nil)) .nil)) .nil))))) .nil)) (.jn [(0,0)] ⟨[],[bkC 0 116 [.is 2 (.any),.own 113 Yq10],bkC 4 149 [.own 3 Yq2,.dat Yq2,.dat Yq2,.od (.obj 0 Yq4)],bkU 6]⟩ [4,1,0] (.lp ⟨[kdI 44],[bkC 0 116 [.is 2 (.any),.own 113 Yq10],bkC 4 149 [.own 3 Yq2,.dat Yq2,.dat Yq2,.od (.obj 0 Yq4)],bkU 6]⟩ (.tw 45 (.cl oQ97 [] (.cl oQ92 [] .nil)) .nil)) (.jn [] ⟨[],[bkC 0 116 [.is 1 (.any),.own 113 Yq10],bkU 6]⟩ [0,4,7,10,12] (.lp ⟨[],[bkC 0 116 [.is 2 (.any),.own 113 Yq10],bkC 4 149 [.own 3 Yq2,.dat Yq2,.dat Yq2,.od (.obj 0 Yq4)],bkU 6]⟩ (.mc 4 1 22 (.mc 4 2 22 (.cl oQ94 [] (.tw 55 (.cl oQ96 [] (.jn [] ⟨[],[bkC 0 116 [.is 2 (.any),.own 113 Yq10],bkC 4 149 [.own 3 Yq2,.dat Yq2,.dat Yq2,.od (.obj 0 Yq4)],bkU 6]⟩ [40,4,42,0,15] (.lp ⟨[kdI 65],[bkC 0 116 [.is 2 (.any),.own 113 Yq10],bkC 4 149 [.own 3 Yq2,.dat Yq2,.dat Yq2,.od (.obj 0 Yq4)],bkU 6]⟩ (.tw 66 (.cl oQ88 [] (.two 73 (.cl oQ97 [] (.tw 77 (.cl oQ92 [] .nil) .nil)) .nil)) .nil)) .nil)) .nil))))) (.pl (.pl .nil)))))) (.jn [(0,0)] ⟨[],[bkC 0 116 [.is 1 (.any),.own 113 Yq10],bkU 4]⟩ [1,0] (.lp ⟨[kdI 28],[bkC 0 116 [.is 1 (.any),.own 113 Yq10],bkU 4]⟩ (.tw 29 (.cl oQ97 [] .nil) .nil)) (.c2 oQ85 [] (.jn [] ⟨[],[bkC 8 149 [.own 3 Yq2,.dat Yq2,.dat Yq2,.od (.obj 0 Yq4)]]⟩ [8] (.lp ⟨[kdI 44],[bkC 8 149 [.own 3 Yq2,.dat Yq2,.dat Yq2,.od (.obj 0 Yq4)]]⟩ (.tw 45 (.cl oQ89 [] (.cl oQ92 [] .nil)) .nil)) (.jn [] ⟨[],[]⟩ [8,10,12] (.lp ⟨[],[bkC 8 149 [.own 3 Yq2,.dat Yq2,.dat Yq2,.od (.obj 0 Yq4)]]⟩ (.mc 8 1 19 (.mc 8 2 19 (.cl oQ94 [] (.tw 55 (.cl oQ96 [] (.jn [] ⟨[],[bkC 8 149 [.own 3 Yq2,.dat Yq2,.dat Yq2,.od (.obj 0 Yq4)]]⟩ [37,8,39] (.lp ⟨[kdI 65],[bkC 8 149 [.own 3 Yq2,.dat Yq2,.dat Yq2,.od (.obj 0 Yq4)]]⟩ (.tw 66 (.cl oQ88 [5,0] (.gj 3 ⟨[kdB 77],[]⟩ [] (.two 73 (.cl oQ89 [] .nil) .nil) (.tw 77 (.cl oQ92 [] .nil) .nil))) .nil)) .nil)) .nil))))) .nil)) (.jn [(8,0)] ⟨[],[bkC 8 116 [.is 2 (.any),.own 113 Yq10],bkC 12 149 [.own 3 Yq2,.dat Yq2,.dat Yq2,.od (.obj 0 Yq4)],bkU 14]⟩ [12,9,8] (.lp ⟨[kdI 44],[bkC 8 116 [.is 2 (.any),.own 113 Yq10],bkC 12 149 [.own 3 Yq2,.dat Yq2,.dat Yq2,.od (.obj 0 Yq4)],bkU 14]⟩ (.tw 45 (.cl oQ97 [] (.cl oQ92 [] .nil)) .nil)) (.jn [] ⟨[],[bkC 8 116 [.is 1 (.any),.own 113 Yq10],bkU 14]⟩ [8,12,15,18,20] (.lp ⟨[],[bkC 8 116 [.is 2 (.any),.own 113 Yq10],bkC 12 149 [.own 3 Yq2,.dat Yq2,.dat Yq2,.od (.obj 0 Yq4)],bkU 14]⟩ (.mc 12 1 30 (.mc 12 2 30 (.cl oQ94 [] (.tw 55 (.cl oQ96 [] (.jn [] ⟨[],[bkC 8 116 [.is 2 (.any),.own 113 Yq10],bkC 12 149 [.own 3 Yq2,.dat Yq2,.dat Yq2,.od (.obj 0 Yq4)],bkU 14]⟩ [48,12,50,8,23] (.lp ⟨[kdI 65],[bkC 8 116 [.is 2 (.any),.own 113 Yq10],bkC 12 149 [.own 3 Yq2,.dat Yq2,.dat Yq2,.od (.obj 0 Yq4)],bkU 14]⟩ (.tw 66 (.cl oQ88 [5,0] (.two 73 (.cl oQ97 [] (.tw 77 (.cl oQ92 [] .nil) .nil)) .nil)) .nil)) .nil)) .nil))))) (.pl (.pl .nil))))))
noncomputable def sQ98:Spec:=⟨52,⟨[(0,.dat (.sl (.sl Yq2))),(1,.dat (.sl Yq2)),(2,.dat (.sl Yq2))],[]⟩,[⟨[(0,.nilp)],[]⟩,⟨[(0,.ptr 0 0)],[bkN 116 [.dat Yq2,.own 113 Yq10]]⟩],fun x=>fn_live_spread x.1 x.2.1 x.2.2⟩
noncomputable def oQ98:OkSpec Tryz.prog:=⟨sQ98,fn_is func52 hQ98 (by kernel_rfl) (by kernel_rfl),call52⟩

noncomputable def fn_math_bits_OnesCount64 (xa:Int):Option Int :=
 some (IntKind.wrap .i64 ((BitVec.ofInt (IntKind.bits .i64) (IntKind.wrap .i64 (IntKind.wrap .u64 ((IntKind.wrap .u64 ((IntKind.wrap .u64 ((IntKind.wrap .u64 ((BitVec.ofInt (IntKind.bits .u64) (IntKind.wrap .u64 ((Int.fdiv (IntKind.wrap .u64 ((IntKind.wrap .u64 ((BitVec.ofInt (IntKind.bits .u64) (Int.fdiv (IntKind.wrap .u64 ((IntKind.wrap .u64 ((BitVec.ofInt (IntKind.bits .u64) (Int.fdiv xa (2 ^ (min (Int.toNat 1) (IntKind.bits .u64)))) &&& BitVec.ofInt (IntKind.bits .u64) 6148914691236517205).toNat:Int)) + (IntKind.wrap .u64 ((BitVec.ofInt (IntKind.bits .u64) xa &&& BitVec.ofInt (IntKind.bits .u64) 6148914691236517205).toNat:Int)))) (2 ^ (min (Int.toNat 2) (IntKind.bits .u64)))) &&& BitVec.ofInt (IntKind.bits .u64) 3689348814741910323).toNat:Int)) + (IntKind.wrap .u64 ((BitVec.ofInt (IntKind.bits .u64) (IntKind.wrap .u64 ((IntKind.wrap .u64 ((BitVec.ofInt (IntKind.bits .u64) (Int.fdiv xa (2 ^ (min (Int.toNat 1) (IntKind.bits .u64)))) &&& BitVec.ofInt (IntKind.bits .u64) 6148914691236517205).toNat:Int)) + (IntKind.wrap .u64 ((BitVec.ofInt (IntKind.bits .u64) xa &&& BitVec.ofInt (IntKind.bits .u64) 6148914691236517205).toNat:Int)))) &&& BitVec.ofInt (IntKind.bits .u64) 3689348814741910323).toNat:Int)))) (2 ^ (min (Int.toNat 4) (IntKind.bits .u64)))) + (IntKind.wrap .u64 ((IntKind.wrap .u64 ((BitVec.ofInt (IntKind.bits .u64) (Int.fdiv (IntKind.wrap .u64 ((IntKind.wrap .u64 ((BitVec.ofInt (IntKind.bits .u64) (Int.fdiv xa (2 ^ (min (Int.toNat 1) (IntKind.bits .u64)))) &&& BitVec.ofInt (IntKind.bits .u64) 6148914691236517205).toNat:Int)) + (IntKind.wrap .u64 ((BitVec.ofInt (IntKind.bits .u64) xa &&& BitVec.ofInt (IntKind.bits .u64) 6148914691236517205).toNat:Int)))) (2 ^ (min (Int.toNat 2) (IntKind.bits .u64)))) &&& BitVec.ofInt (IntKind.bits .u64) 3689348814741910323).toNat:Int)) + (IntKind.wrap .u64 ((BitVec.ofInt (IntKind.bits .u64) (IntKind.wrap .u64 ((IntKind.wrap .u64 ((BitVec.ofInt (IntKind.bits .u64) (Int.fdiv xa (2 ^ (min (Int.toNat 1) (IntKind.bits .u64)))) &&& BitVec.ofInt (IntKind.bits .u64) 6148914691236517205).toNat:Int)) + (IntKind.wrap .u64 ((BitVec.ofInt (IntKind.bits .u64) xa &&& BitVec.ofInt (IntKind.bits .u64) 6148914691236517205).toNat:Int)))) &&& BitVec.ofInt (IntKind.bits .u64) 3689348814741910323).toNat:Int)))))) &&& BitVec.ofInt (IntKind.bits .u64) 1085102592571150095).toNat:Int)) + (Int.fdiv (IntKind.wrap .u64 ((BitVec.ofInt (IntKind.bits .u64) (IntKind.wrap .u64 ((Int.fdiv (IntKind.wrap .u64 ((IntKind.wrap .u64 ((BitVec.ofInt (IntKind.bits .u64) (Int.fdiv (IntKind.wrap .u64 ((IntKind.wrap .u64 ((BitVec.ofInt (IntKind.bits .u64) (Int.fdiv xa (2 ^ (min (Int.toNat 1) (IntKind.bits .u64)))) &&& BitVec.ofInt (IntKind.bits .u64) 6148914691236517205).toNat:Int)) + (IntKind.wrap .u64 ((BitVec.ofInt (IntKind.bits .u64) xa &&& BitVec.ofInt (IntKind.bits .u64) 6148914691236517205).toNat:Int)))) (2 ^ (min (Int.toNat 2) (IntKind.bits .u64)))) &&& BitVec.ofInt (IntKind.bits .u64) 3689348814741910323).toNat:Int)) + (IntKind.wrap .u64 ((BitVec.ofInt (IntKind.bits .u64) (IntKind.wrap .u64 ((IntKind.wrap .u64 ((BitVec.ofInt (IntKind.bits .u64) (Int.fdiv xa (2 ^ (min (Int.toNat 1) (IntKind.bits .u64)))) &&& BitVec.ofInt (IntKind.bits .u64) 6148914691236517205).toNat:Int)) + (IntKind.wrap .u64 ((BitVec.ofInt (IntKind.bits .u64) xa &&& BitVec.ofInt (IntKind.bits .u64) 6148914691236517205).toNat:Int)))) &&& BitVec.ofInt (IntKind.bits .u64) 3689348814741910323).toNat:Int)))) (2 ^ (min (Int.toNat 4) (IntKind.bits .u64)))) + (IntKind.wrap .u64 ((IntKind.wrap .u64 ((BitVec.ofInt (IntKind.bits .u64) (Int.fdiv (IntKind.wrap .u64 ((IntKind.wrap .u64 ((BitVec.ofInt (IntKind.bits .u64) (Int.fdiv xa (2 ^ (min (Int.toNat 1) (IntKind.bits .u64)))) &&& BitVec.ofInt (IntKind.bits .u64) 6148914691236517205).toNat:Int)) + (IntKind.wrap .u64 ((BitVec.ofInt (IntKind.bits .u64) xa &&& BitVec.ofInt (IntKind.bits .u64) 6148914691236517205).toNat:Int)))) (2 ^ (min (Int.toNat 2) (IntKind.bits .u64)))) &&& BitVec.ofInt (IntKind.bits .u64) 3689348814741910323).toNat:Int)) + (IntKind.wrap .u64 ((BitVec.ofInt (IntKind.bits .u64) (IntKind.wrap .u64 ((IntKind.wrap .u64 ((BitVec.ofInt (IntKind.bits .u64) (Int.fdiv xa (2 ^ (min (Int.toNat 1) (IntKind.bits .u64)))) &&& BitVec.ofInt (IntKind.bits .u64) 6148914691236517205).toNat:Int)) + (IntKind.wrap .u64 ((BitVec.ofInt (IntKind.bits .u64) xa &&& BitVec.ofInt (IntKind.bits .u64) 6148914691236517205).toNat:Int)))) &&& BitVec.ofInt (IntKind.bits .u64) 3689348814741910323).toNat:Int)))))) &&& BitVec.ofInt (IntKind.bits .u64) 1085102592571150095).toNat:Int)) (2 ^ (min (Int.toNat 8) (IntKind.bits .u64)))))) + (Int.fdiv (IntKind.wrap .u64 ((IntKind.wrap .u64 ((BitVec.ofInt (IntKind.bits .u64) (IntKind.wrap .u64 ((Int.fdiv (IntKind.wrap .u64 ((IntKind.wrap .u64 ((BitVec.ofInt (IntKind.bits .u64) (Int.fdiv (IntKind.wrap .u64 ((IntKind.wrap .u64 ((BitVec.ofInt (IntKind.bits .u64) (Int.fdiv xa (2 ^ (min (Int.toNat 1) (IntKind.bits .u64)))) &&& BitVec.ofInt (IntKind.bits .u64) 6148914691236517205).toNat:Int)) + (IntKind.wrap .u64 ((BitVec.ofInt (IntKind.bits .u64) xa &&& BitVec.ofInt (IntKind.bits .u64) 6148914691236517205).toNat:Int)))) (2 ^ (min (Int.toNat 2) (IntKind.bits .u64)))) &&& BitVec.ofInt (IntKind.bits .u64) 3689348814741910323).toNat:Int)) + (IntKind.wrap .u64 ((BitVec.ofInt (IntKind.bits .u64) (IntKind.wrap .u64 ((IntKind.wrap .u64 ((BitVec.ofInt (IntKind.bits .u64) (Int.fdiv xa (2 ^ (min (Int.toNat 1) (IntKind.bits .u64)))) &&& BitVec.ofInt (IntKind.bits .u64) 6148914691236517205).toNat:Int)) + (IntKind.wrap .u64 ((BitVec.ofInt (IntKind.bits .u64) xa &&& BitVec.ofInt (IntKind.bits .u64) 6148914691236517205).toNat:Int)))) &&& BitVec.ofInt (IntKind.bits .u64) 3689348814741910323).toNat:Int)))) (2 ^ (min (Int.toNat 4) (IntKind.bits .u64)))) + (IntKind.wrap .u64 ((IntKind.wrap .u64 ((BitVec.ofInt (IntKind.bits .u64) (Int.fdiv (IntKind.wrap .u64 ((IntKind.wrap .u64 ((BitVec.ofInt (IntKind.bits .u64) (Int.fdiv xa (2 ^ (min (Int.toNat 1) (IntKind.bits .u64)))) &&& BitVec.ofInt (IntKind.bits .u64) 6148914691236517205).toNat:Int)) + (IntKind.wrap .u64 ((BitVec.ofInt (IntKind.bits .u64) xa &&& BitVec.ofInt (IntKind.bits .u64) 6148914691236517205).toNat:Int)))) (2 ^ (min (Int.toNat 2) (IntKind.bits .u64)))) &&& BitVec.ofInt (IntKind.bits .u64) 3689348814741910323).toNat:Int)) + (IntKind.wrap .u64 ((BitVec.ofInt (IntKind.bits .u64) (IntKind.wrap .u64 ((IntKind.wrap .u64 ((BitVec.ofInt (IntKind.bits .u64) (Int.fdiv xa (2 ^ (min (Int.toNat 1) (IntKind.bits .u64)))) &&& BitVec.ofInt (IntKind.bits .u64) 6148914691236517205).toNat:Int)) + (IntKind.wrap .u64 ((BitVec.ofInt (IntKind.bits .u64) xa &&& BitVec.ofInt (IntKind.bits .u64) 6148914691236517205).toNat:Int)))) &&& BitVec.ofInt (IntKind.bits .u64) 3689348814741910323).toNat:Int)))))) &&& BitVec.ofInt (IntKind.bits .u64) 1085102592571150095).toNat:Int)) + (Int.fdiv (IntKind.wrap .u64 ((BitVec.ofInt (IntKind.bits .u64) (IntKind.wrap .u64 ((Int.fdiv (IntKind.wrap .u64 ((IntKind.wrap .u64 ((BitVec.ofInt (IntKind.bits .u64) (Int.fdiv (IntKind.wrap .u64 ((IntKind.wrap .u64 ((BitVec.ofInt (IntKind.bits .u64) (Int.fdiv xa (2 ^ (min (Int.toNat 1) (IntKind.bits .u64)))) &&& BitVec.ofInt (IntKind.bits .u64) 6148914691236517205).toNat:Int)) + (IntKind.wrap .u64 ((BitVec.ofInt (IntKind.bits .u64) xa &&& BitVec.ofInt (IntKind.bits .u64) 6148914691236517205).toNat:Int)))) (2 ^ (min (Int.toNat 2) (IntKind.bits .u64)))) &&& BitVec.ofInt (IntKind.bits .u64) 3689348814741910323).toNat:Int)) + (IntKind.wrap .u64 ((BitVec.ofInt (IntKind.bits .u64) (IntKind.wrap .u64 ((IntKind.wrap .u64 ((BitVec.ofInt (IntKind.bits .u64) (Int.fdiv xa (2 ^ (min (Int.toNat 1) (IntKind.bits .u64)))) &&& BitVec.ofInt (IntKind.bits .u64) 6148914691236517205).toNat:Int)) + (IntKind.wrap .u64 ((BitVec.ofInt (IntKind.bits .u64) xa &&& BitVec.ofInt (IntKind.bits .u64) 6148914691236517205).toNat:Int)))) &&& BitVec.ofInt (IntKind.bits .u64) 3689348814741910323).toNat:Int)))) (2 ^ (min (Int.toNat 4) (IntKind.bits .u64)))) + (IntKind.wrap .u64 ((IntKind.wrap .u64 ((BitVec.ofInt (IntKind.bits .u64) (Int.fdiv (IntKind.wrap .u64 ((IntKind.wrap .u64 ((BitVec.ofInt (IntKind.bits .u64) (Int.fdiv xa (2 ^ (min (Int.toNat 1) (IntKind.bits .u64)))) &&& BitVec.ofInt (IntKind.bits .u64) 6148914691236517205).toNat:Int)) + (IntKind.wrap .u64 ((BitVec.ofInt (IntKind.bits .u64) xa &&& BitVec.ofInt (IntKind.bits .u64) 6148914691236517205).toNat:Int)))) (2 ^ (min (Int.toNat 2) (IntKind.bits .u64)))) &&& BitVec.ofInt (IntKind.bits .u64) 3689348814741910323).toNat:Int)) + (IntKind.wrap .u64 ((BitVec.ofInt (IntKind.bits .u64) (IntKind.wrap .u64 ((IntKind.wrap .u64 ((BitVec.ofInt (IntKind.bits .u64) (Int.fdiv xa (2 ^ (min (Int.toNat 1) (IntKind.bits .u64)))) &&& BitVec.ofInt (IntKind.bits .u64) 6148914691236517205).toNat:Int)) + (IntKind.wrap .u64 ((BitVec.ofInt (IntKind.bits .u64) xa &&& BitVec.ofInt (IntKind.bits .u64) 6148914691236517205).toNat:Int)))) &&& BitVec.ofInt (IntKind.bits .u64) 3689348814741910323).toNat:Int)))))) &&& BitVec.ofInt (IntKind.bits .u64) 1085102592571150095).toNat:Int)) (2 ^ (min (Int.toNat 8) (IntKind.bits .u64)))))) (2 ^ (min (Int.toNat 16) (IntKind.bits .u64)))))) + (Int.fdiv (IntKind.wrap .u64 ((IntKind.wrap .u64 ((IntKind.wrap .u64 ((BitVec.ofInt (IntKind.bits .u64) (IntKind.wrap .u64 ((Int.fdiv (IntKind.wrap .u64 ((IntKind.wrap .u64 ((BitVec.ofInt (IntKind.bits .u64) (Int.fdiv (IntKind.wrap .u64 ((IntKind.wrap .u64 ((BitVec.ofInt (IntKind.bits .u64) (Int.fdiv xa (2 ^ (min (Int.toNat 1) (IntKind.bits .u64)))) &&& BitVec.ofInt (IntKind.bits .u64) 6148914691236517205).toNat:Int)) + (IntKind.wrap .u64 ((BitVec.ofInt (IntKind.bits .u64) xa &&& BitVec.ofInt (IntKind.bits .u64) 6148914691236517205).toNat:Int)))) (2 ^ (min (Int.toNat 2) (IntKind.bits .u64)))) &&& BitVec.ofInt (IntKind.bits .u64) 3689348814741910323).toNat:Int)) + (IntKind.wrap .u64 ((BitVec.ofInt (IntKind.bits .u64) (IntKind.wrap .u64 ((IntKind.wrap .u64 ((BitVec.ofInt (IntKind.bits .u64) (Int.fdiv xa (2 ^ (min (Int.toNat 1) (IntKind.bits .u64)))) &&& BitVec.ofInt (IntKind.bits .u64) 6148914691236517205).toNat:Int)) + (IntKind.wrap .u64 ((BitVec.ofInt (IntKind.bits .u64) xa &&& BitVec.ofInt (IntKind.bits .u64) 6148914691236517205).toNat:Int)))) &&& BitVec.ofInt (IntKind.bits .u64) 3689348814741910323).toNat:Int)))) (2 ^ (min (Int.toNat 4) (IntKind.bits .u64)))) + (IntKind.wrap .u64 ((IntKind.wrap .u64 ((BitVec.ofInt (IntKind.bits .u64) (Int.fdiv (IntKind.wrap .u64 ((IntKind.wrap .u64 ((BitVec.ofInt (IntKind.bits .u64) (Int.fdiv xa (2 ^ (min (Int.toNat 1) (IntKind.bits .u64)))) &&& BitVec.ofInt (IntKind.bits .u64) 6148914691236517205).toNat:Int)) + (IntKind.wrap .u64 ((BitVec.ofInt (IntKind.bits .u64) xa &&& BitVec.ofInt (IntKind.bits .u64) 6148914691236517205).toNat:Int)))) (2 ^ (min (Int.toNat 2) (IntKind.bits .u64)))) &&& BitVec.ofInt (IntKind.bits .u64) 3689348814741910323).toNat:Int)) + (IntKind.wrap .u64 ((BitVec.ofInt (IntKind.bits .u64) (IntKind.wrap .u64 ((IntKind.wrap .u64 ((BitVec.ofInt (IntKind.bits .u64) (Int.fdiv xa (2 ^ (min (Int.toNat 1) (IntKind.bits .u64)))) &&& BitVec.ofInt (IntKind.bits .u64) 6148914691236517205).toNat:Int)) + (IntKind.wrap .u64 ((BitVec.ofInt (IntKind.bits .u64) xa &&& BitVec.ofInt (IntKind.bits .u64) 6148914691236517205).toNat:Int)))) &&& BitVec.ofInt (IntKind.bits .u64) 3689348814741910323).toNat:Int)))))) &&& BitVec.ofInt (IntKind.bits .u64) 1085102592571150095).toNat:Int)) + (Int.fdiv (IntKind.wrap .u64 ((BitVec.ofInt (IntKind.bits .u64) (IntKind.wrap .u64 ((Int.fdiv (IntKind.wrap .u64 ((IntKind.wrap .u64 ((BitVec.ofInt (IntKind.bits .u64) (Int.fdiv (IntKind.wrap .u64 ((IntKind.wrap .u64 ((BitVec.ofInt (IntKind.bits .u64) (Int.fdiv xa (2 ^ (min (Int.toNat 1) (IntKind.bits .u64)))) &&& BitVec.ofInt (IntKind.bits .u64) 6148914691236517205).toNat:Int)) + (IntKind.wrap .u64 ((BitVec.ofInt (IntKind.bits .u64) xa &&& BitVec.ofInt (IntKind.bits .u64) 6148914691236517205).toNat:Int)))) (2 ^ (min (Int.toNat 2) (IntKind.bits .u64)))) &&& BitVec.ofInt (IntKind.bits .u64) 3689348814741910323).toNat:Int)) + (IntKind.wrap .u64 ((BitVec.ofInt (IntKind.bits .u64) (IntKind.wrap .u64 ((IntKind.wrap .u64 ((BitVec.ofInt (IntKind.bits .u64) (Int.fdiv xa (2 ^ (min (Int.toNat 1) (IntKind.bits .u64)))) &&& BitVec.ofInt (IntKind.bits .u64) 6148914691236517205).toNat:Int)) + (IntKind.wrap .u64 ((BitVec.ofInt (IntKind.bits .u64) xa &&& BitVec.ofInt (IntKind.bits .u64) 6148914691236517205).toNat:Int)))) &&& BitVec.ofInt (IntKind.bits .u64) 3689348814741910323).toNat:Int)))) (2 ^ (min (Int.toNat 4) (IntKind.bits .u64)))) + (IntKind.wrap .u64 ((IntKind.wrap .u64 ((BitVec.ofInt (IntKind.bits .u64) (Int.fdiv (IntKind.wrap .u64 ((IntKind.wrap .u64 ((BitVec.ofInt (IntKind.bits .u64) (Int.fdiv xa (2 ^ (min (Int.toNat 1) (IntKind.bits .u64)))) &&& BitVec.ofInt (IntKind.bits .u64) 6148914691236517205).toNat:Int)) + (IntKind.wrap .u64 ((BitVec.ofInt (IntKind.bits .u64) xa &&& BitVec.ofInt (IntKind.bits .u64) 6148914691236517205).toNat:Int)))) (2 ^ (min (Int.toNat 2) (IntKind.bits .u64)))) &&& BitVec.ofInt (IntKind.bits .u64) 3689348814741910323).toNat:Int)) + (IntKind.wrap .u64 ((BitVec.ofInt (IntKind.bits .u64) (IntKind.wrap .u64 ((IntKind.wrap .u64 ((BitVec.ofInt (IntKind.bits .u64) (Int.fdiv xa (2 ^ (min (Int.toNat 1) (IntKind.bits .u64)))) &&& BitVec.ofInt (IntKind.bits .u64) 6148914691236517205).toNat:Int)) + (IntKind.wrap .u64 ((BitVec.ofInt (IntKind.bits .u64) xa &&& BitVec.ofInt (IntKind.bits .u64) 6148914691236517205).toNat:Int)))) &&& BitVec.ofInt (IntKind.bits .u64) 3689348814741910323).toNat:Int)))))) &&& BitVec.ofInt (IntKind.bits .u64) 1085102592571150095).toNat:Int)) (2 ^ (min (Int.toNat 8) (IntKind.bits .u64)))))) + (Int.fdiv (IntKind.wrap .u64 ((IntKind.wrap .u64 ((BitVec.ofInt (IntKind.bits .u64) (IntKind.wrap .u64 ((Int.fdiv (IntKind.wrap .u64 ((IntKind.wrap .u64 ((BitVec.ofInt (IntKind.bits .u64) (Int.fdiv (IntKind.wrap .u64 ((IntKind.wrap .u64 ((BitVec.ofInt (IntKind.bits .u64) (Int.fdiv xa (2 ^ (min (Int.toNat 1) (IntKind.bits .u64)))) &&& BitVec.ofInt (IntKind.bits .u64) 6148914691236517205).toNat:Int)) + (IntKind.wrap .u64 ((BitVec.ofInt (IntKind.bits .u64) xa &&& BitVec.ofInt (IntKind.bits .u64) 6148914691236517205).toNat:Int)))) (2 ^ (min (Int.toNat 2) (IntKind.bits .u64)))) &&& BitVec.ofInt (IntKind.bits .u64) 3689348814741910323).toNat:Int)) + (IntKind.wrap .u64 ((BitVec.ofInt (IntKind.bits .u64) (IntKind.wrap .u64 ((IntKind.wrap .u64 ((BitVec.ofInt (IntKind.bits .u64) (Int.fdiv xa (2 ^ (min (Int.toNat 1) (IntKind.bits .u64)))) &&& BitVec.ofInt (IntKind.bits .u64) 6148914691236517205).toNat:Int)) + (IntKind.wrap .u64 ((BitVec.ofInt (IntKind.bits .u64) xa &&& BitVec.ofInt (IntKind.bits .u64) 6148914691236517205).toNat:Int)))) &&& BitVec.ofInt (IntKind.bits .u64) 3689348814741910323).toNat:Int)))) (2 ^ (min (Int.toNat 4) (IntKind.bits .u64)))) + (IntKind.wrap .u64 ((IntKind.wrap .u64 ((BitVec.ofInt (IntKind.bits .u64) (Int.fdiv (IntKind.wrap .u64 ((IntKind.wrap .u64 ((BitVec.ofInt (IntKind.bits .u64) (Int.fdiv xa (2 ^ (min (Int.toNat 1) (IntKind.bits .u64)))) &&& BitVec.ofInt (IntKind.bits .u64) 6148914691236517205).toNat:Int)) + (IntKind.wrap .u64 ((BitVec.ofInt (IntKind.bits .u64) xa &&& BitVec.ofInt (IntKind.bits .u64) 6148914691236517205).toNat:Int)))) (2 ^ (min (Int.toNat 2) (IntKind.bits .u64)))) &&& BitVec.ofInt (IntKind.bits .u64) 3689348814741910323).toNat:Int)) + (IntKind.wrap .u64 ((BitVec.ofInt (IntKind.bits .u64) (IntKind.wrap .u64 ((IntKind.wrap .u64 ((BitVec.ofInt (IntKind.bits .u64) (Int.fdiv xa (2 ^ (min (Int.toNat 1) (IntKind.bits .u64)))) &&& BitVec.ofInt (IntKind.bits .u64) 6148914691236517205).toNat:Int)) + (IntKind.wrap .u64 ((BitVec.ofInt (IntKind.bits .u64) xa &&& BitVec.ofInt (IntKind.bits .u64) 6148914691236517205).toNat:Int)))) &&& BitVec.ofInt (IntKind.bits .u64) 3689348814741910323).toNat:Int)))))) &&& BitVec.ofInt (IntKind.bits .u64) 1085102592571150095).toNat:Int)) + (Int.fdiv (IntKind.wrap .u64 ((BitVec.ofInt (IntKind.bits .u64) (IntKind.wrap .u64 ((Int.fdiv (IntKind.wrap .u64 ((IntKind.wrap .u64 ((BitVec.ofInt (IntKind.bits .u64) (Int.fdiv (IntKind.wrap .u64 ((IntKind.wrap .u64 ((BitVec.ofInt (IntKind.bits .u64) (Int.fdiv xa (2 ^ (min (Int.toNat 1) (IntKind.bits .u64)))) &&& BitVec.ofInt (IntKind.bits .u64) 6148914691236517205).toNat:Int)) + (IntKind.wrap .u64 ((BitVec.ofInt (IntKind.bits .u64) xa &&& BitVec.ofInt (IntKind.bits .u64) 6148914691236517205).toNat:Int)))) (2 ^ (min (Int.toNat 2) (IntKind.bits .u64)))) &&& BitVec.ofInt (IntKind.bits .u64) 3689348814741910323).toNat:Int)) + (IntKind.wrap .u64 ((BitVec.ofInt (IntKind.bits .u64) (IntKind.wrap .u64 ((IntKind.wrap .u64 ((BitVec.ofInt (IntKind.bits .u64) (Int.fdiv xa (2 ^ (min (Int.toNat 1) (IntKind.bits .u64)))) &&& BitVec.ofInt (IntKind.bits .u64) 6148914691236517205).toNat:Int)) + (IntKind.wrap .u64 ((BitVec.ofInt (IntKind.bits .u64) xa &&& BitVec.ofInt (IntKind.bits .u64) 6148914691236517205).toNat:Int)))) &&& BitVec.ofInt (IntKind.bits .u64) 3689348814741910323).toNat:Int)))) (2 ^ (min (Int.toNat 4) (IntKind.bits .u64)))) + (IntKind.wrap .u64 ((IntKind.wrap .u64 ((BitVec.ofInt (IntKind.bits .u64) (Int.fdiv (IntKind.wrap .u64 ((IntKind.wrap .u64 ((BitVec.ofInt (IntKind.bits .u64) (Int.fdiv xa (2 ^ (min (Int.toNat 1) (IntKind.bits .u64)))) &&& BitVec.ofInt (IntKind.bits .u64) 6148914691236517205).toNat:Int)) + (IntKind.wrap .u64 ((BitVec.ofInt (IntKind.bits .u64) xa &&& BitVec.ofInt (IntKind.bits .u64) 6148914691236517205).toNat:Int)))) (2 ^ (min (Int.toNat 2) (IntKind.bits .u64)))) &&& BitVec.ofInt (IntKind.bits .u64) 3689348814741910323).toNat:Int)) + (IntKind.wrap .u64 ((BitVec.ofInt (IntKind.bits .u64) (IntKind.wrap .u64 ((IntKind.wrap .u64 ((BitVec.ofInt (IntKind.bits .u64) (Int.fdiv xa (2 ^ (min (Int.toNat 1) (IntKind.bits .u64)))) &&& BitVec.ofInt (IntKind.bits .u64) 6148914691236517205).toNat:Int)) + (IntKind.wrap .u64 ((BitVec.ofInt (IntKind.bits .u64) xa &&& BitVec.ofInt (IntKind.bits .u64) 6148914691236517205).toNat:Int)))) &&& BitVec.ofInt (IntKind.bits .u64) 3689348814741910323).toNat:Int)))))) &&& BitVec.ofInt (IntKind.bits .u64) 1085102592571150095).toNat:Int)) (2 ^ (min (Int.toNat 8) (IntKind.bits .u64)))))) (2 ^ (min (Int.toNat 16) (IntKind.bits .u64)))))) (2 ^ (min (Int.toNat 32) (IntKind.bits .u64))))))) &&& BitVec.ofInt (IntKind.bits .i64) 127).toNat:Int))
noncomputable def hQ99:Hn Tryz.prog := .nil
noncomputable def sQ99:Spec:=⟨73,⟨[(0,.dat Yq10)],[]⟩,[⟨[kdI 0],[]⟩],fun x=>fn_math_bits_OnesCount64 x⟩
noncomputable def oQ99:OkSpec Tryz.prog:=⟨sQ99,fn_is func73 hQ99 (by kernel_rfl) (by kernel_rfl),call73⟩
noncomputable def fn_dense_Set_Count_l1 (y1:Tq21):Tq23→Option (Tq23⊕Int):=fun (i2,i3)=>cond (decide (i3 < (y1.2.length:Int))) ((getI y1.2 i3).bind fun x4=>(fn_math_bits_OnesCount64 x4).bind fun i5=>some (.inl ((IntKind.wrap .i64 (i2 + i5),IntKind.wrap .i64 (i3 + 1))))) (some (.inr (i2)))
noncomputable def fn_dense_Set_Count (xa:Tq7):Option Int :=
 cond (xa.isNone) (some (0)) (xa.bind fun y1=>(loop (fn_dense_Set_Count_l1 y1) (0,0)).bind fun i2=>some (i2))
noncomputable def hQ100:Hn Tryz.prog := .tw 7 .nil (.jn [] ⟨[kdI 3],[]⟩ [] (.lp ⟨[kdI 3,kdI 13],[]⟩ (.tw 14 (.cl oQ99 [] .nil) .nil)) .nil)
noncomputable def sQ100:Spec:=⟨45,⟨[(0,.dat Yq8)],[]⟩,[⟨[kdI 0],[]⟩],fun x=>fn_dense_Set_Count x⟩
noncomputable def oQ100:OkSpec Tryz.prog:=⟨sQ100,fn_is func45 hQ100 (by kernel_rfl) (by kernel_rfl),call45⟩
noncomputable def fn_live_Of_az_l1 (p1:(Option Tq24)) (l2:Tq22) (z3:List Tq7):(Int×(List Tq7))→Option ((Int×(List Tq7))⊕(List Tq7)):=fun (i4,l5)=>cond (decide (i4 < (z3.length:Int))) ((fn_touch_Touches_Of p1 i4).bind fun (l6,l7)=>cond (decide (0 < (l6.length:Int))) ((getI l5 i4).bind fun x8=>(fn_live_spread l2 l6 l7).bind fun o=>match o with | .inl _=>(getI l5 i4).bind fun _=>(chkI i4 i4).bind fun _=>(getI (l5.set i4.toNat none) i4).bind fun x9=>(getI (l5.set i4.toNat none) i4).bind fun _=>(chkI i4 i4).bind fun _=>(fn_dense_Set_Count x9).bind fun i10=>(fn_tick_Counter_Add_zii 2 i10).bind fun _=>some (.inl ((IntKind.wrap .i64 (i4 + 1),(l5.set i4.toNat none).set i4.toNat x9))) | .inr (i11,l12)=>(getI l5 i4).bind fun _=>(chkI i4 i4).bind fun _=>(getI (l5.set i4.toNat (some (i11,l12))) i4).bind fun x13=>(getI (l5.set i4.toNat (some (i11,l12))) i4).bind fun _=>(chkI i4 i4).bind fun _=>(fn_dense_Set_Count x13).bind fun i14=>(fn_tick_Counter_Add_zii 2 i14).bind fun _=>some (.inl ((IntKind.wrap .i64 (i4 + 1),(l5.set i4.toNat (some (i11,l12))).set i4.toNat x13)))) (some (.inl ((IntKind.wrap .i64 (i4 + 1),l5))))) (some (.inr (l5)))
noncomputable def fn_live_Of_az (xa:Tq1):Option ((Option (Int×(List Tq7)))) :=
 (fn_touch_New xa).bind fun p1=>(fn_touch_Touches_Len p1).bind fun i2=>cond (decide (i2=0)) (some ((some (i2,[])))) ((fn_tick_Counter_Add_zii 2 i2).bind fun _=>(fn_flow_New xa).bind fun p3=>(fn_live_backs p3 i2).bind fun l4=>(mk (xa.2.2.2.1.length:Int) (xa.2.2.2.1.length:Int) none:Option (List Tq7)).bind fun z5=>(loop (fn_live_Of_az_l1 p1 l4 z5) (0,z5)).bind fun l6=>some ((some (i2,l6))))
noncomputable def hQ101:Hn Tryz.prog := .cl oQ59 [] (.cl oQ60 [] (.tw 21 (.perb 2 3 (.cons Yq2 (.one (.sl Yq8))) .nil) (.cl oQ3 [] (.mix [([0,2,3,4,5],1)] [] [6,7] [] (.cl oQ74 [] (.cl oQ83 [] (.ot (.box 116 (.cons (.dat Yq2) (.one (.row 113 (.dat Yq10))))) (.per 4 5 (.jn [] ⟨[],[bkO 6 (.row 86 (.box 116 (.cons (.dat Yq2) (.one (.row 113 (.dat Yq10))))))]⟩ [6,0] (.lp ⟨[kdI 48],[bkO 6 (.row 86 (.box 116 (.cons (.dat Yq2) (.one (.row 113 (.dat Yq10))))))]⟩ (.tw 49 (.cl oQ84 [] (.tw 59 (.opp [4] 6 64 (.mix [([0,1,2,3,4,5,6,7],8)] [9] [10] [12,10] (.per 10 11 (.per 12 13 (.c2 oQ98 [] (.cls 6 16 (.opn 6 75 (.cl oQ100 [19] (.cl oQ3 [] (.cls 6 18 .nil))))) (.cls 6 20 (.opn 6 75 (.cl oQ100 [23] (.cl oQ3 [] (.cls 6 22 .nil)))))))))) .nil)) .nil)) (.per 6 9 (.perb 2 8 (.cons Yq2 (.one (.sl Yq8))) .nil)))))))))))
noncomputable def sQ101:Spec:=⟨24,⟨[(0,.dat Yq1),(1,.nilp)],[]⟩,[⟨[(0,.dat (.ptr (.cons Yq2 (.one (.sl Yq8)))))],[]⟩],fun x=>fn_live_Of_az x⟩
noncomputable def oQ101:OkSpec Tryz.prog:=⟨sQ101,fn_is func24 hQ101 (by kernel_rfl) (by kernel_rfl),call24⟩

noncomputable def fn_live_Live_Len (xa:(Option (Int×(List Tq7)))):Option Int :=
 cond (xa.isNone) (some (0)) (xa.bind fun y11=>some (y11.1))
noncomputable def hQ102:Hn Tryz.prog := .tw 4 .nil .nil
noncomputable def sQ102:Spec:=⟨25,⟨[(0,.dat (.ptr (.cons Yq2 (.one (.sl Yq8)))))],[]⟩,[⟨[kdI 0],[]⟩],fun x=>fn_live_Live_Len x⟩
noncomputable def oQ102:OkSpec Tryz.prog:=⟨sQ102,fn_is func25 hQ102 (by kernel_rfl) (by kernel_rfl),call25⟩

noncomputable def fn_sparse_mayBe (xa:Int):Option Bool :=
 some ((decide (0≤xa))&&(decide (xa≤2147483647)))
noncomputable def hQ103:Hn Tryz.prog := .gp 2 .nil
noncomputable def sQ103:Spec:=⟨90,⟨[kdI 0],[]⟩,[⟨[kdB 0],[]⟩],fun x=>fn_sparse_mayBe x⟩
noncomputable def oQ103:OkSpec Tryz.prog:=⟨sQ103,fn_is func90 hQ103 (by kernel_rfl) (by kernel_rfl),call90⟩
noncomputable def fn_sparse_Of_l1 (xa:(List Int)):Tq21→Option (Tq21⊕(List Int)):=fun (i1,l2)=>cond (decide (i1 < (xa.length:Int))) ((getI xa i1).bind fun x3=>(fn_sparse_mayBe x3).bind fun t4=>cond (t4) ((app l2 ([x3]:List Int)).bind fun z5=>some (.inl ((IntKind.wrap .i64 (i1 + 1),z5)))) (some (.inl ((IntKind.wrap .i64 (i1 + 1),l2))))) (some (.inr (l2)))
noncomputable def fn_sparse_Of (xa:(List Int)):Option (List Int) :=
 (loop (fn_sparse_Of_l1 xa) (0,[])).bind fun l1=>(srt l1).bind fun l2=>(cmpt l2).bind fun l3=>some (l3)
noncomputable def hQ104:Hn Tryz.prog := .jn [] ⟨[],[bkC 0 120 [.own 3 Yq2]]⟩ [0] (.lp ⟨[kdI 10],[bkC 0 120 [.own 3 Yq2]]⟩ (.tw 11 (.cl oQ103 [] (.tw 15 .nil .nil)) .nil)) (.cl ok_Sort [] (.cl ok_Compact [] .nil))
noncomputable def sQ104:Spec:=⟨88,⟨[(0,.dat (.sl Yq2))],[]⟩,[⟨[(0,.ptr 0 0)],[bkN 120 [.own 3 Yq2]]⟩],fun x=>fn_sparse_Of x⟩
noncomputable def oQ104:OkSpec Tryz.prog:=⟨sQ104,fn_is func88 hQ104 (by kernel_rfl) (by kernel_rfl),call88⟩

noncomputable def fn_mixed_New (xa:Int):Option ((Int⊕(Int×Int×Tq16))) :=
 cond (decide (xa < 0)) (some (.inl 2)) (cond (decide (1048576 < xa)) (some (.inl 5)) ((fn_sparse_Of ([])).bind fun l26=>some (.inr (0,xa,some l26))))
noncomputable def hQ105:Hn Tryz.prog := .tw 5 .nil (.tw 7 .nil (.cl oQ104 [] (.pl .nil)))
noncomputable def sQ105:Spec:=⟨53,⟨[kdI 0],[]⟩,[⟨[(0,.tup [.nilp,.dat Yq2])],[]⟩,⟨[(0,.tup [.ptr 0 0,.dat Yq2])],[bkN 88 [.dat Yq2,.od (.box 120 (.one (.row 3 (.dat Yq2)))),.nilp]]⟩],fun x=>fn_mixed_New x⟩
noncomputable def oQ105:OkSpec Tryz.prog:=⟨sQ105,fn_is func53 hQ105 (by kernel_rfl) (by kernel_rfl),call53⟩

noncomputable def fn_seed_empty (xa:Int):Option ((Unit⊕(Int×Tq16))) :=
 (fn_mixed_New xa).bind fun o=>match o with | .inl i22=>some (.inl ()) | .inr (i26,i27,l28)=>some (.inr (i27,l28))
noncomputable def hQ106:Hn Tryz.prog := .c2 oQ105 [] .nil (.pl (.pl .nil))
noncomputable def sQ106:Spec:=⟨27,⟨[kdI 0],[]⟩,[⟨[(0,.nilp)],[]⟩,⟨[(0,.ptr 0 0)],[bkN 88 [.dat Yq2,.od (.box 120 (.one (.row 3 (.dat Yq2)))),.nilp]]⟩],fun x=>fn_seed_empty x⟩
noncomputable def oQ106:OkSpec Tryz.prog:=⟨sQ106,fn_is func27 hQ106 (by kernel_rfl) (by kernel_rfl),call27⟩

noncomputable def fn_mixed_Set_Size (xa:(Option Tq2)):Option Int :=
 cond (xa.isNone) (some (0)) (xa.bind fun y11=>some (y11.1))
noncomputable def hQ107:Hn Tryz.prog := .tw 4 .nil .nil
noncomputable def sQ107:Spec:=⟨16,⟨[(0,.dat Yq14)],[]⟩,[⟨[kdI 0],[]⟩],fun x=>fn_mixed_Set_Size x⟩
noncomputable def oQ107:OkSpec Tryz.prog:=⟨sQ107,fn_is func16 hQ107 (by kernel_rfl) (by kernel_rfl),call16⟩

noncomputable def fn_mixed_Set_Dense (xa:(Option Tq2)):Option Bool :=
 (cond (!xa.isNone) (xa.bind fun y36=>some (!y36.2.2.isNone)) (some (false))).bind fun t34=>some (t34)
noncomputable def hQ108:Hn Tryz.prog := .gj 5 ⟨[kdB 11],[]⟩ [] (.two 5 .nil .nil) .nil
noncomputable def sQ108:Spec:=⟨42,⟨[(0,.dat Yq14)],[]⟩,[⟨[kdB 0],[]⟩],fun x=>fn_mixed_Set_Dense x⟩
noncomputable def oQ108:OkSpec Tryz.prog:=⟨sQ108,fn_is func42 hQ108 (by kernel_rfl) (by kernel_rfl),call42⟩

noncomputable def fn_mixed_Set_Add_zi (xb:Int):Option Bool :=
 (cond (decide (xb < 0)) (some (true)) ((fn_mixed_Set_Size ((none:(Option Tq2)))).bind fun i36=>some (decide (i36≤xb)))).bind fun t32=>cond (t32) (some (false)) ((fn_mixed_Set_Dense ((none:(Option Tq2)))).bind fun t43=>cond (t43) (none) (none))
noncomputable def hQ109:Hn Tryz.prog := .gj 4 ⟨[kdB 13],[]⟩ [] (.two 8 .nil (.cl oQ107 [] .nil)) (.tw 13 .nil (.cl oQ108 [] (.tw 15 .nil .nil)))
noncomputable def sQ109:Spec:=⟨30,⟨[(0,.nilp),kdI 1],[]⟩,[⟨[kdB 0],[]⟩],fun x=>fn_mixed_Set_Add_zi x⟩
noncomputable def oQ109:OkSpec Tryz.prog:=⟨sQ109,fn_is func30 hQ109 (by kernel_rfl) (by kernel_rfl),call30⟩
noncomputable def fn_mixed_Set_Fill_zii_l1 (xc:Int):Int→Option (Int⊕Unit):=fun i1=>(fn_mixed_Set_Size ((none:(Option Tq2)))).bind fun i2=>cond (decide (i1 < (if i2 < xc then i2 else xc))) ((fn_mixed_Set_Add_zi i1).bind fun t3=>some (.inl (IntKind.wrap .i64 (i1 + 1)))) (some (.inr ((()))))
noncomputable def fn_mixed_Set_Fill_zii (xb:Int) (xc:Int):Option Unit :=
 (loop (fn_mixed_Set_Fill_zii_l1 xc) (if xb < 0 then 0 else xb)).bind fun ()=>some (())
noncomputable def hQ110:Hn Tryz.prog := .jn [] ⟨[],[]⟩ [] (.lp ⟨[kdI 6],[]⟩ (.cl oQ107 [] (.tw 14 (.cl oQ109 [] .nil) .nil))) .nil
noncomputable def sQ110:Spec:=⟨28,⟨[(0,.nilp),kdI 1,kdI 2],[]⟩,[⟨[],[]⟩],fun x=>fn_mixed_Set_Fill_zii x.1 x.2⟩
noncomputable def oQ110:OkSpec Tryz.prog:=⟨sQ110,fn_is func28 hQ110 (by kernel_rfl) (by kernel_rfl),call28⟩

noncomputable def fn_mixed_Set_Or_p0z_iodod (qa0:Int) (qa1:Tq16) (qa2:Tq7):Option ((Bool×Tq16×Tq7)) :=
 some ((false,qa1,qa2))
noncomputable def hQ111:Hn Tryz.prog := .mix [] [0,1,2,3,4,5,6,7,8,9,10,11,12,13,14,15,16] [] [] .nil
noncomputable def sQ111:Spec:=⟨29,⟨[(0,.ptr 0 0),(1,.nilp)],[bkN 88 [.is 1 (.dat Yq2),.od (.box 120 (.one (.row 3 (.dat Yq2)))),.od (.box 116 (.cons (.dat Yq2) (.one (.row 113 (.dat Yq10)))))],bkM]⟩,[⟨[kdB 0],[bkC 0 88 [.is 1 (.any),.od (.box 120 (.one (.row 3 (.dat Yq2)))),.od (.box 116 (.cons (.dat Yq2) (.one (.row 113 (.dat Yq10)))))],bkU 1]⟩],fun x=>fn_mixed_Set_Or_p0z_iodod x.1 x.2.1 x.2.2⟩
noncomputable def oQ111:OkSpec Tryz.prog:=⟨sQ111,fn_is func29 hQ111 (by kernel_rfl) (by kernel_rfl),call29⟩

noncomputable def fn_cmp_isNaN_int (xa:Int):Option Bool :=
 some (!decide (xa=xa))
noncomputable def hQ112:Hn Tryz.prog := .nil
noncomputable def sQ112:Spec:=⟨162,⟨[kdI 0],[]⟩,[⟨[kdB 0],[]⟩],fun x=>fn_cmp_isNaN_int x⟩
noncomputable def oQ112:OkSpec Tryz.prog:=⟨sQ112,fn_is func162 hQ112 (by kernel_rfl) (by kernel_rfl),call162⟩

noncomputable def fn_cmp_Less_int (xa:Int) (xb:Int):Option Bool :=
 (fn_cmp_isNaN_int xa).bind fun t27=>(cond (t27) ((fn_cmp_isNaN_int xb).bind fun t42=>some (!t42)) (some (false))).bind fun t38=>some (t38||(decide (xa < xb)))
noncomputable def hQ113:Hn Tryz.prog := .cl oQ112 [] (.gj 3 ⟨[kdB 11],[]⟩ [] (.two 7 (.cl oQ112 [] .nil) .nil) (.wt 12 (.gp 3 .nil)))
noncomputable def sQ113:Spec:=⟨130,⟨[kdI 0,kdI 1],[]⟩,[⟨[kdB 0],[]⟩],fun x=>fn_cmp_Less_int x.1 x.2⟩
noncomputable def oQ113:OkSpec Tryz.prog:=⟨sQ113,fn_is func130 hQ113 (by kernel_rfl) (by kernel_rfl),call130⟩

noncomputable def fn_slices_isNaN_int (xa:Int):Option Bool :=
 some (!decide (xa=xa))
noncomputable def hQ114:Hn Tryz.prog := .nil
noncomputable def sQ114:Spec:=⟨148,⟨[kdI 0],[]⟩,[⟨[kdB 0],[]⟩],fun x=>fn_slices_isNaN_int x⟩
noncomputable def oQ114:OkSpec Tryz.prog:=⟨sQ114,fn_is func148 hQ114 (by kernel_rfl) (by kernel_rfl),call148⟩
noncomputable def fn_slices_BinarySearch_int_int_l1 (xa:(List Int)) (xb:Int):Tq23→Option (Tq23⊕Int):=fun (i1,i2)=>cond (decide (i1 < i2)) ((getI xa (IntKind.wrap .i64 (Int.fdiv (IntKind.wrap .u64 (IntKind.wrap .i64 (i1 + i2))) (2 ^ (min (Int.toNat 1) (IntKind.bits .u64)))))).bind fun x3=>(fn_cmp_Less_int x3 xb).bind fun t4=>cond (t4) (some (.inl ((IntKind.wrap .i64 ((IntKind.wrap .i64 (Int.fdiv (IntKind.wrap .u64 (IntKind.wrap .i64 (i1 + i2))) (2 ^ (min (Int.toNat 1) (IntKind.bits .u64))))) + 1),i2)))) (some (.inl ((i1,IntKind.wrap .i64 (Int.fdiv (IntKind.wrap .u64 (IntKind.wrap .i64 (i1 + i2))) (2 ^ (min (Int.toNat 1) (IntKind.bits .u64))))))))) (some (.inr (i1)))
noncomputable def fn_slices_BinarySearch_int_int (xa:(List Int)) (xb:Int):Option Tq26 :=
 (loop (fn_slices_BinarySearch_int_int_l1 xa xb) ((0,(xa.length:Int)))).bind fun i1=>(cond (decide (i1 < (xa.length:Int))) ((getI xa i1).bind fun x2=>(cond (decide (x2=xb)) (some (true)) ((getI xa i1).bind fun x3=>(fn_slices_isNaN_int x3).bind fun t4=>(cond (t4) ((fn_slices_isNaN_int xb).bind fun t5=>some (t5)) (some (false))).bind fun t6=>some (t6))).bind fun t7=>some (t7)) (some (false))).bind fun t8=>some ((i1,t8))
noncomputable def hQ115:Hn Tryz.prog := .jn [] ⟨[kdI 7],[]⟩ [] (.lp ⟨[kdI 7,kdI 8],[]⟩ (.tw 15 (.cl oQ113 [] (.tw 27 .nil .nil)) .nil)) (.gj 17 ⟨[kdB 53],[]⟩ [] (.two 35 (.wt 42 (.gj 9 ⟨[kdB 52],[]⟩ [] (.two 42 .nil (.cl oQ114 [] (.wt 48 (.gj 2 ⟨[kdB 51],[]⟩ [] (.two 48 (.cl oQ114 [] .nil) .nil) .nil)))) .nil)) .nil) .nil)
noncomputable def sQ115:Spec:=⟨104,⟨[(0,.dat (.sl Yq2)),kdI 1],[]⟩,[⟨[(0,.tup [.dat Yq2,.dat .bool])],[]⟩],fun x=>fn_slices_BinarySearch_int_int x.1 x.2⟩
noncomputable def oQ115:OkSpec Tryz.prog:=⟨sQ115,fn_is func104 hQ115 (by kernel_rfl) (by kernel_rfl),call104⟩

noncomputable def fn_sparse_Set_Rank (xa:Tq16) (xb:Int):Option Int :=
 cond (xa.isNone) (some (0)) (xa.bind fun y21=>(fn_slices_BinarySearch_int_int y21 xb).bind fun (i33,t34)=>some (i33))
noncomputable def hQ116:Hn Tryz.prog := .tw 8 .nil (.cl oQ115 [] .nil)
noncomputable def sQ116:Spec:=⟨72,⟨[(0,.dat (.ptr (.one (.sl Yq2)))),kdI 1],[]⟩,[⟨[kdI 0],[]⟩],fun x=>fn_sparse_Set_Rank x.1 x.2⟩
noncomputable def oQ116:OkSpec Tryz.prog:=⟨sQ116,fn_is func72 hQ116 (by kernel_rfl) (by kernel_rfl),call72⟩

noncomputable def fn_sparse_Set_Len (xa:Tq16):Option Int :=
 cond (xa.isNone) (some (0)) (xa.bind fun y14=>some (y14.length:Int))
noncomputable def hQ117:Hn Tryz.prog := .tw 4 .nil .nil
noncomputable def sQ117:Spec:=⟨46,⟨[(0,.dat (.ptr (.one (.sl Yq2))))],[]⟩,[⟨[kdI 0],[]⟩],fun x=>fn_sparse_Set_Len x⟩
noncomputable def oQ117:OkSpec Tryz.prog:=⟨sQ117,fn_is func46 hQ117 (by kernel_rfl) (by kernel_rfl),call46⟩

noncomputable def fn_sparse_Set_At (xa:Tq16) (xb:Int):Option Tq26 :=
 (cond (decide (xb < 0)) (some (true)) ((fn_sparse_Set_Len xa).bind fun i49=>some (decide (i49≤xb)))).bind fun t45=>cond (t45) (some ((0,false))) (xa.bind fun y54=>(getI y54 xb).bind fun x64=>some ((x64,true)))
noncomputable def hQ118:Hn Tryz.prog := .gj 4 ⟨[kdB 13],[]⟩ [] (.two 8 .nil (.cl oQ117 [] .nil)) (.tw 13 .nil .nil)
noncomputable def sQ118:Spec:=⟨71,⟨[(0,.dat (.ptr (.one (.sl Yq2)))),kdI 1],[]⟩,[⟨[(0,.tup [.dat Yq2,.dat .bool])],[]⟩],fun x=>fn_sparse_Set_At x.1 x.2⟩
noncomputable def oQ118:OkSpec Tryz.prog:=⟨sQ118,fn_is func71 hQ118 (by kernel_rfl) (by kernel_rfl),call71⟩

noncomputable def fn_sparse_Set_Has (xa:Tq16) (xb:Int):Option Bool :=
 (fn_sparse_Set_Rank xa xb).bind fun i19=>(fn_sparse_Set_At xa i19).bind fun (i25,t26)=>some (t26&&(decide (i25=xb)))
noncomputable def hQ119:Hn Tryz.prog := .cl oQ116 [] (.cl oQ118 [] (.gp 3 .nil))
noncomputable def sQ119:Spec:=⟨44,⟨[(0,.dat (.ptr (.one (.sl Yq2)))),kdI 1],[]⟩,[⟨[kdB 0],[]⟩],fun x=>fn_sparse_Set_Has x.1 x.2⟩
noncomputable def oQ119:OkSpec Tryz.prog:=⟨sQ119,fn_is func44 hQ119 (by kernel_rfl) (by kernel_rfl),call44⟩

noncomputable def fn_sparse_Set_Add_p0i_r (xb:Int) (qa0:(List Int)):Option ((Bool×(List Int))) :=
 (fn_sparse_mayBe xb).bind fun t1=>(cond (!t1) (some (true)) ((fn_sparse_Set_Has (some qa0) xb).bind fun t2=>some (t2))).bind fun t3=>cond (t3) (some ((false,qa0))) (((((fn_sparse_Set_Rank (some qa0) xb).bind fun i4=>(insF qa0 i4 ([xb]:List Int)).bind fun l5=>some (l5)).bind fun x6=>((fn_sparse_Set_Rank (some qa0) xb).bind fun i7=>(insF qa0 i7 ([xb]:List Int)).bind fun l8=>some (l8)).bind fun y9=>agr x6 y9 (some x6)).bind fun x10=>(((fn_sparse_Set_Rank (some qa0) xb).bind fun i11=>((insF qa0 i11 ([xb]:List Int)).bind fun l12=>some (l12)).bind fun x13=>((insF qa0 i11 ([xb]:List Int)).bind fun l14=>some (l14)).bind fun y15=>agr x13 y15 (some x13)).bind fun x16=>(((fn_sparse_Set_Rank (some qa0) xb).bind fun i17=>(insF qa0 i17 ([xb]:List Int)).bind fun l18=>some (l18)).bind fun x19=>((fn_sparse_Set_Rank (some qa0) xb).bind fun i20=>(insF qa0 i20 ([xb]:List Int)).bind fun l21=>some (l21)).bind fun y22=>agr x19 y22 (some x19)).bind fun y23=>agr x16 y23 (some x16)).bind fun y24=>agr x10 y24 (some x10):Option (List Int)).bind fun l25=>some ((true,l25)))
noncomputable def hQ120:Hn Tryz.prog := .cl oQ103 [] (.wt 12 (.gj 3 ⟨[kdB 16],[]⟩ [] (.two 12 .nil (.cl oQ119 [1,0] .nil)) (.tw 16 .nil (.tr (.still [0,1,2,3,5,6,8] (.alt 4 (.alt 7 (.alt 9 (.alt 10 (.still [11,12] (.alt 13 (.leaf []) .done)) .done) .done) (.alt 9 (.alt 7 (.alt 10 (.still [11,12] (.alt 13 (.leaf []) .done)) .done) .done) .done)) (.alt 7 (.alt 4 (.alt 9 (.alt 10 (.still [11,12] (.alt 13 (.leaf []) .done)) .done) .done) (.alt 9 (.alt 4 (.alt 10 (.still [11,12] (.alt 13 (.leaf []) .done)) .done) .done) .done)) (.alt 9 (.alt 4 (.alt 7 (.alt 10 (.still [11,12] (.alt 13 (.leaf []) .done)) .done) .done) (.alt 7 (.alt 4 (.alt 10 (.still [11,12] (.alt 13 (.leaf []) .done)) .done) .done) .done)) .done)))) ⟨[],[bkC 0 120 [.own 3 Yq2]]⟩ [1,0] (.two 0 (.two 0 (.cl oQ116 [1,0] (.cl ok_Insert [] .nil)) (.cl oQ116 [1,0] (.cl ok_Insert [] .nil))) (.two 0 (.cl oQ116 [1,0] (.two 0 (.cl ok_Insert [] .nil) (.cl ok_Insert [] .nil))) (.two 0 (.cl oQ116 [1,0] (.cl ok_Insert [] .nil)) (.cl oQ116 [1,0] (.cl ok_Insert [] .nil))))) .nil))))
noncomputable def sQ120:Spec:=⟨58,⟨[(0,.ptr 0 0),kdI 1],[bkN 120 [.own 3 Yq2]]⟩,[⟨[kdB 0],[bkC 0 120 [.own 3 Yq2]]⟩],fun x=>fn_sparse_Set_Add_p0i_r x.1 x.2⟩
noncomputable def oQ120:OkSpec Tryz.prog:=⟨sQ120,fn_is func58 hQ120 (by kernel_rfl) (by kernel_rfl),call58⟩

noncomputable def fn_sparse_Set_All_p0_r (qa0:(List Int)):Option (List Int) :=
 some (qa0)
noncomputable def hQ121:Hn Tryz.prog := .nil
noncomputable def sQ121:Spec:=⟨56,⟨[(0,.ptr 0 0)],[bkN 120 [.own 3 Yq2]]⟩,[⟨[(0,.fn 89 [.ptr 1 0])],[bkC 0 120 [.own 3 Yq2],bkN 85 [.ptr 0 0]]⟩],fun x=>fn_sparse_Set_All_p0_r x⟩
noncomputable def oQ121:OkSpec Tryz.prog:=⟨sQ121,fn_is func56 hQ121 (by kernel_rfl) (by kernel_rfl),call56⟩
noncomputable def fn_mixed_Set_thicken_p0_iodod_l1 (l1:(List Int)):Tq26→Option (Tq26⊕Unit):=fun (i2,t3)=>cond (t3) ((fn_dense_Set_Add_zi i2).bind fun t4=>(fn_sparse_Set_Rank (some l1) (IntKind.wrap .i64 (i2 + 1))).bind fun i5=>(fn_sparse_Set_At (some l1) i5).bind fun (i6,t7)=>some (.inl (i6,t7))) (some (.inr ((()))))
noncomputable def fn_mixed_Set_thicken_p0_iodod_l2 (i1:Int) (l2:(List Int)):(Int×Bool×(List Int))→Option ((Int×Bool×(List Int))⊕(List Int)):=fun (i3,t4,l5)=>cond (t4) ((fn_dense_Set_Add_p0i_ir i3 i1 l5).bind fun (t6,l7)=>(fn_sparse_Set_Rank (some l2) (IntKind.wrap .i64 (i3 + 1))).bind fun i8=>(fn_sparse_Set_At (some l2) i8).bind fun (i9,t10)=>some (.inl (i9,t10,l7))) (some (.inr (l5)))
noncomputable def fn_mixed_Set_thicken_p0_iodod (qa0:Int) (qa1:Tq16) (qa2:Tq7):Option (Tq7) :=
 (fn_dense_New qa0).bind fun o=>match o with | .inl i3=>(qa1).bind fun y4=>(fn_sparse_Set_All_p0_r y4).bind fun l5=>(fn_sparse_Set_At (some l5) 0).bind fun (i6,t7)=>(loop (fn_mixed_Set_thicken_p0_iodod_l1 l5) (i6,t7)).bind fun ()=>some (none) | .inr (i8,i9,l10)=>(qa1).bind fun y11=>(fn_sparse_Set_All_p0_r y11).bind fun l12=>(fn_sparse_Set_At (some l12) 0).bind fun (i13,t14)=>(loop (fn_mixed_Set_thicken_p0_iodod_l2 i9 l12) (i13,t14,l10)).bind fun l15=>some (some (i9,l15))
noncomputable def hQ122:Hn Tryz.prog := .mix [([0,1,2,3],4),([],5),([6,7,8,9,10],11)] [] [] [0] (.c2 oQ85 [] (.wt 17 (.opb 2 3 (.cl oQ121 [] (.rg ⟨89,_,func89,call89⟩ (.cl oQ118 [17,2] (.jn [] ⟨[],[⟨(some 21),0,[],false,false,none,true⟩]⟩ [21,4] (.lp ⟨[kdI 3,kdB 4],[⟨(some 21),0,[],false,false,none,true⟩]⟩ (.tw 10 (.yl 2 (.cl oQ89 [] (.mix [([0,1,2,3],4),([],5)] [6,7,8,9,10] [] [] (.cl oQ116 [17,2] (.cl oQ118 [17,2] .nil))))) .nil)) .nil)))))) (.wt 17 (.opb 2 3 (.cl oQ121 [] (.rg ⟨89,_,func89,call89⟩ (.cl oQ118 [21,2] (.jn [(9,0)] ⟨[],[⟨(some 25),0,[],false,false,none,true⟩,bkC 9 116 [.is 2 (.any),.own 113 Yq10],bkU 26]⟩ [25,10,9,4] (.lp ⟨[kdI 3,kdB 4],[⟨(some 25),0,[],false,false,none,true⟩,bkC 9 116 [.is 2 (.any),.own 113 Yq10],bkU 26]⟩ (.tw 10 (.yl 2 (.cl oQ97 [] (.mix [([0,1,2,3],4),([],5)] [6,7,8,9,10] [] [] (.cl oQ116 [21,2] (.cl oQ118 [21,2] .nil))))) .nil)) .nil)))))))
noncomputable def sQ122:Spec:=⟨54,⟨[(0,.ptr 0 0)],[bkN 88 [.is 1 (.dat Yq2),.od (.box 120 (.one (.row 3 (.dat Yq2)))),.od (.box 116 (.cons (.dat Yq2) (.one (.row 113 (.dat Yq10)))))],bkM]⟩,[⟨[],[bkC 0 88 [.is 1 (.any),.nilp,.od (.box 116 (.cons (.dat Yq2) (.one (.row 113 (.dat Yq10)))))],bkU 1]⟩],fun x=>fn_mixed_Set_thicken_p0_iodod x.1 x.2.1 x.2.2⟩
noncomputable def oQ122:OkSpec Tryz.prog:=⟨sQ122,fn_is func54 hQ122 (by kernel_rfl) (by kernel_rfl),call54⟩

noncomputable def fn_mixed_Set_Add_p0i_iodod (xb:Int) (qa0:Int) (qa1:Tq16) (qa2:Tq7):Option ((Bool×Tq16×Tq7)) :=
 (cond (decide (xb < 0)) (some (true)) ((fn_mixed_Set_Size (some (qa0,qa1,qa2))).bind fun i3=>some (decide (i3≤xb)))).bind fun t4=>cond (t4) (some ((false,qa1,qa2))) ((fn_mixed_Set_Dense (some (qa0,qa1,qa2))).bind fun t5=>cond (t5) ((qa2).bind fun y6=>(fn_dense_Set_Add_p0i_ir xb y6.1 y6.2).bind fun (t7,l8)=>some ((t7,qa1,some (y6.1,l8)))) ((qa1).bind fun y9=>(fn_sparse_Set_Add_p0i_r xb y9).bind fun (t10,l11)=>(fn_sparse_Set_Len (some l11)).bind fun i12=>cond (decide (8 < i12)) ((fn_mixed_Set_thicken_p0_iodod qa0 (some l11) qa2).bind fun l13=>some ((t10,none,l13))) (some ((t10,some l11,qa2)))))
noncomputable def hQ123:Hn Tryz.prog := .gj 4 ⟨[kdB 13],[]⟩ [] (.two 8 .nil (.cl oQ107 [2,4,0] .nil)) (.tw 13 .nil (.cl oQ108 [2,4,0] (.tw 15 (.wt 20 (.opb 4 5 (.wt 1000010 (.mc 4 0 7 (.cl oQ97 [] .nil))))) (.wt 26 (.opb 2 3 (.cl oQ120 [] (.cl oQ117 [13,2] (.tw 33 (.cl oQ122 [] .nil) .nil))))))))
noncomputable def sQ123:Spec:=⟨30,⟨[(0,.ptr 0 0),kdI 1],[bkN 88 [.is 1 (.dat Yq2),.od (.box 120 (.one (.row 3 (.dat Yq2)))),.od (.box 116 (.cons (.dat Yq2) (.one (.row 113 (.dat Yq10)))))],bkM]⟩,[⟨[kdB 0],[bkC 0 88 [.is 1 (.any),.od (.box 120 (.one (.row 3 (.dat Yq2)))),.od (.box 116 (.cons (.dat Yq2) (.one (.row 113 (.dat Yq10)))))],bkU 1]⟩],fun x=>fn_mixed_Set_Add_p0i_iodod x.1 x.2.1 x.2.2.1 x.2.2.2⟩
noncomputable def oQ123:OkSpec Tryz.prog:=⟨sQ123,fn_is func30 hQ123 (by kernel_rfl) (by kernel_rfl),call30⟩

noncomputable def fn_live_Live_of (xa:(Option (Int×(List Tq7)))) (xb:Int):Option (Tq7) :=
 (cond (xa.isNone||(decide (xb < 0))) (some (true)) (xa.bind fun y68=>some (decide ((y68.2.length:Int)≤xb)))).bind fun t66=>cond (t66) (some (none)) (xa.bind fun y79=>(getI y79.2 xb).bind fun x89=>some (x89))
noncomputable def hQ124:Hn Tryz.prog := .gp 2 (.wt 11 (.gj 7 ⟨[kdB 19],[]⟩ [] (.two 11 .nil .nil) (.tw 19 .nil .nil)))
noncomputable def sQ124:Spec:=⟨59,⟨[(0,.dat (.ptr (.cons Yq2 (.one (.sl Yq8))))),kdI 1],[]⟩,[⟨[(0,.dat Yq8)],[]⟩],fun x=>fn_live_Live_of x.1 x.2⟩
noncomputable def oQ124:OkSpec Tryz.prog:=⟨sQ124,fn_is func59 hQ124 (by kernel_rfl) (by kernel_rfl),call59⟩

noncomputable def fn_dense_Set_All (xa:Tq7):Option Unit :=
 some (())
noncomputable def hQ125:Hn Tryz.prog := .nil
noncomputable def sQ125:Spec:=⟨92,⟨[(0,.is 0 (.dat Yq8))],[bkM]⟩,[⟨[(0,.fn 122 [.ptr 0 0])],[bkN 86 [.is 1 (.any)],bkU 0]⟩],fun x=>fn_dense_Set_All x⟩
noncomputable def oQ125:OkSpec Tryz.prog:=⟨sQ125,fn_is func92 hQ125 (by kernel_rfl) (by kernel_rfl),call92⟩
noncomputable def fn_dense_Set_Next_l1 (y1:Tq21):Tq23→Option (Tq23⊕(Tq23⊕Int)):=fun (i2,i3)=>cond (decide (i3=0)) (cond (decide ((IntKind.wrap .i64 (i2 + 1))=(y1.2.length:Int))) (some (.inr ((.inr ((-1)))))) ((getI y1.2 (IntKind.wrap .i64 (i2 + 1))).bind fun x4=>some (.inl ((IntKind.wrap .i64 (i2 + 1),x4))))) (some (.inr ((.inl (i2,i3)))))
noncomputable def fn_dense_Set_Next (xa:Tq7) (xb:Int):Option Int :=
 (fn_dense_Set_mayHave xa (if xb < 0 then 0 else xb)).bind fun t1=>cond (!t1) (some ((-1))) (xa.bind fun y2=>(getI y2.2 (IntKind.wrap .i64 (Int.tdiv (if xb < 0 then 0 else xb) 64))).bind fun x3=>(ge0 (Int.tmod (if xb < 0 then 0 else xb) 64)).bind fun u4=>(ge0 (Int.tmod (if xb < 0 then 0 else xb) 64)).bind fun u5=>(loop (fn_dense_Set_Next_l1 y2) ((IntKind.wrap .i64 (Int.tdiv (if xb < 0 then 0 else xb) 64),IntKind.wrap .u64 ((Int.fdiv x3 (2 ^ (min (Int.toNat (Int.tmod (if xb < 0 then 0 else xb) 64)) (IntKind.bits .u64)))) * 2 ^ (min (Int.toNat (Int.tmod (if xb < 0 then 0 else xb) 64)) (IntKind.bits .u64)))))).bind fun o=>match o with | .inr r=>some r | .inl (i6,i7)=>(tzF i7).bind fun i8=>some (IntKind.wrap .i64 ((IntKind.wrap .i64 (i6 * 64)) + i8)))
noncomputable def hQ126:Hn Tryz.prog := .ms 0 (.cl oQ87 [] (.tw 12 .nil (.jx [] ⟨[kdI 5,(6,.dat Yq10)],[]⟩ [] (.lp ⟨[kdI 5,(6,.dat Yq10)],[]⟩ (.tw 29 (.tw 38 .nil .nil) .nil)) (.cl ok_TZ [] .nil))))
noncomputable def sQ126:Spec:=⟨123,⟨[(0,.dat Yq8),kdI 1],[]⟩,[⟨[kdI 0],[]⟩],fun x=>fn_dense_Set_Next x.1 x.2⟩
noncomputable def oQ126:OkSpec Tryz.prog:=⟨sQ126,fn_is func123 hQ126 (by kernel_rfl) (by kernel_rfl),call123⟩
noncomputable def fn_dense_Set_List_l1 (xa:Tq7):Tq21→Option (Tq21⊕(List Int)):=fun (i1,l2)=>cond (decide (0≤i1)) ((app l2 ([i1]:List Int)).bind fun z3=>(fn_dense_Set_Next xa (IntKind.wrap .i64 (i1 + 1))).bind fun i4=>some (.inl (i4,z3))) (some (.inr (l2)))
noncomputable def fn_dense_Set_List (xa:Tq7):Option (List Int) :=
 (fn_dense_Set_All xa).bind fun _=>(fn_dense_Set_Next xa 0).bind fun i1=>(loop (fn_dense_Set_List_l1 xa) (i1,[])).bind fun l2=>some (l2)
noncomputable def hQ127:Hn Tryz.prog := .ms 5 (.cl oQ125 [] (.rg ⟨122,_,func122,call122⟩ (.cl oQ126 [] (.jn [] ⟨[],[bkC 0 48 [.own 3 Yq2],⟨(some 5),0,[],false,false,none,true⟩]⟩ [5,0] (.lp ⟨[kdI 3],[bkC 0 48 [.own 3 Yq2],⟨(some 5),0,[],false,false,none,true⟩]⟩ (.tw 7 (.yl 2 (.cl oQ126 [] .nil)) .nil)) .nil))))
noncomputable def sQ127:Spec:=⟨60,⟨[(0,.dat Yq8)],[]⟩,[⟨[(0,.own 3 Yq2)],[]⟩],fun x=>fn_dense_Set_List x⟩
noncomputable def oQ127:OkSpec Tryz.prog:=⟨sQ127,fn_is func60 hQ127 (by kernel_rfl) (by kernel_rfl),call60⟩

noncomputable def fn_live_Live_Points (xa:(Option (Int×(List Tq7)))) (xb:Int):Option (List Int) :=
 (fn_live_Live_of xa xb).bind fun p26=>(fn_dense_Set_List p26).bind fun l34=>some (l34)
noncomputable def hQ128:Hn Tryz.prog := .cl oQ124 [] (.cl oQ127 [] .nil)
noncomputable def sQ128:Spec:=⟨31,⟨[(0,.dat (.ptr (.cons Yq2 (.one (.sl Yq8))))),kdI 1],[]⟩,[⟨[(0,.own 3 Yq2)],[]⟩],fun x=>fn_live_Live_Points x.1 x.2⟩
noncomputable def oQ128:OkSpec Tryz.prog:=⟨sQ128,fn_is func31 hQ128 (by kernel_rfl) (by kernel_rfl),call31⟩
noncomputable def fn_row_Regions_l1 (xa:Tq3):Tq17→Option (Tq17⊕(List Int)):=fun (l1,i2)=>cond (decide (i2 < (xa.length:Int))) ((getI xa i2).bind fun x3=>(app l1 ([x3.1]:List Int)).bind fun z4=>some (.inl ((z4,IntKind.wrap .i64 (i2 + 1))))) (some (.inr (l1)))
noncomputable def fn_row_Regions (xa:Tq3):Option (List Int) :=
 (loop (fn_row_Regions_l1 xa) ([],0)).bind fun l1=>(srt l1).bind fun l2=>(cmpt l2).bind fun l3=>some (l3)
noncomputable def hQ129:Hn Tryz.prog := .jn [] ⟨[(3,.own 3 Yq2)],[]⟩ [0] (.lp ⟨[(3,.own 3 Yq2),kdI 9],[]⟩ (.tw 10 .nil .nil)) (.cl ok_Sort [] (.cl ok_Compact [] .nil))
noncomputable def sQ129:Spec:=⟨32,⟨[(0,.dat Yq7)],[]⟩,[⟨[(0,.own 3 Yq2)],[]⟩],fun x=>fn_row_Regions x⟩
noncomputable def oQ129:OkSpec Tryz.prog:=⟨sQ129,fn_is func32 hQ129 (by kernel_rfl) (by kernel_rfl),call32⟩
noncomputable def fn_dense_Set_Or_p0p1_ir_ir_l1 (qb1:(List Int)):(Bool×Int×(List Int))→Option ((Bool×Int×(List Int))⊕(Bool×(List Int))):=fun (t2,i3,l4)=>cond (decide (i3 < (qb1.length:Int))) ((getI qb1 i3).bind fun x5=>(getI l4 i3).bind fun x6=>cond (!decide ((IntKind.wrap .u64 ((BitVec.ofInt (IntKind.bits .u64) x5 &&& ~~~BitVec.ofInt (IntKind.bits .u64) x6).toNat:Int))=0)) ((getI l4 i3).bind fun x7=>(getI l4 i3).bind fun x8=>(some (l4.set i3.toNat (IntKind.wrap .u64 ((BitVec.ofInt (IntKind.bits .u64) x7 ||| BitVec.ofInt (IntKind.bits .u64) x5).toNat:Int)))).bind fun z9=>some (.inl ((true,IntKind.wrap .i64 (i3 + 1),z9)))) (some (.inl ((t2,IntKind.wrap .i64 (i3 + 1),l4))))) (some (.inr (((t2,l4)))))
noncomputable def fn_dense_Set_Or_p0p1_ir_ir (qa0:Int) (qa1:(List Int)) (qb0:Int) (qb1:(List Int)):Option ((Bool×(List Int)×(List Int))) :=
 cond (!decide (qa0=qb0)) (some ((false,qa1,qb1))) ((loop (fn_dense_Set_Or_p0p1_ir_ir_l1 qb1) (false,0,qa1)).bind fun (t2,l3)=>some ((t2,l3,qb1)))
noncomputable def hQ130:Hn Tryz.prog := .mix [] [0,1,2,3,4,5,6,7,8,9,10,11,12,13,14,15,16] [] [] (.tw 24 .nil (.jn [] ⟨[kdB 5],[bkC 0 116 [.is 1 (.any),.own 113 Yq10],bkU 2]⟩ [4,0] (.lp ⟨[kdB 5,kdI 30],[bkC 0 116 [.is 1 (.any),.own 113 Yq10],bkU 2]⟩ (.tw 31 (.tw 44 .nil .nil) .nil)) .nil))
noncomputable def sQ130:Spec:=⟨55,⟨[(0,.ptr 0 0),(1,.ptr 1 0)],[bkN 116 [.is 2 (.dat Yq2),.own 113 Yq10],bkN 116 [.is 3 (.dat Yq2),.own 113 Yq10],bkM,bkM]⟩,[⟨[kdB 0],[bkC 0 116 [.is 2 (.any),.own 113 Yq10],bkC 1 116 [.is 3 (.any),.own 113 Yq10],bkU 2,bkU 3]⟩],fun x=>fn_dense_Set_Or_p0p1_ir_ir x.1 x.2.1 x.2.2.1 x.2.2.2⟩
noncomputable def oQ130:OkSpec Tryz.prog:=⟨sQ130,fn_is func55 hQ130 (by kernel_rfl) (by kernel_rfl),call55⟩
end
section
open Go.RowKit _root_.Go.Proofs.Tryz
noncomputable def fn_mixed_Set_Or_p0p1_iodod_iodod_l1 (qa0:Int) (l1:(List Int)):(Int×Bool×Tq16×Tq7×Bool)→Option ((Int×Bool×Tq16×Tq7×Bool)⊕(Tq16×Tq7×Bool)):=fun (i2,t3,l4,l5,t6)=>cond (t3) ((fn_mixed_Set_Add_p0i_iodod i2 qa0 l4 l5).bind fun (t7,l8,l9)=>cond (t7) ((fn_sparse_Set_Rank (some l1) (IntKind.wrap .i64 (i2 + 1))).bind fun i10=>(fn_sparse_Set_At (some l1) i10).bind fun (i11,t12)=>some (.inl (i11,t12,l8,l9,true))) ((fn_sparse_Set_Rank (some l1) (IntKind.wrap .i64 (i2 + 1))).bind fun i13=>(fn_sparse_Set_At (some l1) i13).bind fun (i14,t15)=>some (.inl (i14,t15,l8,l9,t6)))) (some (.inr (((l4,l5,t6)))))
noncomputable def fn_mixed_Set_Or_p0p1_iodod_iodod (qa0:Int) (qa1:Tq16) (qa2:Tq7) (qb0:Int) (qb1:Tq16) (qb2:Tq7):Option ((Bool×Tq16×Tq7×Tq16×Tq7)) :=
 cond (!decide (qa0=qb0)) (some ((false,qa1,qa2,qb1,qb2))) ((fn_mixed_Set_Dense (some (qb0,qb1,qb2))).bind fun t3=>cond (t3) (((fn_mixed_Set_Dense (some (qa0,qa1,qa2))).bind fun t4=>cond (!t4) ((fn_mixed_Set_thicken_p0_iodod qa0 qa1 qa2).bind fun l5=>some ((none,l5))) (some ((qa1,qa2))):Option ((Tq16×Tq7))).bind fun (l6,l7)=>(l7).bind fun y8=>(qb2).bind fun y9=>(fn_dense_Set_Or_p0p1_ir_ir y8.1 y8.2 y9.1 y9.2).bind fun (t10,l11,l12)=>some ((t10,l6,some (y8.1,l11),qb1,some (y9.1,l12)))) ((qb1).bind fun y13=>(fn_sparse_Set_All_p0_r y13).bind fun l14=>(fn_sparse_Set_At (some l14) 0).bind fun (i15,t16)=>(loop (fn_mixed_Set_Or_p0p1_iodod_iodod_l1 qa0 l14) (i15,t16,qa1,qa2,false)).bind fun (l17,l18,t19)=>some ((t19,l17,l18,some l14,qb2))))
noncomputable def hQ131:Hn Tryz.prog := .mix [] [0,1,2,3,4,5,6,7,8,9,10,11,12,13,14,15,16] [] [] (.tw 23 .nil (.cl oQ108 [9,11,1] (.tw 25 (.sq [] ⟨[],[bkC 0 88 [.is 1 (.any),.od (.box 120 (.one (.row 3 (.dat Yq2)))),.od (.box 116 (.cons (.dat Yq2) (.one (.row 113 (.dat Yq10)))))],bkU 2]⟩ [0,4,6] (.cl oQ108 [4,6,0] (.tw 28 (.cl oQ122 [] .nil) .nil)) (.mix [] [0,1,2,3,4,5,6,7] [8,9] [] (.wt 38 (.opb 18 19 (.wt 38 (.opb 11 12 (.wt 1000027 (.mc 18 0 21 (.mc 11 0 24 (.cl oQ130 [] .nil)))))))))) (.wt 43 (.opb 9 10 (.cl oQ121 [] (.rg ⟨89,_,func89,call89⟩ (.cl oQ118 [26,9] (.jn [] ⟨[],[bkC 0 88 [.is 3 (.any),.od (.box 120 (.one (.row 3 (.dat Yq2)))),.od (.box 116 (.cons (.dat Yq2) (.one (.row 113 (.dat Yq10)))))],bkC 16 4 [.dat .bool],⟨(some 30),0,[],false,false,none,true⟩,bkU 2]⟩ [30,16,0,4,6] (.lp ⟨[kdI 3,kdB 4],[bkC 0 88 [.is 3 (.any),.od (.box 120 (.one (.row 3 (.dat Yq2)))),.od (.box 116 (.cons (.dat Yq2) (.one (.row 113 (.dat Yq10)))))],bkC 16 4 [.dat .bool],⟨(some 30),0,[],false,false,none,true⟩,bkU 2]⟩ (.tw 10 (.yl 2 (.cl oQ123 [] (.tw 48 (.mix [([0,1,2,3],4),([],5)] [6,7,8,9,10] [] [] (.cl oQ116 [26,9] (.cl oQ118 [26,9] .nil))) (.mix [([0,1,2,3],4),([],5)] [6,7,8,9,10] [] [] (.cl oQ116 [26,9] (.cl oQ118 [26,9] .nil)))))) .nil)) .nil)))))))))
noncomputable def sQ131:Spec:=⟨29,⟨[(0,.ptr 0 0),(1,.ptr 1 0)],[bkN 88 [.is 2 (.dat Yq2),.od (.box 120 (.one (.row 3 (.dat Yq2)))),.od (.box 116 (.cons (.dat Yq2) (.one (.row 113 (.dat Yq10)))))],bkN 88 [.is 3 (.dat Yq2),.od (.box 120 (.one (.row 3 (.dat Yq2)))),.od (.box 116 (.cons (.dat Yq2) (.one (.row 113 (.dat Yq10)))))],bkM,bkM]⟩,[⟨[kdB 0],[bkC 0 88 [.is 2 (.any),.od (.box 120 (.one (.row 3 (.dat Yq2)))),.od (.box 116 (.cons (.dat Yq2) (.one (.row 113 (.dat Yq10)))))],bkC 1 88 [.is 3 (.any),.od (.box 120 (.one (.row 3 (.dat Yq2)))),.od (.box 116 (.cons (.dat Yq2) (.one (.row 113 (.dat Yq10)))))],bkU 2,bkU 3]⟩],fun x=>fn_mixed_Set_Or_p0p1_iodod_iodod x.1 x.2.1 x.2.2.1 x.2.2.2.1 x.2.2.2.2.1 x.2.2.2.2.2⟩
noncomputable def oQ131:OkSpec Tryz.prog:=⟨sQ131,fn_is func29 hQ131 (by kernel_rfl) (by kernel_rfl),call29⟩
noncomputable def fn_mixed_Set_Fill_p0ii_iodod_l1 (xc:Int) (qa0:Int):Tq2→Option (Tq2⊕(Tq16×Tq7)):=fun (i1,l2,l3)=>(fn_mixed_Set_Size (some (qa0,l2,l3))).bind fun i4=>cond (decide (i1 < (if i4 < xc then i4 else xc))) ((fn_mixed_Set_Add_p0i_iodod i1 qa0 l2 l3).bind fun (t5,l6,l7)=>some (.inl ((IntKind.wrap .i64 (i1 + 1),l6,l7)))) (some (.inr (((l2,l3)))))
noncomputable def fn_mixed_Set_Fill_p0ii_iodod (xb:Int) (xc:Int) (qa0:Int) (qa1:Tq16) (qa2:Tq7):Option ((Tq16×Tq7)) :=
 (loop (fn_mixed_Set_Fill_p0ii_iodod_l1 xc qa0) (if xb < 0 then 0 else xb,qa1,qa2)).bind fun (l3,l4)=>some ((l3,l4))
noncomputable def hQ132:Hn Tryz.prog := .jn [] ⟨[],[bkC 0 88 [.is 1 (.any),.od (.box 120 (.one (.row 3 (.dat Yq2)))),.od (.box 116 (.cons (.dat Yq2) (.one (.row 113 (.dat Yq10)))))],bkU 1]⟩ [0,2,4] (.lp ⟨[kdI 6],[bkC 0 88 [.is 1 (.any),.od (.box 120 (.one (.row 3 (.dat Yq2)))),.od (.box 116 (.cons (.dat Yq2) (.one (.row 113 (.dat Yq10)))))],bkU 1]⟩ (.cl oQ107 [7,9,0] (.tw 14 (.cl oQ123 [] .nil) .nil))) .nil
noncomputable def sQ132:Spec:=⟨28,⟨[(0,.ptr 0 0),kdI 1,kdI 2],[bkN 88 [.is 1 (.dat Yq2),.od (.box 120 (.one (.row 3 (.dat Yq2)))),.od (.box 116 (.cons (.dat Yq2) (.one (.row 113 (.dat Yq10)))))],bkM]⟩,[⟨[],[bkC 0 88 [.is 1 (.any),.od (.box 120 (.one (.row 3 (.dat Yq2)))),.od (.box 116 (.cons (.dat Yq2) (.one (.row 113 (.dat Yq10)))))],bkU 1]⟩],fun x=>fn_mixed_Set_Fill_p0ii_iodod x.1 x.2.1 x.2.2.1 x.2.2.2.1 x.2.2.2.2⟩
noncomputable def oQ132:OkSpec Tryz.prog:=⟨sQ132,fn_is func28 hQ132 (by kernel_rfl) (by kernel_rfl),call28⟩
noncomputable def fn_seed_Of_az_l1 (xa:Tq1) (i1:Int) (z2:List (Option Tq2)):(Int×Tq11)→Option ((Int×Tq11)⊕Tq11):=fun (i3,l4)=>cond (decide (i3 < (z2.length:Int))) ((getI l4 i3).bind fun x5=>(fn_seed_empty (IntKind.wrap .i64 (i1 + xa.1))).bind fun o=>match o with | .inl _=>(getI l4 i3).bind fun _=>(chkI i3 i3).bind fun _=>cond (decide (i3 < xa.1)) ((getI (l4.set i3.toNat none) i3).bind fun x6=>(getI (l4.set i3.toNat none) i3).bind fun _=>(chkI i3 i3).bind fun _=>(x6).bind fun y7=>(fn_mixed_Set_Or_p0z_iodod y7.1 y7.2.1 y7.2.2).bind fun (t8,l9,l10)=>(getI ((l4.set i3.toNat none).set i3.toNat (some (y7.1,l9,l10))) i3).bind fun x11=>(getI ((l4.set i3.toNat none).set i3.toNat (some (y7.1,l9,l10))) i3).bind fun _=>(chkI i3 i3).bind fun _=>(x11).bind fun y12=>(fn_mixed_Set_Add_p0i_iodod (IntKind.wrap .i64 (i1 + i3)) y12.1 y12.2.1 y12.2.2).bind fun (t13,l14,l15)=>some (.inl ((IntKind.wrap .i64 (i3 + 1),((l4.set i3.toNat none).set i3.toNat (some (y7.1,l9,l10))).set i3.toNat (some (y12.1,l14,l15)))))) (some (.inl ((IntKind.wrap .i64 (i3 + 1),l4.set i3.toNat none)))) | .inr (i16,l17)=>(getI l4 i3).bind fun _=>(chkI i3 i3).bind fun _=>cond (decide (i3 < xa.1)) ((getI (l4.set i3.toNat (some (i16,l17,none))) i3).bind fun x18=>(getI (l4.set i3.toNat (some (i16,l17,none))) i3).bind fun _=>(chkI i3 i3).bind fun _=>(x18).bind fun y19=>(fn_mixed_Set_Or_p0z_iodod y19.1 y19.2.1 y19.2.2).bind fun (t20,l21,l22)=>(getI ((l4.set i3.toNat (some (i16,l17,none))).set i3.toNat (some (y19.1,l21,l22))) i3).bind fun x23=>(getI ((l4.set i3.toNat (some (i16,l17,none))).set i3.toNat (some (y19.1,l21,l22))) i3).bind fun _=>(chkI i3 i3).bind fun _=>(x23).bind fun y24=>(fn_mixed_Set_Add_p0i_iodod (IntKind.wrap .i64 (i1 + i3)) y24.1 y24.2.1 y24.2.2).bind fun (t25,l26,l27)=>some (.inl ((IntKind.wrap .i64 (i3 + 1),((l4.set i3.toNat (some (i16,l17,none))).set i3.toNat (some (y19.1,l21,l22))).set i3.toNat (some (y24.1,l26,l27)))))) (some (.inl ((IntKind.wrap .i64 (i3 + 1),l4.set i3.toNat (some (i16,l17,none))))))) (some (.inr (l4)))
noncomputable def fn_seed_Of_az_l2 (l1:(List Int)):Int→Option (Int⊕Unit):=fun i2=>cond (decide (i2 < (l1.length:Int))) ((getI l1 i2).bind fun x3=>(fn_mixed_Set_Add_zi x3).bind fun t4=>some (.inl (IntKind.wrap .i64 (i2 + 1)))) (some (.inr ((()))))
noncomputable def fn_seed_Of_az_l3 (l1:(List Int)):(Int×Tq11)→Option ((Int×Tq11)⊕Tq11):=fun (i2,l3)=>cond (decide (i2 < (l1.length:Int))) ((getI l1 i2).bind fun x4=>(getI l3 x4).bind fun x5=>(getI l3 x4).bind fun _=>(chkI x4 x4).bind fun _=>(x5).bind fun y6=>(fn_mixed_Set_Or_p0z_iodod y6.1 y6.2.1 y6.2.2).bind fun (t7,l8,l9)=>some (.inl ((IntKind.wrap .i64 (i2 + 1),l3.set x4.toNat (some (y6.1,l8,l9)))))) (some (.inr (l3)))
noncomputable def fn_seed_Of_az_l4 (i1:Int) (l2:(List Int)):Tq2→Option (Tq2⊕(Tq16×Tq7)):=fun (i3,l4,l5)=>cond (decide (i3 < (l2.length:Int))) ((getI l2 i3).bind fun x6=>(fn_mixed_Set_Add_p0i_iodod x6 i1 l4 l5).bind fun (t7,l8,l9)=>some (.inl ((IntKind.wrap .i64 (i3 + 1),l8,l9)))) (some (.inr (((l4,l5)))))
noncomputable def fn_seed_Of_az_l5 (i1:Int) (l2:(List Int)):(Int×Tq11×Tq16×Tq7)→Option ((Int×Tq11×Tq16×Tq7)⊕Tq11):=fun (i3,l4,l5,l6)=>cond (decide (i3 < (l2.length:Int))) ((getI l2 i3).bind fun x7=>(getI l4 x7).bind fun x8=>(getI l4 x7).bind fun _=>(chkI x7 x7).bind fun _=>(x8).bind fun y9=>(fn_mixed_Set_Or_p0p1_iodod_iodod y9.1 y9.2.1 y9.2.2 i1 l5 l6).bind fun (t10,l11,l12,l13,l14)=>some (.inl ((IntKind.wrap .i64 (i3 + 1),l4.set x7.toNat (some (y9.1,l11,l12)),l13,l14)))) (some (.inr (l4)))
noncomputable def fn_seed_Of_az_l6 (xa:Tq1) (p1:(Option (Int×(List Tq7)))) (i2:Int):(Int×Tq11)→Option ((Int×Tq11)⊕Tq11):=fun (i3,l4)=>cond (decide (i3 < (xa.2.2.2.1.length:Int))) ((getI xa.2.2.2.1 i3).bind fun x5=>(fn_seed_empty (IntKind.wrap .i64 (i2 + xa.1))).bind fun o=>match o with | .inl _=>(fn_live_Live_Points p1 i3).bind fun l6=>(loop (fn_seed_Of_az_l2 l6) 0).bind fun ()=>(fn_row_Regions x5).bind fun l7=>(loop (fn_seed_Of_az_l3 l7) (0,l4)).bind fun l8=>some (.inl ((IntKind.wrap .i64 (i3 + 1),l8))) | .inr (i9,l10)=>(fn_live_Live_Points p1 i3).bind fun l11=>(loop (fn_seed_Of_az_l4 i9 l11) (0,l10,none)).bind fun (l12,l13)=>(fn_row_Regions x5).bind fun l14=>(loop (fn_seed_Of_az_l5 i9 l14) (0,l4,l12,l13)).bind fun l15=>some (.inl ((IntKind.wrap .i64 (i3 + 1),l15)))) (some (.inr (l4)))
noncomputable def fn_seed_Of_az_l7 (xa:Tq1) (i1:Int) (i2:Int) (z3:List (Option Tq2)):(Int×Tq16×Tq7×Tq11)→Option ((Int×Tq16×Tq7×Tq11)⊕Tq11):=fun (i4,l5,l6,l7)=>cond (decide (i4 < (z3.length:Int))) ((getI l7 i4).bind fun x8=>(fn_seed_empty (IntKind.wrap .i64 (i1 + xa.1))).bind fun o=>match o with | .inl _=>(getI l7 i4).bind fun _=>(chkI i4 i4).bind fun _=>cond (decide (i4 < xa.1)) ((getI (l7.set i4.toNat none) i4).bind fun x9=>(getI (l7.set i4.toNat none) i4).bind fun _=>(chkI i4 i4).bind fun _=>(x9).bind fun y10=>(fn_mixed_Set_Or_p0p1_iodod_iodod y10.1 y10.2.1 y10.2.2 i2 l5 l6).bind fun (t11,l12,l13,l14,l15)=>(getI ((l7.set i4.toNat none).set i4.toNat (some (y10.1,l12,l13))) i4).bind fun x16=>(getI ((l7.set i4.toNat none).set i4.toNat (some (y10.1,l12,l13))) i4).bind fun _=>(chkI i4 i4).bind fun _=>(x16).bind fun y17=>(fn_mixed_Set_Add_p0i_iodod (IntKind.wrap .i64 (i1 + i4)) y17.1 y17.2.1 y17.2.2).bind fun (t18,l19,l20)=>some (.inl ((IntKind.wrap .i64 (i4 + 1),l14,l15,((l7.set i4.toNat none).set i4.toNat (some (y10.1,l12,l13))).set i4.toNat (some (y17.1,l19,l20)))))) (some (.inl ((IntKind.wrap .i64 (i4 + 1),l5,l6,l7.set i4.toNat none)))) | .inr (i21,l22)=>(getI l7 i4).bind fun _=>(chkI i4 i4).bind fun _=>cond (decide (i4 < xa.1)) ((getI (l7.set i4.toNat (some (i21,l22,none))) i4).bind fun x23=>(getI (l7.set i4.toNat (some (i21,l22,none))) i4).bind fun _=>(chkI i4 i4).bind fun _=>(x23).bind fun y24=>(fn_mixed_Set_Or_p0p1_iodod_iodod y24.1 y24.2.1 y24.2.2 i2 l5 l6).bind fun (t25,l26,l27,l28,l29)=>(getI ((l7.set i4.toNat (some (i21,l22,none))).set i4.toNat (some (y24.1,l26,l27))) i4).bind fun x30=>(getI ((l7.set i4.toNat (some (i21,l22,none))).set i4.toNat (some (y24.1,l26,l27))) i4).bind fun _=>(chkI i4 i4).bind fun _=>(x30).bind fun y31=>(fn_mixed_Set_Add_p0i_iodod (IntKind.wrap .i64 (i1 + i4)) y31.1 y31.2.1 y31.2.2).bind fun (t32,l33,l34)=>some (.inl ((IntKind.wrap .i64 (i4 + 1),l28,l29,((l7.set i4.toNat (some (i21,l22,none))).set i4.toNat (some (y24.1,l26,l27))).set i4.toNat (some (y31.1,l33,l34)))))) (some (.inl ((IntKind.wrap .i64 (i4 + 1),l5,l6,l7.set i4.toNat (some (i21,l22,none))))))) (some (.inr (l7)))
noncomputable def fn_seed_Of_az_l8 (l1:(List Int)):Int→Option (Int⊕Unit):=fun i2=>cond (decide (i2 < (l1.length:Int))) ((getI l1 i2).bind fun x3=>(fn_mixed_Set_Add_zi x3).bind fun t4=>some (.inl (IntKind.wrap .i64 (i2 + 1)))) (some (.inr ((()))))
noncomputable def fn_seed_Of_az_l9 (l1:(List Int)):(Int×Tq11)→Option ((Int×Tq11)⊕Tq11):=fun (i2,l3)=>cond (decide (i2 < (l1.length:Int))) ((getI l1 i2).bind fun x4=>(getI l3 x4).bind fun x5=>(getI l3 x4).bind fun _=>(chkI x4 x4).bind fun _=>(x5).bind fun y6=>(fn_mixed_Set_Or_p0z_iodod y6.1 y6.2.1 y6.2.2).bind fun (t7,l8,l9)=>some (.inl ((IntKind.wrap .i64 (i2 + 1),l3.set x4.toNat (some (y6.1,l8,l9)))))) (some (.inr (l3)))
noncomputable def fn_seed_Of_az_l10 (i1:Int) (l2:(List Int)):Tq2→Option (Tq2⊕(Tq16×Tq7)):=fun (i3,l4,l5)=>cond (decide (i3 < (l2.length:Int))) ((getI l2 i3).bind fun x6=>(fn_mixed_Set_Add_p0i_iodod x6 i1 l4 l5).bind fun (t7,l8,l9)=>some (.inl ((IntKind.wrap .i64 (i3 + 1),l8,l9)))) (some (.inr (((l4,l5)))))
noncomputable def fn_seed_Of_az_l11 (i1:Int) (l2:(List Int)):(Int×Tq11×Tq16×Tq7)→Option ((Int×Tq11×Tq16×Tq7)⊕Tq11):=fun (i3,l4,l5,l6)=>cond (decide (i3 < (l2.length:Int))) ((getI l2 i3).bind fun x7=>(getI l4 x7).bind fun x8=>(getI l4 x7).bind fun _=>(chkI x7 x7).bind fun _=>(x8).bind fun y9=>(fn_mixed_Set_Or_p0p1_iodod_iodod y9.1 y9.2.1 y9.2.2 i1 l5 l6).bind fun (t10,l11,l12,l13,l14)=>some (.inl ((IntKind.wrap .i64 (i3 + 1),l4.set x7.toNat (some (y9.1,l11,l12)),l13,l14)))) (some (.inr (l4)))
noncomputable def fn_seed_Of_az_l12 (xa:Tq1) (p1:(Option (Int×(List Tq7)))) (i2:Int):(Int×Tq11)→Option ((Int×Tq11)⊕Tq11):=fun (i3,l4)=>cond (decide (i3 < (xa.2.2.2.1.length:Int))) ((getI xa.2.2.2.1 i3).bind fun x5=>(fn_seed_empty (IntKind.wrap .i64 (i2 + xa.1))).bind fun o=>match o with | .inl _=>(fn_live_Live_Points p1 i3).bind fun l6=>(loop (fn_seed_Of_az_l8 l6) 0).bind fun ()=>(fn_row_Regions x5).bind fun l7=>(loop (fn_seed_Of_az_l9 l7) (0,l4)).bind fun l8=>some (.inl ((IntKind.wrap .i64 (i3 + 1),l8))) | .inr (i9,l10)=>(fn_live_Live_Points p1 i3).bind fun l11=>(loop (fn_seed_Of_az_l10 i9 l11) (0,l10,none)).bind fun (l12,l13)=>(fn_row_Regions x5).bind fun l14=>(loop (fn_seed_Of_az_l11 i9 l14) (0,l4,l12,l13)).bind fun l15=>some (.inl ((IntKind.wrap .i64 (i3 + 1),l15)))) (some (.inr (l4)))
noncomputable def fn_seed_Of_az (xa:Tq1):Option (Tq11) :=
 (fn_live_Of_az xa).bind fun p1=>(fn_live_Live_Len p1).bind fun i2=>cond (decide (i2=0)) (some ([])) ((fn_tick_Counter_Add_zii 2 xa.2.1).bind fun _=>(fn_seed_empty (IntKind.wrap .i64 (i2 + xa.1))).bind fun o=>match o with | .inl _=>(fn_mixed_Set_Fill_zii 0 i2).bind fun _=>(mk xa.2.1 xa.2.1 none:Option Tq11).bind fun z3=>(loop (fn_seed_Of_az_l1 xa i2 z3) (0,z3)).bind fun l4=>(loop (fn_seed_Of_az_l6 xa p1 i2) (0,l4)).bind fun l5=>some (l5) | .inr (i6,l7)=>(fn_mixed_Set_Fill_p0ii_iodod 0 i2 i6 l7 none).bind fun (l8,l9)=>(mk xa.2.1 xa.2.1 none:Option Tq11).bind fun z10=>(loop (fn_seed_Of_az_l7 xa i2 i6 z10) (0,l8,l9,z10)).bind fun l11=>(loop (fn_seed_Of_az_l12 xa p1 i2) (0,l11)).bind fun l12=>some (l12))
noncomputable def hQ133:Hn Tryz.prog := .cl oQ101 [] (.cl oQ102 [] (.tw 24 .nil (.cl oQ3 [] (.c2 oQ106 [] (.cl oQ110 [] (.ot (.box 88 (.cons (.dat Yq2) (.cons (.box 120 (.one (.row 3 (.dat Yq2)))) (.one (.box 116 (.cons (.dat Yq2) (.one (.row 113 (.dat Yq10))))))))) (.jn [] ⟨[],[bkO 2 (.row 50 (.box 88 (.cons (.dat Yq2) (.cons (.box 120 (.one (.row 3 (.dat Yq2)))) (.one (.box 116 (.cons (.dat Yq2) (.one (.row 113 (.dat Yq10))))))))))]⟩ [2] (.lp ⟨[kdI 43],[bkO 2 (.row 50 (.box 88 (.cons (.dat Yq2) (.cons (.box 120 (.one (.row 3 (.dat Yq2)))) (.one (.box 116 (.cons (.dat Yq2) (.one (.row 113 (.dat Yq10))))))))))]⟩ (.tw 44 (.opn 2 47 (.c2 oQ106 [] (.cls 2 7 (.tw 54 (.opn 2 56 (.wt 59 (.opb 10 8 (.wt 1000014 (.mc 10 0 11 (.cl oQ111 [] (.cls 2 9 (.opn 2 62 (.wt 67 (.opb 27 25 (.wt 1000031 (.mc 27 0 28 (.cl oQ123 [] (.cls 2 26 .nil)))))))))))))) .nil)) (.cls 2 11 (.tw 54 (.opn 2 56 (.wt 59 (.opb 14 12 (.wt 1000018 (.mc 14 0 15 (.cl oQ111 [] (.cls 2 13 (.opn 2 62 (.wt 67 (.opb 31 29 (.wt 1000035 (.mc 31 0 32 (.cl oQ123 [] (.cls 2 30 .nil)))))))))))))) .nil)))) .nil)) (.jn [] ⟨[],[bkO 2 (.row 50 (.box 88 (.cons (.dat Yq2) (.cons (.box 120 (.one (.row 3 (.dat Yq2)))) (.one (.box 116 (.cons (.dat Yq2) (.one (.row 113 (.dat Yq10))))))))))]⟩ [0,2] (.lp ⟨[kdI 73],[bkO 2 (.row 50 (.box 88 (.cons (.dat Yq2) (.cons (.box 120 (.one (.row 3 (.dat Yq2)))) (.one (.box 116 (.cons (.dat Yq2) (.one (.row 113 (.dat Yq10))))))))))]⟩ (.tw 74 (.c2 oQ106 [] (.cl oQ128 [] (.jn [] ⟨[],[]⟩ [] (.lp ⟨[kdI 84],[]⟩ (.tw 85 (.cl oQ109 [] .nil) .nil)) (.cl oQ129 [] (.jn [] ⟨[],[bkO 2 (.row 50 (.box 88 (.cons (.dat Yq2) (.cons (.box 120 (.one (.row 3 (.dat Yq2)))) (.one (.box 116 (.cons (.dat Yq2) (.one (.row 113 (.dat Yq10))))))))))]⟩ [2,6,9] (.lp ⟨[kdI 95],[bkO 2 (.row 50 (.box 88 (.cons (.dat Yq2) (.cons (.box 120 (.one (.row 3 (.dat Yq2)))) (.one (.box 116 (.cons (.dat Yq2) (.one (.row 113 (.dat Yq10))))))))))]⟩ (.tw 96 (.opn 2 100 (.wt 103 (.opb 15 13 (.wt 1000019 (.mc 15 0 16 (.cl oQ111 [] (.cls 2 14 .nil))))))) .nil)) .nil)))) (.cl oQ128 [] (.jn [(9,0)] ⟨[],[bkC 9 88 [.is 1 (.any),.od (.box 120 (.one (.row 3 (.dat Yq2)))),.od (.box 116 (.cons (.dat Yq2) (.one (.row 113 (.dat Yq10)))))],bkU 15]⟩ [9,10] (.lp ⟨[kdI 84],[bkC 9 88 [.is 1 (.any),.od (.box 120 (.one (.row 3 (.dat Yq2)))),.od (.box 116 (.cons (.dat Yq2) (.one (.row 113 (.dat Yq10)))))],bkU 15]⟩ (.tw 85 (.cl oQ123 [] .nil) .nil)) (.cl oQ129 [] (.jn [] ⟨[],[bkO 2 (.row 50 (.box 88 (.cons (.dat Yq2) (.cons (.box 120 (.one (.row 3 (.dat Yq2)))) (.one (.box 116 (.cons (.dat Yq2) (.one (.row 113 (.dat Yq10))))))))))]⟩ [2,6,9,16,18,13] (.lp ⟨[kdI 95],[bkO 2 (.row 50 (.box 88 (.cons (.dat Yq2) (.cons (.box 120 (.one (.row 3 (.dat Yq2)))) (.one (.box 116 (.cons (.dat Yq2) (.one (.row 113 (.dat Yq10)))))))))),bkC 9 88 [.is 2 (.any),.od (.box 120 (.one (.row 3 (.dat Yq2)))),.od (.box 116 (.cons (.dat Yq2) (.one (.row 113 (.dat Yq10)))))],bkU 15]⟩ (.tw 96 (.opn 2 100 (.wt 103 (.opb 30 23 (.wt 1000034 (.mc 30 0 31 (.cl oQ131 [] (.cls 2 29 .nil))))))) .nil)) .nil))))) .nil)) .nil)))) (.mc 2 0 5 (.cl oQ132 [] (.ot (.box 88 (.cons (.dat Yq2) (.cons (.box 120 (.one (.row 3 (.dat Yq2)))) (.one (.box 116 (.cons (.dat Yq2) (.one (.row 113 (.dat Yq10))))))))) (.jn [] ⟨[],[bkO 17 (.row 50 (.box 88 (.cons (.dat Yq2) (.cons (.box 120 (.one (.row 3 (.dat Yq2)))) (.one (.box 116 (.cons (.dat Yq2) (.one (.row 113 (.dat Yq10))))))))))]⟩ [17,2,12,14] (.lp ⟨[kdI 43],[bkC 2 88 [.is 2 (.any),.od (.box 120 (.one (.row 3 (.dat Yq2)))),.od (.box 116 (.cons (.dat Yq2) (.one (.row 113 (.dat Yq10)))))],bkO 17 (.row 50 (.box 88 (.cons (.dat Yq2) (.cons (.box 120 (.one (.row 3 (.dat Yq2)))) (.one (.box 116 (.cons (.dat Yq2) (.one (.row 113 (.dat Yq10)))))))))),bkU 6]⟩ (.tw 44 (.opn 17 47 (.c2 oQ106 [] (.cls 17 27 (.tw 54 (.opn 17 56 (.wt 59 (.opb 30 28 (.wt 1000034 (.mc 30 0 31 (.cl oQ131 [] (.cls 17 29 (.opn 17 62 (.wt 67 (.opb 57 55 (.wt 1000061 (.mc 57 0 58 (.cl oQ123 [] (.cls 17 56 .nil)))))))))))))) .nil)) (.cls 17 31 (.tw 54 (.opn 17 56 (.wt 59 (.opb 34 32 (.wt 1000038 (.mc 34 0 35 (.cl oQ131 [] (.cls 17 33 (.opn 17 62 (.wt 67 (.opb 61 59 (.wt 1000065 (.mc 61 0 62 (.cl oQ123 [] (.cls 17 60 .nil)))))))))))))) .nil)))) .nil)) (.jn [] ⟨[],[bkO 17 (.row 50 (.box 88 (.cons (.dat Yq2) (.cons (.box 120 (.one (.row 3 (.dat Yq2)))) (.one (.box 116 (.cons (.dat Yq2) (.one (.row 113 (.dat Yq10))))))))))]⟩ [0,17] (.lp ⟨[kdI 73],[bkO 17 (.row 50 (.box 88 (.cons (.dat Yq2) (.cons (.box 120 (.one (.row 3 (.dat Yq2)))) (.one (.box 116 (.cons (.dat Yq2) (.one (.row 113 (.dat Yq10))))))))))]⟩ (.tw 74 (.c2 oQ106 [] (.cl oQ128 [] (.jn [] ⟨[],[]⟩ [] (.lp ⟨[kdI 84],[]⟩ (.tw 85 (.cl oQ109 [] .nil) .nil)) (.cl oQ129 [] (.jn [] ⟨[],[bkO 17 (.row 50 (.box 88 (.cons (.dat Yq2) (.cons (.box 120 (.one (.row 3 (.dat Yq2)))) (.one (.box 116 (.cons (.dat Yq2) (.one (.row 113 (.dat Yq10))))))))))]⟩ [17,21,24] (.lp ⟨[kdI 95],[bkO 17 (.row 50 (.box 88 (.cons (.dat Yq2) (.cons (.box 120 (.one (.row 3 (.dat Yq2)))) (.one (.box 116 (.cons (.dat Yq2) (.one (.row 113 (.dat Yq10))))))))))]⟩ (.tw 96 (.opn 17 100 (.wt 103 (.opb 30 28 (.wt 1000034 (.mc 30 0 31 (.cl oQ111 [] (.cls 17 29 .nil))))))) .nil)) .nil)))) (.cl oQ128 [] (.jn [(24,0)] ⟨[],[bkC 24 88 [.is 1 (.any),.od (.box 120 (.one (.row 3 (.dat Yq2)))),.od (.box 116 (.cons (.dat Yq2) (.one (.row 113 (.dat Yq10)))))],bkU 30]⟩ [24,25] (.lp ⟨[kdI 84],[bkC 24 88 [.is 1 (.any),.od (.box 120 (.one (.row 3 (.dat Yq2)))),.od (.box 116 (.cons (.dat Yq2) (.one (.row 113 (.dat Yq10)))))],bkU 30]⟩ (.tw 85 (.cl oQ123 [] .nil) .nil)) (.cl oQ129 [] (.jn [] ⟨[],[bkO 17 (.row 50 (.box 88 (.cons (.dat Yq2) (.cons (.box 120 (.one (.row 3 (.dat Yq2)))) (.one (.box 116 (.cons (.dat Yq2) (.one (.row 113 (.dat Yq10))))))))))]⟩ [17,21,24,31,33,28] (.lp ⟨[kdI 95],[bkO 17 (.row 50 (.box 88 (.cons (.dat Yq2) (.cons (.box 120 (.one (.row 3 (.dat Yq2)))) (.one (.box 116 (.cons (.dat Yq2) (.one (.row 113 (.dat Yq10)))))))))),bkC 24 88 [.is 2 (.any),.od (.box 120 (.one (.row 3 (.dat Yq2)))),.od (.box 116 (.cons (.dat Yq2) (.one (.row 113 (.dat Yq10)))))],bkU 30]⟩ (.tw 96 (.opn 17 100 (.wt 103 (.opb 45 38 (.wt 1000049 (.mc 45 0 46 (.cl oQ131 [] (.cls 17 44 .nil))))))) .nil)) .nil))))) .nil)) .nil)))))))))
noncomputable def sQ133:Spec:=⟨8,⟨[(0,.dat Yq1),(1,.nilp)],[]⟩,[⟨[(0,.od (.row 50 (.box 88 (.cons (.dat Yq2) (.cons (.box 120 (.one (.row 3 (.dat Yq2)))) (.one (.box 116 (.cons (.dat Yq2) (.one (.row 113 (.dat Yq10)))))))))))],[]⟩],fun x=>fn_seed_Of_az x⟩
noncomputable def oQ133:OkSpec Tryz.prog:=⟨sQ133,fn_is func8 hQ133 (by kernel_rfl) (by kernel_rfl),call8⟩

noncomputable def fn_mixed_Set_All (xa:(Option Tq2)):Option Unit :=
 some (())
noncomputable def hQ134:Hn Tryz.prog := .nil
noncomputable def sQ134:Spec:=⟨41,⟨[(0,.is 0 (.dat Yq14))],[bkM]⟩,[⟨[(0,.fn 68 [.ptr 0 0])],[bkN 50 [.is 1 (.any)],bkU 0]⟩],fun x=>fn_mixed_Set_All x⟩
noncomputable def oQ134:OkSpec Tryz.prog:=⟨sQ134,fn_is func41 hQ134 (by kernel_rfl) (by kernel_rfl),call41⟩

noncomputable def fn_sparse_Set_All (xa:Tq16):Option Unit :=
 some (())
noncomputable def hQ135:Hn Tryz.prog := .nil
noncomputable def sQ135:Spec:=⟨56,⟨[(0,.is 0 (.dat (.ptr (.one (.sl Yq2)))))],[bkM]⟩,[⟨[(0,.fn 89 [.ptr 0 0])],[bkN 85 [.is 1 (.any)],bkU 0]⟩],fun x=>fn_sparse_Set_All x⟩
noncomputable def oQ135:OkSpec Tryz.prog:=⟨sQ135,fn_is func56 hQ135 (by kernel_rfl) (by kernel_rfl),call56⟩

noncomputable def fn_mixed_Set_kind (xa:(Option Tq2)):Option ((Tq7⊕Tq16)) :=
 (fn_mixed_Set_Dense xa).bind fun t1=>cond (t1) (xa.bind fun y2=>(fn_dense_Set_All y2.2.2).bind fun _=>some (.inl y2.2.2)) (cond (xa.isNone) ((fn_sparse_Of ([])).bind fun l3=>(fn_sparse_Set_All_p0_r l3).bind fun l4=>some (.inr (some l4))) (xa.bind fun y5=>(fn_sparse_Set_All y5.2.1).bind fun _=>some (.inr y5.2.1)))
noncomputable def hQ136:Hn Tryz.prog := .cl oQ108 [] (.tw 4 (.ms 8 (.cl oQ125 [] .nil)) (.tw 11 (.cl oQ104 [] (.cl oQ121 [] (.per 8 9 (.perb 0 10 (.one (.sl Yq2)) (.pl .nil))))) (.ms 17 (.cl oQ135 [] (.pl .nil)))))
noncomputable def sQ136:Spec:=⟨69,⟨[(0,.dat Yq14)],[]⟩,[⟨[(0,.fn 122 [.ptr 0 0])],[bkN 86 [.dat Yq8]]⟩,⟨[(0,.fn 89 [.ptr 0 0])],[bkN 85 [.dat (.ptr (.one (.sl Yq2)))]]⟩],fun x=>fn_mixed_Set_kind x⟩
noncomputable def oQ136:OkSpec Tryz.prog:=⟨sQ136,fn_is func69 hQ136 (by kernel_rfl) (by kernel_rfl),call69⟩
noncomputable def fn_mixed_Set_List_l1 (p1:Tq7):Tq21→Option (Tq21⊕(List Int)):=fun (i2,l3)=>cond (decide (0≤i2)) ((app l3 ([i2]:List Int)).bind fun z4=>(fn_dense_Set_Next p1 (IntKind.wrap .i64 (i2 + 1))).bind fun i5=>some (.inl (i5,z4))) (some (.inr (l3)))
noncomputable def fn_mixed_Set_List_l2 (p1:Tq16):(Int×Bool×(List Int))→Option ((Int×Bool×(List Int))⊕(List Int)):=fun (i2,t3,l4)=>cond (t3) ((app l4 ([i2]:List Int)).bind fun z5=>(fn_sparse_Set_Rank p1 (IntKind.wrap .i64 (i2 + 1))).bind fun i6=>(fn_sparse_Set_At p1 i6).bind fun (i7,t8)=>some (.inl (i7,t8,z5))) (some (.inr (l4)))
noncomputable def fn_mixed_Set_List (xa:(Option Tq2)):Option (List Int) :=
 (fn_mixed_Set_All xa).bind fun _=>(fn_mixed_Set_kind xa).bind fun o=>match o with | .inl p1=>(fn_dense_Set_Next p1 0).bind fun i2=>(loop (fn_mixed_Set_List_l1 p1) (i2,[])).bind fun l3=>some (l3) | .inr p4=>(fn_sparse_Set_At p4 0).bind fun (i5,t6)=>(loop (fn_mixed_Set_List_l2 p4) (i5,t6,[])).bind fun l7=>some (l7)
noncomputable def hQ137:Hn Tryz.prog := .ms 5 (.cl oQ134 [] (.rg ⟨68,_,func68,call68⟩ (.c2 oQ136 [] (.rg ⟨122,_,func122,call122⟩ (.cl oQ126 [] (.jn [] ⟨[],[bkC 0 48 [.own 3 Yq2],⟨(some 5),0,[],false,false,none,true⟩,⟨(some 10),0,[],false,false,none,true⟩]⟩ [10,5,0] (.lp ⟨[kdI 3],[bkC 0 48 [.own 3 Yq2],⟨(some 5),0,[],false,false,none,true⟩,⟨(some 10),0,[],false,false,none,true⟩]⟩ (.tw 7 (.yl 2 (.pl (.yl 2 (.cl oQ126 [] .nil)))) .nil)) .nil))) (.rg ⟨89,_,func89,call89⟩ (.cl oQ118 [] (.jn [] ⟨[],[bkC 0 48 [.own 3 Yq2],⟨(some 5),0,[],false,false,none,true⟩,⟨(some 10),0,[],false,false,none,true⟩]⟩ [10,5,0] (.lp ⟨[kdI 3,kdB 4],[bkC 0 48 [.own 3 Yq2],⟨(some 5),0,[],false,false,none,true⟩,⟨(some 10),0,[],false,false,none,true⟩]⟩ (.tw 10 (.yl 2 (.pl (.yl 2 (.mix [([0,1,2,3],4),([],5)] [6,7,8,9,10] [] [] (.cl oQ116 [] (.cl oQ118 [] .nil)))))) .nil)) .nil))))))
noncomputable def sQ137:Spec:=⟨18,⟨[(0,.dat Yq14)],[]⟩,[⟨[(0,.own 3 Yq2)],[]⟩],fun x=>fn_mixed_Set_List x⟩
noncomputable def oQ137:OkSpec Tryz.prog:=⟨sQ137,fn_is func18 hQ137 (by kernel_rfl) (by kernel_rfl),call18⟩
noncomputable def fn_ref01_Same_l1 (xa:(List Int)) (xb:(List Int)):Int→Option (Int⊕(Unit⊕Bool)):=fun i1=>cond (decide (i1 < (xa.length:Int))) ((getI xa i1).bind fun x2=>(getI xb i1).bind fun x3=>cond (!decide (x2=x3)) (some (.inr ((.inr (false))))) (some (.inl (IntKind.wrap .i64 (i1 + 1))))) (some (.inr ((.inl ()))))
noncomputable def fn_ref01_Same (xa:(List Int)) (xb:(List Int)):Option Bool :=
 cond (!decide ((xa.length:Int)=(xb.length:Int))) (some (false)) ((loop (fn_ref01_Same_l1 xa xb) 0).bind fun o=>match o with | .inr r=>some r | .inl ()=>some (true))
noncomputable def hQ138:Hn Tryz.prog := .tw 10 .nil (.jx [] ⟨[],[]⟩ [] (.lp ⟨[kdI 5],[]⟩ (.tw 14 (.mix [] [0,1,2,3,4,5,6,7,8] [] [] (.tw 25 .nil .nil)) .nil)) .nil)
noncomputable def sQ138:Spec:=⟨17,⟨[(0,.dat (.sl Yq2)),(1,.dat (.sl Yq2))],[]⟩,[⟨[kdB 0],[]⟩],fun x=>fn_ref01_Same x.1 x.2⟩
noncomputable def oQ138:OkSpec Tryz.prog:=⟨sQ138,fn_is func17 hQ138 (by kernel_rfl) (by kernel_rfl),call17⟩

noncomputable def fn_seed_Size (xa:Tq1):Option Int :=
 (fn_point_New xa).bind fun p21=>(fn_point_Points_Len p21).bind fun i29=>cond (decide (i29=0)) (some (0)) (some (IntKind.wrap .i64 (i29 + xa.1)))
noncomputable def hQ139:Hn Tryz.prog := .cl oQ53 [] (.cl oQ54 [] (.tw 8 .nil .nil))
noncomputable def sQ139:Spec:=⟨14,⟨[(0,.dat Yq1)],[]⟩,[⟨[kdI 0],[]⟩],fun x=>fn_seed_Size x⟩
noncomputable def oQ139:OkSpec Tryz.prog:=⟨sQ139,fn_is func14 hQ139 (by kernel_rfl) (by kernel_rfl),call14⟩

noncomputable def fn_law28_awake  : Option Bool :=
 (fn_seed_Of_az ((1,2,[],([([(1,false)]:List Tq26)]:List Tq3),([(0,false)]:List Tq26),[],([([],(3,0,0,[],[],[]))]:List ((List Tq5)×Tq8))))).bind fun l1=>(cond (decide ((l1.length:Int)=2)) ((getI l1 0).bind fun x2=>(fn_mixed_Set_List x2).bind fun l3=>(fn_ref01_Same l3 ([0,1]:List Int)).bind fun t4=>some (t4)) (some (false))).bind fun t5=>(cond (t5) ((getI l1 1).bind fun x6=>(fn_mixed_Set_List x6).bind fun l7=>(fn_ref01_Same l7 ([0]:List Int)).bind fun t8=>some (t8)) (some (false))).bind fun t9=>(cond (t9) ((fn_seed_Size ((1,2,[],([([(1,false)]:List Tq26)]:List Tq3),([(0,false)]:List Tq26),[],([([],(3,0,0,[],[],[]))]:List ((List Tq5)×Tq8))))).bind fun i10=>some (decide (i10=2))) (some (false))).bind fun t11=>some (t11)
noncomputable def h_law28_awake:Hn Tryz.prog := .per 0 1 (.cl oQ133 [2,4,6] (.per 11 12 (.gj 6 ⟨[kdB 26],[]⟩ [] (.two 19 (.cl oQ137 [] (.cl oQ138 [13,15] .nil)) .nil) (.wt 27 (.gj 6 ⟨[kdB 34],[]⟩ [] (.two 27 (.cl oQ137 [] (.cl oQ138 [13,15] .nil)) .nil) (.wt 35 (.gj 3 ⟨[kdB 39],[]⟩ [] (.two 35 (.cl oQ139 [2,4,6] .nil) .nil) .nil)))))))
noncomputable def sp_law28_awake:Spec:=⟨7,⟨[],[]⟩,[⟨[kdB 0],[]⟩],fun x=>fn_law28_awake⟩
theorem law28_awake_is:SpecOk Tryz.prog sp_law28_awake:=fn_is func7 h_law28_awake (by kernel_rfl) (by kernel_rfl)
noncomputable def ok_law28_awake:OkSpec Tryz.prog:=⟨sp_law28_awake,law28_awake_is,call7⟩

noncomputable def fn_ref21_head_l1 (xa:Tq1):Int→Option (Int⊕(Unit⊕Tq9)):=fun i1=>cond (decide (i1 < (xa.2.2.1.length:Int))) ((getI xa.2.2.1 i1).bind fun x2=>cond ((((decide (x2.1 < 0))||(decide (xa.1≤x2.1)))||(decide (x2.2 < 0)))||(decide (xa.1≤x2.2))) (some (.inr ((.inr ((7,1,i1,0)))))) (some (.inl (IntKind.wrap .i64 (i1 + 1))))) (some (.inr ((.inl ()))))
noncomputable def fn_ref21_head (xa:Tq1):Option Tq9 :=
 cond ((decide (xa.1 < 1))||(decide (xa.2.1 < xa.1))) (some ((7,0,0,0))) (cond (decide (65536 < xa.2.1)) (some ((6,0,0,0))) (cond (decide (65536 < (xa.2.2.1.length:Int))) (some ((6,1,0,0))) ((loop (fn_ref21_head_l1 xa) 0).bind fun o=>match o with | .inr r=>some r | .inl ()=>some ((0,0,0,0)))))
noncomputable def hQ140:Hn Tryz.prog := .gp 5 (.tw 14 .nil (.tw 18 .nil (.tw 23 .nil (.jx [] ⟨[],[bkC 2 107 [.lit (.int .i64 0),.lit (.int .i64 0),.lit (.int .i64 0),.lit (.int .i64 0)]]⟩ [2] (.lp ⟨[kdI 3],[bkC 2 107 [.lit (.int .i64 0),.lit (.int .i64 0),.lit (.int .i64 0),.lit (.int .i64 0)]]⟩ (.tw 29 (.gp 5 (.wt 47 (.gp 3 (.wt 52 (.gp 5 (.tw 58 .nil .nil)))))) .nil)) .nil))))
noncomputable def sQ140:Spec:=⟨98,⟨[(0,.dat Yq1)],[]⟩,[⟨[(0,.agg [.dat Yq2,.dat Yq2,.dat Yq2,.dat Yq2])],[]⟩],fun x=>fn_ref21_head x⟩
noncomputable def oQ140:OkSpec Tryz.prog:=⟨sQ140,fn_is func98 hQ140 (by kernel_rfl) (by kernel_rfl),call98⟩
noncomputable def fn_ref15_Check_l1 (xa:Tq3) (xb:Int):Int→Option (Int⊕(Unit⊕Int)):=fun i1=>cond (decide (i1 < (xa.length:Int))) ((getI xa i1).bind fun x2=>(cond (decide (x2.1 < 0)) (some (true)) ((getI xa i1).bind fun x3=>some (decide (xb≤x3.1)))).bind fun t4=>cond (t4) (some (.inr ((.inr (7))))) (some (.inl (IntKind.wrap .i64 (i1 + 1))))) (some (.inr ((.inl ()))))
noncomputable def fn_ref15_Check (xa:Tq3) (xb:Int):Option Int :=
 cond (decide (16 < (xa.length:Int))) (some (6)) ((loop (fn_ref15_Check_l1 xa xb) 0).bind fun o=>match o with | .inr r=>some r | .inl ()=>some (0))
noncomputable def hQ141:Hn Tryz.prog := .tw 9 .nil (.jx [] ⟨[],[]⟩ [] (.lp ⟨[kdI 5],[]⟩ (.tw 14 (.gj 8 ⟨[kdB 33],[]⟩ [] (.two 24 .nil .nil) (.tw 33 .nil .nil)) .nil)) .nil)
noncomputable def sQ141:Spec:=⟨136,⟨[(0,.dat Yq7),kdI 1],[]⟩,[⟨[kdI 0],[]⟩],fun x=>fn_ref15_Check x.1 x.2⟩
noncomputable def oQ141:OkSpec Tryz.prog:=⟨sQ141,fn_is func136 hQ141 (by kernel_rfl) (by kernel_rfl),call136⟩
noncomputable def fn_ref15_Shape_l1 (xa:Tq3) (xb:Tq3):Int→Option (Int⊕(Unit⊕Bool)):=fun i1=>cond (decide (i1 < (xa.length:Int))) ((getI xa i1).bind fun x2=>(getI xb i1).bind fun x3=>cond (!(x2.2 == x3.2)) (some (.inr ((.inr (false))))) (some (.inl (IntKind.wrap .i64 (i1 + 1))))) (some (.inr ((.inl ()))))
noncomputable def fn_ref15_Shape (xa:Tq3) (xb:Tq3):Option Bool :=
 cond (!decide ((xa.length:Int)=(xb.length:Int))) (some (false)) ((loop (fn_ref15_Shape_l1 xa xb) 0).bind fun o=>match o with | .inr r=>some r | .inl ()=>some (true))
noncomputable def hQ142:Hn Tryz.prog := .tw 12 .nil (.jx [] ⟨[],[]⟩ [] (.lp ⟨[kdI 5],[]⟩ (.tw 17 (.mix [] [0,1,2,3,4,5,6,7,8,9,10,11,12] [] [] (.tw 32 .nil .nil)) .nil)) .nil)
noncomputable def sQ142:Spec:=⟨137,⟨[(0,.dat Yq7),(1,.dat Yq7)],[]⟩,[⟨[kdB 0],[]⟩],fun x=>fn_ref15_Shape x.1 x.2⟩
noncomputable def oQ142:OkSpec Tryz.prog:=⟨sQ142,fn_is func137 hQ142 (by kernel_rfl) (by kernel_rfl),call137⟩
noncomputable def fn_ref17_Check_l1 (xa:Tq13):Int→Option (Int⊕(Unit⊕Int)):=fun i1=>cond (decide (i1 < (xa.2.1.length:Int))) ((getI xa.2.1 i1).bind fun x2=>cond ((((decide (x2.1 < 0))||(decide (xa.1≤x2.1)))||(decide (x2.2 < 0)))||(decide (xa.1≤x2.2))) (some (.inr ((.inr (7))))) (some (.inl (IntKind.wrap .i64 (i1 + 1))))) (some (.inr ((.inl ()))))
noncomputable def fn_ref17_Check_l2 (xa:Tq13):Int→Option (Int⊕(Unit⊕Int)):=fun i1=>cond (decide (i1 < (xa.2.2.1.length:Int))) ((getI xa.2.2.1 i1).bind fun x2=>(fn_ref15_Check x2 xa.1).bind fun i3=>cond (!decide (i3=0)) (some (.inr ((.inr (i3))))) (some (.inl (IntKind.wrap .i64 (i1 + 1))))) (some (.inr ((.inl ()))))
noncomputable def fn_ref17_Check (xa:Tq13):Option Int :=
 cond (decide (xa.1 < 0)) (some (7)) (cond (((decide (16 < xa.1))||(decide (16 < (xa.2.1.length:Int))))||(decide (16 < (xa.2.2.1.length:Int)))) (some (6)) ((loop (fn_ref17_Check_l1 xa) 0).bind fun o=>match o with | .inr r=>some r | .inl ()=>(loop (fn_ref17_Check_l2 xa) 0).bind fun o=>match o with | .inr r=>some r | .inl ()=>(fn_ref15_Check xa.2.2.2 xa.1).bind fun i1=>some (i1)))
noncomputable def hQ143:Hn Tryz.prog := .tw 9 .nil (.gp 4 (.wt 19 (.gp 4 (.tw 24 .nil (.jx [] ⟨[],[]⟩ [] (.lp ⟨[kdI 3],[]⟩ (.tw 29 (.gp 5 (.wt 47 (.gp 3 (.wt 52 (.gp 5 (.tw 58 .nil .nil)))))) .nil)) (.jx [] ⟨[],[]⟩ [] (.lp ⟨[kdI 5],[]⟩ (.tw 63 (.mix [] [0,1,2,3,4,5,6] [7,8] [] (.cl oQ141 [] (.tw 75 .nil .nil))) .nil)) (.cl oQ141 [] .nil)))))))
noncomputable def sQ143:Spec:=⟨138,⟨[(0,.dat Yq11)],[]⟩,[⟨[kdI 0],[]⟩],fun x=>fn_ref17_Check x⟩
noncomputable def oQ143:OkSpec Tryz.prog:=⟨sQ143,fn_is func138 hQ143 (by kernel_rfl) (by kernel_rfl),call138⟩
noncomputable def fn_ref21_types_l1 (xa:Tq1):Int→Option (Int⊕(Unit⊕Tq9)):=fun i1=>cond (decide (i1 < (xa.2.2.2.1.length:Int))) ((getI xa.2.2.2.1 i1).bind fun x2=>(fn_ref15_Check x2 xa.2.1).bind fun i3=>cond (!decide (i3=0)) (some (.inr ((.inr ((i3,2,i1,0)))))) (some (.inl (IntKind.wrap .i64 (i1 + 1))))) (some (.inr ((.inl ()))))
noncomputable def fn_ref21_types_l2 (xa:Tq1):Int→Option (Int⊕(Unit⊕Tq9)):=fun i1=>cond (decide (i1 < (xa.2.2.2.2.2.1.length:Int))) ((getI xa.2.2.2.2.2.1 i1).bind fun x2=>(fn_ref17_Check (x2.1,x2.2.1,x2.2.2.1,x2.2.2.2)).bind fun i3=>cond (!decide (i3=0)) (some (.inr ((.inr ((i3,4,i1,0)))))) (some (.inl (IntKind.wrap .i64 (i1 + 1))))) (some (.inr ((.inl ()))))
noncomputable def fn_ref21_types (xa:Tq1):Option Tq9 :=
 cond (decide ((xa.2.2.2.1.length:Int)=0)) (some ((14,2,0,0))) (cond (decide (65536 < (xa.2.2.2.1.length:Int))) (some ((6,2,0,0))) ((loop (fn_ref21_types_l1 xa) 0).bind fun o=>match o with | .inr r=>some r | .inl ()=>(fn_ref15_Check xa.2.2.2.2.1 xa.1).bind fun i1=>cond (!decide (i1=0)) (some ((i1,3,0,0))) ((getI xa.2.2.2.1 0).bind fun x2=>(fn_ref15_Shape x2 xa.2.2.2.2.1).bind fun t3=>cond (!t3) (some ((8,3,0,0))) (cond (decide (65536 < (xa.2.2.2.2.2.1.length:Int))) (some ((6,4,0,0))) ((loop (fn_ref21_types_l2 xa) 0).bind fun o=>match o with | .inr r=>some r | .inl ()=>some ((0,0,0,0)))))))
noncomputable def hQ144:Hn Tryz.prog := .tw 11 .nil (.tw 16 .nil (.jx [] ⟨[],[bkC 2 107 [.lit (.int .i64 0),.lit (.int .i64 0),.lit (.int .i64 0),.lit (.int .i64 0)]]⟩ [2] (.lp ⟨[kdI 3],[bkC 2 107 [.lit (.int .i64 0),.lit (.int .i64 0),.lit (.int .i64 0),.lit (.int .i64 0)]]⟩ (.tw 22 (.mix [] [0,1,2,3,4,5,6] [7,8] [] (.cl oQ141 [] (.tw 34 .nil .nil))) .nil)) (.cl oQ141 [] (.tw 44 .nil (.mix [] [0,1,2,3,4,5] [6,7] [] (.cl oQ142 [] (.tw 54 .nil (.tw 59 .nil (.jx [] ⟨[],[bkC 2 107 [.lit (.int .i64 0),.lit (.int .i64 0),.lit (.int .i64 0),.lit (.int .i64 0)]]⟩ [2] (.lp ⟨[kdI 6],[bkC 2 107 [.lit (.int .i64 0),.lit (.int .i64 0),.lit (.int .i64 0),.lit (.int .i64 0)]]⟩ (.tw 65 (.cl oQ143 [] (.tw 75 .nil .nil)) .nil)) .nil)))))))))
noncomputable def sQ144:Spec:=⟨99,⟨[(0,.dat Yq1)],[]⟩,[⟨[(0,.agg [.dat Yq2,.dat Yq2,.dat Yq2,.dat Yq2])],[]⟩],fun x=>fn_ref21_types x⟩
noncomputable def oQ144:OkSpec Tryz.prog:=⟨sQ144,fn_is func99 hQ144 (by kernel_rfl) (by kernel_rfl),call99⟩

noncomputable def fn_ref18_Dst (xa:Int):Option Bool :=
 some ((((decide (xa=1))||(decide (xa=2)))||(decide (xa=3)))||(decide (xa=5)))
noncomputable def hQ145:Hn Tryz.prog := .gp 2 (.wt 9 (.gp 2 (.wt 13 (.gp 2 .nil))))
noncomputable def sQ145:Spec:=⟨165,⟨[kdI 0],[]⟩,[⟨[kdB 0],[]⟩],fun x=>fn_ref18_Dst x⟩
noncomputable def oQ145:OkSpec Tryz.prog:=⟨sQ145,fn_is func165 hQ145 (by kernel_rfl) (by kernel_rfl),call165⟩

noncomputable def fn_ref18_Src (xa:Int):Option Bool :=
 some ((decide (1≤xa))&&(decide (xa≤4)))
noncomputable def hQ146:Hn Tryz.prog := .gp 2 .nil
noncomputable def sQ146:Spec:=⟨166,⟨[kdI 0],[]⟩,[⟨[kdB 0],[]⟩],fun x=>fn_ref18_Src x⟩
noncomputable def oQ146:OkSpec Tryz.prog:=⟨sQ146,fn_is func166 hQ146 (by kernel_rfl) (by kernel_rfl),call166⟩

noncomputable def fn_ref18_Region (xa:Int):Option Bool :=
 some ((decide (xa=2))||(decide (xa=3)))
noncomputable def hQ147:Hn Tryz.prog := .gp 2 .nil
noncomputable def sQ147:Spec:=⟨167,⟨[kdI 0],[]⟩,[⟨[kdB 0],[]⟩],fun x=>fn_ref18_Region x⟩
noncomputable def oQ147:OkSpec Tryz.prog:=⟨sQ147,fn_is func167 hQ147 (by kernel_rfl) (by kernel_rfl),call167⟩

noncomputable def fn_ref18_Form (xa:Tq5):Option Bool :=
 (cond ((decide (0≤xa.1))&&(decide (xa.1≤5))) ((fn_ref18_Dst xa.1).bind fun t97=>some (t97||(decide (xa.2.1=0)))) (some (false))).bind fun t93=>(cond (t93) ((fn_ref18_Src xa.1).bind fun t1=>some (t1||(decide (xa.2.2.1=0)))) (some (false))).bind fun t2=>(cond (t2) ((fn_ref18_Region xa.1).bind fun t3=>some (t3||((decide (xa.2.2.2.1=0))&&(!xa.2.2.2.2)))) (some (false))).bind fun t4=>some (t4)
noncomputable def hQ148:Hn Tryz.prog := .gp 3 (.wt 11 (.gj 8 ⟨[kdB 20],[]⟩ [] (.two 11 (.cl oQ145 [] (.wt 15 (.gp 3 .nil))) .nil) (.wt 21 (.gj 8 ⟨[kdB 30],[]⟩ [] (.two 21 (.cl oQ146 [] (.wt 25 (.gp 3 .nil))) .nil) (.wt 31 (.gj 13 ⟨[kdB 45],[]⟩ [] (.two 31 (.cl oQ147 [] (.wt 35 (.gp 8 .nil))) .nil) .nil))))))
noncomputable def sQ148:Spec:=⟨164,⟨[(0,.dat Yq6)],[]⟩,[⟨[kdB 0],[]⟩],fun x=>fn_ref18_Form x⟩
noncomputable def oQ148:OkSpec Tryz.prog:=⟨sQ148,fn_is func164 hQ148 (by kernel_rfl) (by kernel_rfl),call164⟩
noncomputable def fn_ref16_slots_rkkii_l1 (xb:Tq3) (xc:Tq3) (xd:Int) (xe:Int):Tq20→Option (Tq20⊕(List Tq5)):=fun (l1,i2)=>cond (decide (i2 < (xb.length:Int))) ((getI xb i2).bind fun x3=>(getI xc i2).bind fun x4=>(app l1 (([(x3.1,x4.1,xd,IntKind.wrap .i64 (xe + i2),false)]:List Tq5))).bind fun z5=>(getI xc i2).bind fun x6=>cond (x6.2) ((getI xc i2).bind fun x7=>(getI xb i2).bind fun x8=>(app z5 (([(x7.1,x8.1,xd,IntKind.wrap .i64 (xe + i2),true)]:List Tq5))).bind fun z9=>some (.inl ((z9,IntKind.wrap .i64 (i2 + 1))))) (some (.inl ((z5,IntKind.wrap .i64 (i2 + 1)))))) (some (.inr (l1)))
noncomputable def fn_ref16_slots_rkkii (xb:Tq3) (xc:Tq3) (xd:Int) (xe:Int) (qxa:(List Tq5)):Option ((List Tq5)) :=
 (loop (fn_ref16_slots_rkkii_l1 xb xc xd xe) (qxa,0)).bind fun l1=>some (l1)
noncomputable def hQ149:Hn Tryz.prog := .jn [] ⟨[(0,.own 226 Yq6)],[]⟩ [0] (.lp ⟨[(0,.own 226 Yq6),kdI 11],[]⟩ (.tw 15 (.mix [([0,1,2,3,4,5,6,7,8,9,10,11,12,13,14,15],16)] [] [17,18] [] (.tw 40 (.mix [([0,1,2,3,4,5,6,7,8,9,10,11,12,13,14,15],16)] [] [17,18] [] .nil) .nil)) .nil)) .nil
noncomputable def sQ149:Spec:=⟨183,⟨[(0,.own 226 Yq6),(1,.dat (.sl Yq3)),(2,.dat (.sl Yq3)),kdI 3,kdI 4],[]⟩,[⟨[(0,.own 226 Yq6)],[]⟩],fun x=>fn_ref16_slots_rkkii x.2.1 x.2.2.1 x.2.2.2.1 x.2.2.2.2 x.1⟩
noncomputable def oQ149:OkSpec Tryz.prog:=⟨sQ149,fn_is func183 hQ149 (by kernel_rfl) (by kernel_rfl),call183⟩

noncomputable def fn_ref16_Flow (xa:Tq3) (xb:Tq3) (xc:Int) (xd:Int):Option (Tq20) :=
 (fn_ref15_Shape xa xb).bind fun t34=>cond (!t34) (some (([],8))) ((fn_ref16_slots_rkkii xa xb xc xd (([]:List Tq5))).bind fun l45=>some ((l45,0)))
noncomputable def hQ150:Hn Tryz.prog := .cl oQ142 [] (.tw 13 .nil (.cl oQ149 [] .nil))
noncomputable def sQ150:Spec:=⟨168,⟨[(0,.dat Yq7),(1,.dat Yq7),kdI 2,kdI 3],[]⟩,[⟨[(0,.tup [.own 226 Yq6,.dat Yq2])],[]⟩],fun x=>fn_ref16_Flow x.1 x.2.1 x.2.2.1 x.2.2.2⟩
noncomputable def oQ150:OkSpec Tryz.prog:=⟨sQ150,fn_is func168 hQ150 (by kernel_rfl) (by kernel_rfl),call168⟩
noncomputable def fn_ref15_Ref_l1 (xa:Tq3) (xc:Bool):(Tq3×Int)→Option ((Tq3×Int)⊕Tq3):=fun (l1,i2)=>cond (decide (i2 < (xa.length:Int))) ((getI xa i2).bind fun x3=>(getI xa i2).bind fun x4=>cond (x4.2) ((app l1 (([(x3.1,true)]:List Tq26))).bind fun z5=>some (.inl ((z5,IntKind.wrap .i64 (i2 + 1))))) ((app l1 (([(x3.1,xc)]:List Tq26))).bind fun z6=>some (.inl ((z6,IntKind.wrap .i64 (i2 + 1)))))) (some (.inr (l1)))
noncomputable def fn_ref15_Ref (xa:Tq3) (xb:Int) (xc:Bool):Option (Tq3) :=
 (loop (fn_ref15_Ref_l1 xa xc) ((([(xb,false)]:List Tq26),0))).bind fun l1=>some (l1)
noncomputable def hQ151:Hn Tryz.prog := .jn [] ⟨[(7,.own 69 Yq3),(11,.any)],[]⟩ [4] (.lp ⟨[(7,.own 69 Yq3),kdI 8],[]⟩ (.tw 16 (.mix [([0,1,2,3,4,5,6,7,8,9,10,11,12,13,14,15,16],17)] [] [18,19] [] (.two 32 .nil .nil)) .nil)) .nil
noncomputable def sQ151:Spec:=⟨184,⟨[(0,.dat Yq7),kdI 1,kdB 2],[]⟩,[⟨[(0,.agg [.own 69 Yq3])],[]⟩],fun x=>fn_ref15_Ref x.1 x.2.1 x.2.2⟩
noncomputable def oQ151:OkSpec Tryz.prog:=⟨sQ151,fn_is func184 hQ151 (by kernel_rfl) (by kernel_rfl),call184⟩

noncomputable def fn_ref16_Loan (xa:Tq3) (xb:Tq3) (xc:Int) (xd:Bool):Option (Tq20) :=
 (fn_ref15_Ref xa xc xd).bind fun l1=>(fn_ref15_Shape l1 xb).bind fun t2=>cond (!t2) (some (([],8))) ((getI xb 0).bind fun x3=>(subL xb 1 (xb.length:Int)).bind fun y4=>(fn_ref16_slots_rkkii xa y4 1 1 (([(xc,x3.1,2,0,false)]:List Tq5))).bind fun l5=>some ((l5,0)))
noncomputable def hQ152:Hn Tryz.prog := .mix [([0,1,2,4],3)] [] [5,6] [] (.cl oQ151 [] (.cl oQ142 [4] (.tw 17 .nil (.mix [] [0,1,2,3,4,5] [6,7,8] [] (.cl oQ149 [] .nil)))))
noncomputable def sQ152:Spec:=⟨169,⟨[(0,.dat Yq7),(1,.dat Yq7),kdI 2,kdB 3],[]⟩,[⟨[(0,.tup [.own 226 Yq6,.dat Yq2])],[]⟩],fun x=>fn_ref16_Loan x.1 x.2.1 x.2.2.1 x.2.2.2⟩
noncomputable def oQ152:OkSpec Tryz.prog:=⟨sQ152,fn_is func169 hQ152 (by kernel_rfl) (by kernel_rfl),call169⟩
noncomputable def fn_ref16_Again_l1 (xa:Tq3) (xd:Bool):Int→Option (Int⊕(Unit⊕Tq20)):=fun i1=>cond (decide (i1 < (xa.length:Int))) ((cond (xd) ((getI xa i1).bind fun x2=>some (!x2.2)) (some (false))).bind fun t3=>cond (t3) (some (.inr ((.inr (([],8)))))) (some (.inl (IntKind.wrap .i64 (i1 + 1))))) (some (.inr ((.inl ()))))
noncomputable def fn_ref16_Again (xa:Tq3) (xb:Tq3) (xc:Int) (xd:Bool):Option (Tq20) :=
 (cond (decide ((xa.length:Int)=0)) (some (true)) ((fn_ref15_Shape xa xb).bind fun t1=>some (!t1))).bind fun t2=>(cond (t2) (some (true)) ((getI xa 0).bind fun x3=>some (x3.2))).bind fun t4=>cond (t4) (some (([],8))) ((loop (fn_ref16_Again_l1 xa xd) 1).bind fun o=>match o with | .inr r=>some r | .inl ()=>(getI xa 0).bind fun x5=>(getI xb 0).bind fun x6=>(subL xa 1 (xa.length:Int)).bind fun y7=>(subL xb 1 (xb.length:Int)).bind fun y8=>(fn_ref16_slots_rkkii y7 y8 1 1 (([(x5.1,xc,3,0,false),(xc,x6.1,2,0,false)]:List Tq5))).bind fun l9=>some ((l9,0)))
noncomputable def hQ153:Hn Tryz.prog := .gj 4 ⟨[kdB 21],[]⟩ [] (.two 16 .nil (.cl oQ142 [] .nil)) (.wt 22 (.gj 5 ⟨[kdB 28],[]⟩ [] (.two 22 .nil .nil) (.tw 28 .nil (.jx [] ⟨[],[]⟩ [] (.lp ⟨[kdI 10],[]⟩ (.tw 33 (.gj 7 ⟨[kdB 45],[]⟩ [] (.two 37 .nil .nil) (.tw 45 .nil .nil)) .nil)) (.mix [([0,1,2,3,4,5,6,7,8,9,10,11,12,13],14)] [15] [] [] (.mix [] [0,1,2,3,4,5,6] [7,8,9] [] (.cl oQ149 [] .nil)))))))
noncomputable def sQ153:Spec:=⟨170,⟨[(0,.dat Yq7),(1,.dat Yq7),kdI 2,kdB 3],[]⟩,[⟨[(0,.tup [.own 226 Yq6,.dat Yq2])],[]⟩],fun x=>fn_ref16_Again x.1 x.2.1 x.2.2.1 x.2.2.2⟩
noncomputable def oQ153:OkSpec Tryz.prog:=⟨sQ153,fn_is func170 hQ153 (by kernel_rfl) (by kernel_rfl),call170⟩

noncomputable def fn_ref18_Needs (xa:Tq5) (xb:(List Tq3)) (xc:Int):Option (Tq20) :=
 (fn_ref18_Form (xa.1,xa.2.1,xa.2.2.1,xa.2.2.2.1,xa.2.2.2.2)).bind fun t1=>cond (!t1) (some (([],3))) ((fn_ref18_Dst xa.1).bind fun t2=>(cond (t2&&((decide (xa.2.1 < 0))||(decide ((xb.length:Int)≤xa.2.1)))) (some (true)) ((fn_ref18_Src xa.1).bind fun t3=>some (t3&&((decide (xa.2.2.1 < 0))||(decide ((xb.length:Int)≤xa.2.2.1)))))).bind fun t4=>(cond (t4) (some (true)) ((fn_ref18_Region xa.1).bind fun t5=>some (t5&&((decide (xa.2.2.2.1 < 0))||(decide (xc≤xa.2.2.2.1)))))).bind fun t6=>cond (t6) (some (([],7))) (cond (decide (xa.1=1)) ((getI xb xa.2.2.1).bind fun x7=>(getI xb xa.2.1).bind fun x8=>(fn_ref16_Flow x7 x8 1 0).bind fun (l9,i10)=>some ((l9,i10))) (cond (decide (xa.1=2)) ((getI xb xa.2.2.1).bind fun x11=>(getI xb xa.2.1).bind fun x12=>(fn_ref16_Loan x11 x12 xa.2.2.2.1 xa.2.2.2.2).bind fun (l13,i14)=>some ((l13,i14))) (cond (decide (xa.1=3)) ((getI xb xa.2.2.1).bind fun x15=>(getI xb xa.2.1).bind fun x16=>(fn_ref16_Again x15 x16 xa.2.2.2.1 xa.2.2.2.2).bind fun (l17,i18)=>some ((l17,i18))) (some (([],0)))))))
noncomputable def hQ154:Hn Tryz.prog := .cl oQ148 [] (.tw 10 .nil (.cl oQ145 [] (.gp 10 (.wt 26 (.gj 15 ⟨[kdB 42],[]⟩ [] (.two 26 .nil (.cl oQ146 [] (.wt 30 (.gp 10 .nil)))) (.wt 43 (.gj 14 ⟨[kdB 58],[]⟩ [] (.two 43 .nil (.cl oQ147 [] (.wt 47 (.gp 9 .nil)))) (.tw 58 .nil (.tw 61 (.mix [([0,1,2,3,4,5,6,7,8,9],10)] [11,12,13,14] [] [] (.cl oQ150 [] .nil)) (.tw 77 (.mix [([0,1,2,3,4,5,6,7,8,9,10,11,12,13],14)] [15,16,17,18] [] [] (.cl oQ152 [] .nil)) (.tw 97 (.mix [([0,1,2,3,4,5,6,7,8,9,10,11,12,13],14)] [15,16,17,18] [] [] (.cl oQ153 [] .nil)) .nil)))))))))))
noncomputable def sQ154:Spec:=⟨139,⟨[(0,.dat Yq6),(1,.dat (.sl Yq7)),kdI 2],[]⟩,[⟨[(0,.tup [.own 226 Yq6,.dat Yq2])],[]⟩],fun x=>fn_ref18_Needs x.1 x.2.1 x.2.2⟩
noncomputable def oQ154:OkSpec Tryz.prog:=⟨sQ154,fn_is func139 hQ154 (by kernel_rfl) (by kernel_rfl),call139⟩

noncomputable def fn_ref19_Form (xa:Tq8):Option Int :=
 cond ((decide (xa.1 < 1))||(decide (4 < xa.1))) (some (3)) (cond (((((decide (xa.1=1))||(decide (xa.1=4)))&&(!decide ((xa.2.2.2.1.length:Int)=1)))||((decide (xa.1=2))&&(decide ((xa.2.2.2.1.length:Int)=0))))||((decide (xa.1=3))&&(!decide ((xa.2.2.2.1.length:Int)=0)))) (some (3)) (cond ((!decide (xa.1=4))&&(((!decide (xa.2.1=0))||(!decide (xa.2.2.1=0)))||(!decide ((xa.2.2.2.2.2.length:Int)=0)))) (some (3)) (cond (((decide (xa.1=1))||(decide (xa.1=3)))&&(!decide ((xa.2.2.2.2.1.length:Int)=0))) (some (3)) (cond (((decide (16 < (xa.2.2.2.1.length:Int)))||(decide (16 < (xa.2.2.2.2.1.length:Int))))||(decide (16 < (xa.2.2.2.2.2.length:Int)))) (some (6)) (some (0))))))
noncomputable def hQ155:Hn Tryz.prog := .gp 3 (.tw 10 .nil (.gp 3 (.wt 19 (.gp 4 (.wt 25 (.gp 9 (.wt 36 (.gp 9 (.tw 46 .nil (.gp 14 (.tw 65 .nil (.gp 3 (.wt 74 (.gp 4 (.tw 79 .nil (.gp 4 (.wt 90 (.gp 4 (.tw 95 .nil .nil)))))))))))))))))))
noncomputable def sQ155:Spec:=⟨171,⟨[(0,.dat Yq12)],[]⟩,[⟨[kdI 0],[]⟩],fun x=>fn_ref19_Form x⟩
noncomputable def oQ155:OkSpec Tryz.prog:=⟨sQ155,fn_is func171 hQ155 (by kernel_rfl) (by kernel_rfl),call171⟩
noncomputable def fn_ref19_within_l1 (xa:(List Int)) (xb:Int):Int→Option (Int⊕(Unit⊕Bool)):=fun i1=>cond (decide (i1 < (xa.length:Int))) ((getI xa i1).bind fun x2=>(cond (decide (x2 < 0)) (some (true)) ((getI xa i1).bind fun x3=>some (decide (xb≤x3)))).bind fun t4=>cond (t4) (some (.inr ((.inr (false))))) (some (.inl (IntKind.wrap .i64 (i1 + 1))))) (some (.inr ((.inl ()))))
noncomputable def fn_ref19_within (xa:(List Int)) (xb:Int):Option Bool :=
 (loop (fn_ref19_within_l1 xa xb) 0).bind fun o=>match o with | .inr r=>some r | .inl ()=>some (true)
noncomputable def hQ156:Hn Tryz.prog := .jx [] ⟨[],[]⟩ [] (.lp ⟨[kdI 5],[]⟩ (.tw 9 (.gj 6 ⟨[kdB 24],[]⟩ [] (.two 17 .nil .nil) (.tw 24 .nil .nil)) .nil)) .nil
noncomputable def sQ156:Spec:=⟨172,⟨[(0,.dat (.sl Yq2)),kdI 1],[]⟩,[⟨[kdB 0],[]⟩],fun x=>fn_ref19_within x.1 x.2⟩
noncomputable def oQ156:OkSpec Tryz.prog:=⟨sQ156,fn_is func172 hQ156 (by kernel_rfl) (by kernel_rfl),call172⟩
noncomputable def fn_ref15_Subst_l1 (xa:Tq3) (xb:(List Int)):(Tq3×Int)→Option ((Tq3×Int)⊕(Tq3⊕(Tq3×Int))):=fun (l1,i2)=>cond (decide (i2 < (xa.length:Int))) ((getI xa i2).bind fun x3=>cond ((decide (x3.1 < 0))||(decide ((xb.length:Int)≤x3.1))) (some (.inr ((.inr (([],7)))))) ((getI xb x3.1).bind fun x4=>(getI xa i2).bind fun x5=>(app l1 (([(x4,x5.2)]:List Tq26))).bind fun z6=>some (.inl ((z6,IntKind.wrap .i64 (i2 + 1)))))) (some (.inr (.inl l1)))
noncomputable def fn_ref15_Subst (xa:Tq3) (xb:(List Int)):Option ((Tq3×Int)) :=
 (loop (fn_ref15_Subst_l1 xa xb) ((([]:List Tq26),0))).bind fun o=>match o with | .inr r=>some r | .inl l1=>some ((l1,0))
noncomputable def hQ157:Hn Tryz.prog := .jx [] ⟨[(6,.own 69 Yq3),(9,.any)],[bkC 2 26 [.nils]]⟩ [4,2] (.lp ⟨[(6,.own 69 Yq3),kdI 7],[bkC 2 26 [.nils]]⟩ (.tw 14 (.gp 4 (.tw 30 .nil (.mix [([0,1,2,3,4,5,6,7,8,9,10,11],12)] [] [13,14] [] .nil))) .nil)) .nil
noncomputable def sQ157:Spec:=⟨185,⟨[(0,.dat Yq7),(1,.dat (.sl Yq2))],[]⟩,[⟨[(0,.tup [.agg [.own 69 Yq3],.dat Yq2])],[]⟩],fun x=>fn_ref15_Subst x.1 x.2⟩
noncomputable def oQ157:OkSpec Tryz.prog:=⟨sQ157,fn_is func185 hQ157 (by kernel_rfl) (by kernel_rfl),call185⟩
noncomputable def fn_ref17_Call_l1 (xa:Tq13) (xb:(List Int)):Tq20→Option (Tq20⊕(List Tq5)):=fun (l1,i2)=>cond (decide (i2 < (xa.2.1.length:Int))) ((getI xa.2.1 i2).bind fun x3=>(getI xb x3.1).bind fun x4=>(getI xa.2.1 i2).bind fun x5=>(getI xb x5.2).bind fun x6=>(app l1 (([(x4,x6,4,i2,false)]:List Tq5))).bind fun z7=>some (.inl ((z7,IntKind.wrap .i64 (i2 + 1))))) (some (.inr (l1)))
noncomputable def fn_ref17_Call_l2 (xa:Tq13) (xb:(List Int)) (xc:(List Tq3)):Tq20→Option (Tq20⊕((List Tq5)⊕Tq20)):=fun (l1,i2)=>cond (decide (i2 < (xa.2.2.1.length:Int))) ((getI xa.2.2.1 i2).bind fun x3=>(fn_ref15_Subst x3 xb).bind fun (l4,i5)=>(getI xc i2).bind fun x6=>(fn_ref16_Flow x6 l4 5 (IntKind.wrap .i64 (16 * i2))).bind fun (l7,i8)=>cond (!decide (i8=0)) (some (.inr ((.inr (([],i8)))))) ((app l1 l7).bind fun z9=>some (.inl ((z9,IntKind.wrap .i64 (i2 + 1)))))) (some (.inr (.inl l1)))
noncomputable def fn_ref17_Call (xa:Tq13) (xb:(List Int)) (xc:(List Tq3)) (xd:Tq3):Option (Tq20) :=
 (fn_ref17_Check (xa.1,xa.2.1,xa.2.2.1,xa.2.2.2)).bind fun i1=>cond (!decide (i1=0)) (some (([],i1))) (cond ((!decide ((xb.length:Int)=xa.1))||(!decide ((xc.length:Int)=(xa.2.2.1.length:Int)))) (some (([],2))) ((loop (fn_ref17_Call_l1 xa xb) ((([]:List Tq5),0))).bind fun l2=>(loop (fn_ref17_Call_l2 xa xb xc) (l2,0)).bind fun o=>match o with | .inr r=>some r | .inl l3=>(fn_ref15_Subst xa.2.2.2 xb).bind fun (l4,i5)=>(fn_ref16_Flow l4 xd 6 0).bind fun (l6,i7)=>cond (!decide (i7=0)) (some (([],i7))) ((app l3 l6).bind fun z8=>some ((z8,0)))))
noncomputable def hQ158:Hn Tryz.prog := .cl oQ143 [] (.tw 25 .nil (.gp 6 (.tw 39 .nil (.jn [] ⟨[(11,.own 226 Yq6),(40,.any)],[]⟩ [4] (.lp ⟨[(11,.own 226 Yq6),kdI 12],[]⟩ (.tw 45 (.mix [([0,1,2,3,4,5,6,7,8,9,10,11,12,13,14,15,16,17,18,19,20],21)] [] [22,23] [] .nil) .nil)) (.jx [] ⟨[(11,.own 226 Yq6)],[]⟩ [6] (.lp ⟨[(11,.own 226 Yq6),kdI 13],[]⟩ (.tw 75 (.cl oQ157 [] (.per 10 11 (.mix [([0,1,2,3,4,5,6],7)] [8,9,10,11,12] [] [] (.cl oQ150 [] (.tw 100 .nil .nil))))) .nil)) (.cl oQ157 [] (.per 10 11 (.cl oQ150 [] (.tw 119 .nil .nil)))))))))
noncomputable def sQ158:Spec:=⟨173,⟨[(0,.dat Yq11),(1,.dat (.sl Yq2)),(2,.dat (.sl Yq7)),(3,.dat Yq7)],[]⟩,[⟨[(0,.tup [.own 226 Yq6,.dat Yq2])],[]⟩],fun x=>fn_ref17_Call x.1 x.2.1 x.2.2.1 x.2.2.2⟩
noncomputable def oQ158:OkSpec Tryz.prog:=⟨sQ158,fn_is func173 hQ158 (by kernel_rfl) (by kernel_rfl),call173⟩
noncomputable def fn_ref19_Needs_l1 (xa:Tq8) (xb:Tq25):((List Tq3)×Int)→Option (((List Tq3)×Int)⊕(List Tq3)):=fun (l1,i2)=>cond (decide (i2 < (xa.2.2.2.2.1.length:Int))) ((getI xa.2.2.2.2.1 i2).bind fun x3=>(getI xb.2.2.1 x3).bind fun x4=>(app l1 (([x4]:List Tq3))).bind fun z5=>some (.inl ((z5,IntKind.wrap .i64 (i2 + 1))))) (some (.inr (l1)))
noncomputable def fn_ref19_Needs (xa:Tq8) (xb:Tq25):Option (Tq20) :=
 (fn_ref19_Form (xa.1,xa.2.1,xa.2.2.1,xa.2.2.2.1,xa.2.2.2.2.1,xa.2.2.2.2.2)).bind fun i1=>cond (!decide (i1=0)) (some (([],i1))) ((fn_ref19_within xa.2.2.2.1 xb.1).bind fun t2=>(cond (!t2) (some (true)) ((fn_ref19_within xa.2.2.2.2.1 (xb.2.2.1.length:Int)).bind fun t3=>some (!t3))).bind fun t4=>(cond (t4) (some (true)) ((fn_ref19_within xa.2.2.2.2.2 xb.2.1).bind fun t5=>some (!t5))).bind fun t6=>cond (t6) (some (([],7))) ((cond (decide (xa.1=4)) ((fn_ref19_within ([xa.2.2.1]:List Int) (xb.2.2.1.length:Int)).bind fun t7=>(cond (!t7) (some (true)) ((fn_ref19_within ([xa.2.1]:List Int) (xb.2.2.2.2.length:Int)).bind fun t8=>some (!t8))).bind fun t9=>some (t9)) (some (false))).bind fun t10=>cond (t10) (some (([],7))) (cond ((decide (xa.1=3))&&(decide ((xb.2.2.1.length:Int)=0))) (some (([],14))) (cond (decide (xa.1=3)) ((getI xb.2.2.1 0).bind fun x11=>(fn_ref16_Flow x11 xb.2.2.2.1 7 0).bind fun (l12,i13)=>some ((l12,i13))) (cond (decide (xa.1=4)) ((loop (fn_ref19_Needs_l1 xa xb) ((([]:List Tq3),0))).bind fun l14=>(getI xb.2.2.2.2 xa.2.1).bind fun x15=>(getI xb.2.2.1 xa.2.2.1).bind fun x16=>(fn_ref17_Call (x15.1,x15.2.1,x15.2.2.1,x15.2.2.2) xa.2.2.2.2.2 l14 x16).bind fun (l17,i18)=>some ((l17,i18))) (some (([],0))))))))
noncomputable def hQ159:Hn Tryz.prog := .cl oQ155 [] (.tw 12 .nil (.cl oQ156 [] (.gj 7 ⟨[kdB 28],[]⟩ [] (.two 20 .nil (.cl oQ156 [] .nil)) (.wt 29 (.gj 6 ⟨[kdB 36],[]⟩ [] (.two 29 .nil (.cl oQ156 [] .nil)) (.tw 36 .nil (.gj 18 ⟨[kdB 59],[]⟩ [] (.two 40 (.cl oQ156 [4] (.wt 49 (.gj 8 ⟨[kdB 58],[]⟩ [] (.two 49 .nil (.cl oQ156 [6] .nil)) .nil))) .nil) (.tw 59 .nil (.gp 4 (.tw 68 .nil (.tw 71 (.mix [([0,1,2,3,4,5],6)] [7,8,9,10] [] [] (.cl oQ150 [] .nil)) (.tw 83 (.jn [] ⟨[(7,.own 26 Yq7),(84,.any)],[]⟩ [4] (.lp ⟨[(7,.own 26 Yq7),kdI 8],[]⟩ (.tw 89 (.mix [([0,1,2,3,4,5,6,7,8,9],10)] [] [11,12] [] .nil) .nil)) (.mix [([0,1,2,3,4,5,6,7,8,9,10,11,12,13,14],15)] [16,17,18,19] [] [6] (.per 6 7 (.cl oQ158 [] .nil)))) .nil))))))))))))
noncomputable def sQ159:Spec:=⟨140,⟨[(0,.dat Yq12),(1,.dat Yq15)],[]⟩,[⟨[(0,.tup [.own 226 Yq6,.dat Yq2])],[]⟩],fun x=>fn_ref19_Needs x.1 x.2⟩
noncomputable def oQ159:OkSpec Tryz.prog:=⟨sQ159,fn_is func140 hQ159 (by kernel_rfl) (by kernel_rfl),call140⟩
noncomputable def fn_ref21_blocks_l1 (xa:Tq1):Tq23→Option (Tq23⊕(Unit⊕Tq9)):=fun (i1,i2)=>cond (decide (i2 < (xa.2.2.2.2.2.2.length:Int))) ((getI xa.2.2.2.2.2.2 i2).bind fun x3=>cond (decide (65536 < (IntKind.wrap .i64 (i1 + (x3.1.length:Int))))) (some (.inr ((.inr ((6,5,i2,0)))))) (some (.inl ((IntKind.wrap .i64 (i1 + (x3.1.length:Int)),IntKind.wrap .i64 (i2 + 1)))))) (some (.inr ((.inl ()))))
noncomputable def fn_ref21_blocks_l2 (xa:Tq1) (i1:Int) (x2:((List Tq5)×Tq8)):Int→Option (Int⊕(Unit⊕(Int⊕(Unit⊕Tq9)))):=fun i3=>cond (decide (i3 < (x2.1.length:Int))) ((getI x2.1 i3).bind fun x4=>(fn_ref18_Needs (x4.1,x4.2.1,x4.2.2.1,x4.2.2.2.1,x4.2.2.2.2) xa.2.2.2.1 xa.2.1).bind fun (l5,i6)=>cond (!decide (i6=0)) (some (.inr ((.inr (.inr ((.inr ((i6,6,i1,i3))))))))) (some (.inl (IntKind.wrap .i64 (i3 + 1))))) (some (.inr ((.inl ()))))
noncomputable def fn_ref21_blocks_l3 (xa:Tq1):Int→Option (Int⊕(Unit⊕Tq9)):=fun i1=>cond (decide (i1 < (xa.2.2.2.2.2.2.length:Int))) ((getI xa.2.2.2.2.2.2 i1).bind fun x2=>(loop (fn_ref21_blocks_l2 xa i1 x2) 0).bind fun o=>match o with | .inr r=>some r | .inl ()=>(getI xa.2.2.2.2.2.2 i1).bind fun x3=>(fn_ref19_Needs (x3.2.1,x3.2.2.1,x3.2.2.2.1,x3.2.2.2.2.1,x3.2.2.2.2.2.1,x3.2.2.2.2.2.2) (((xa.2.2.2.2.2.2.length:Int),xa.2.1,xa.2.2.2.1,xa.2.2.2.2.1,xa.2.2.2.2.2.1))).bind fun (l4,i5)=>cond (!decide (i5=0)) (some (.inr ((.inr ((i5,7,i1,0)))))) (some (.inl (IntKind.wrap .i64 (i1 + 1))))) (some (.inr ((.inl ()))))
noncomputable def fn_ref21_blocks (xa:Tq1):Option Tq9 :=
 cond (decide ((xa.2.2.2.2.2.2.length:Int)=0)) (some ((14,5,0,0))) (cond (decide (65536 < (xa.2.2.2.2.2.2.length:Int))) (some ((6,5,0,0))) ((loop (fn_ref21_blocks_l1 xa) (0,0)).bind fun o=>match o with | .inr r=>some r | .inl ()=>(loop (fn_ref21_blocks_l3 xa) 0).bind fun o=>match o with | .inr r=>some r | .inl ()=>some ((0,0,0,0))))
noncomputable def hQ160:Hn Tryz.prog := .tw 16 .nil (.tw 21 .nil (.jx [] ⟨[],[bkC 2 107 [.lit (.int .i64 0),.lit (.int .i64 0),.lit (.int .i64 0),.lit (.int .i64 0)]]⟩ [2] (.lp ⟨[kdI 3,kdI 4],[bkC 2 107 [.lit (.int .i64 0),.lit (.int .i64 0),.lit (.int .i64 0),.lit (.int .i64 0)]]⟩ (.tw 27 (.tw 40 .nil .nil) .nil)) (.jx [] ⟨[],[bkC 2 107 [.lit (.int .i64 0),.lit (.int .i64 0),.lit (.int .i64 0),.lit (.int .i64 0)]]⟩ [2] (.lp ⟨[kdI 6],[bkC 2 107 [.lit (.int .i64 0),.lit (.int .i64 0),.lit (.int .i64 0),.lit (.int .i64 0)]]⟩ (.tw 59 (.pl (.pl (.jx [] ⟨[],[bkC 2 107 [.lit (.int .i64 0),.lit (.int .i64 0),.lit (.int .i64 0),.lit (.int .i64 0)]]⟩ [2] (.lp ⟨[kdI 8],[bkC 2 107 [.lit (.int .i64 0),.lit (.int .i64 0),.lit (.int .i64 0),.lit (.int .i64 0)]]⟩ (.tw 71 (.mix [([0,1,2,3,4,5,6,7],8)] [9,10,11,12,13] [] [] (.cl oQ154 [] (.tw 87 .nil .nil))) .nil)) (.mix [([0,1,2,3,4,5,6],7)] [8,9,10,11,12] [] [] (.cl oQ159 [] (.tw 104 .nil .nil)))))) .nil)) .nil)))
noncomputable def sQ160:Spec:=⟨100,⟨[(0,.dat Yq1)],[]⟩,[⟨[(0,.agg [.dat Yq2,.dat Yq2,.dat Yq2,.dat Yq2])],[]⟩],fun x=>fn_ref21_blocks x⟩
noncomputable def oQ160:OkSpec Tryz.prog:=⟨sQ160,fn_is func100 hQ160 (by kernel_rfl) (by kernel_rfl),call100⟩

noncomputable def fn_ref21_Check (xa:Tq1):Option Tq9 :=
 (fn_ref21_head xa).bind fun (i42,i43,i44,i45)=>cond (!decide (i42=0)) (some ((i42,i43,i44,i45))) ((fn_ref21_types xa).bind fun (i53,i54,i55,i56)=>cond (!decide (i53=0)) (some ((i53,i54,i55,i56))) ((fn_ref21_blocks xa).bind fun (i63,i65,i66,i67)=>some ((i63,i65,i66,i67))))
noncomputable def hQ161:Hn Tryz.prog := .cl oQ140 [] (.tw 8 .nil (.cl oQ144 [] (.tw 14 .nil (.cl oQ160 [] .nil))))
noncomputable def sQ161:Spec:=⟨64,⟨[(0,.dat Yq1)],[]⟩,[⟨[(0,.agg [.dat Yq2,.dat Yq2,.dat Yq2,.dat Yq2])],[]⟩],fun x=>fn_ref21_Check x⟩
noncomputable def oQ161:OkSpec Tryz.prog:=⟨sQ161,fn_is func64 hQ161 (by kernel_rfl) (by kernel_rfl),call64⟩

noncomputable def fn_ref21_OK (xa:Tq1):Option Bool :=
 (fn_ref21_Check xa).bind fun (i15,i17,i18,i19)=>some (decide (i15=0))
noncomputable def hQ162:Hn Tryz.prog := .cl oQ161 [] .nil
noncomputable def sQ162:Spec:=⟨35,⟨[(0,.dat Yq1)],[]⟩,[⟨[kdB 0],[]⟩],fun x=>fn_ref21_OK x⟩
noncomputable def oQ162:OkSpec Tryz.prog:=⟨sQ162,fn_is func35 hQ162 (by kernel_rfl) (by kernel_rfl),call35⟩
noncomputable def fn_ref22_All_l1 (i1:Int) (x2:((List Tq5)×Tq8)):(Tq18×Int)→Option ((Tq18×Int)⊕Tq18):=fun (l3,i4)=>cond (decide (i4≤(x2.1.length:Int))) ((app l3 (([(i1,i4,decide (i4=(x2.1.length:Int)))]:List (Int×Int×Bool)))).bind fun z5=>some (.inl ((z5,IntKind.wrap .i64 (i4 + 1))))) (some (.inr (l3)))
noncomputable def fn_ref22_All_l2 (xa:Tq1):(Tq18×Int)→Option ((Tq18×Int)⊕Tq18):=fun (l1,i2)=>cond (decide (i2 < (xa.2.2.2.2.2.2.length:Int))) ((getI xa.2.2.2.2.2.2 i2).bind fun x3=>(loop (fn_ref22_All_l1 i2 x3) (l1,0)).bind fun l4=>some (.inl ((l4,IntKind.wrap .i64 (i2 + 1))))) (some (.inr (l1)))
noncomputable def fn_ref22_All (xa:Tq1):Option (Tq18) :=
 (fn_ref21_OK xa).bind fun t1=>cond (!t1) (some (([]:List (Int×Int×Bool)))) ((loop (fn_ref22_All_l2 xa) ((([]:List (Int×Int×Bool)),0))).bind fun l2=>some (l2))
noncomputable def hQ163:Hn Tryz.prog := .cl oQ162 [] (.tw 10 .nil (.jn [] ⟨[(3,.own 78 (.cons Yq2 Yq3)),(7,.any)],[]⟩ [2] (.lp ⟨[(3,.own 78 (.cons Yq2 Yq3)),kdI 4],[]⟩ (.tw 16 (.pl (.pl (.jn [] ⟨[(3,.own 78 (.cons Yq2 Yq3))],[]⟩ [4] (.lp ⟨[(3,.own 78 (.cons Yq2 Yq3)),kdI 6],[]⟩ (.tw 28 .nil .nil)) .nil))) .nil)) .nil))
noncomputable def sQ163:Spec:=⟨10,⟨[(0,.dat Yq1)],[]⟩,[⟨[(0,.own 78 (.cons Yq2 Yq3))],[]⟩],fun x=>fn_ref22_All x⟩
noncomputable def oQ163:OkSpec Tryz.prog:=⟨sQ163,fn_is func10 hQ163 (by kernel_rfl) (by kernel_rfl),call10⟩
noncomputable def fn_ref22_Of_l1 (xa:Tq18) (xb:Int) (xc:Int):Int→Option (Int⊕(Unit⊕Tq26)):=fun i1=>cond (decide (i1 < (xa.length:Int))) ((getI xa i1).bind fun x2=>(cond (decide (x2.1=xb)) ((getI xa i1).bind fun x3=>some (decide (x3.2.1=xc))) (some (false))).bind fun t4=>cond (t4) (some (.inr ((.inr ((i1,true)))))) (some (.inl (IntKind.wrap .i64 (i1 + 1))))) (some (.inr ((.inl ()))))
noncomputable def fn_ref22_Of (xa:Tq18) (xb:Int) (xc:Int):Option Tq26 :=
 (loop (fn_ref22_Of_l1 xa xb xc) 0).bind fun o=>match o with | .inr r=>some r | .inl ()=>some ((0,false))
noncomputable def hQ164:Hn Tryz.prog := .jx [] ⟨[],[]⟩ [] (.lp ⟨[kdI 8],[]⟩ (.tw 12 (.gj 7 ⟨[kdB 30],[]⟩ [] (.two 22 .nil .nil) (.tw 30 .nil .nil)) .nil)) .nil
noncomputable def sQ164:Spec:=⟨163,⟨[(0,.dat (.sl (.cons Yq2 Yq3))),kdI 1,kdI 2],[]⟩,[⟨[(0,.tup [.dat Yq2,.dat .bool])],[]⟩],fun x=>fn_ref22_Of x.1 x.2.1 x.2.2⟩
noncomputable def oQ164:OkSpec Tryz.prog:=⟨sQ164,fn_is func163 hQ164 (by kernel_rfl) (by kernel_rfl),call163⟩
noncomputable def fn_ref23_Goes_l1 (xb:Tq18) (xd:Int) (x1:((List Tq5)×Tq8)):Int→Option (Int⊕(Unit⊕Bool)):=fun i2=>cond (decide (i2 < (x1.2.2.2.2.1.length:Int))) ((getI x1.2.2.2.2.1 i2).bind fun x3=>(fn_ref22_Of xb x3 0).bind fun (i4,t5)=>cond (t5&&(decide (i4=xd))) (some (.inr ((.inr (true))))) (some (.inl (IntKind.wrap .i64 (i2 + 1))))) (some (.inr ((.inl ()))))
noncomputable def fn_ref23_Goes (xa:Tq1) (xb:Tq18) (xc:Int) (xd:Int):Option Bool :=
 (getI xb xc).bind fun x1=>cond (!x1.2.2) (some (decide (xd=(IntKind.wrap .i64 (xc + 1))))) ((getI xb xc).bind fun x2=>(getI xa.2.2.2.2.2.2 x2.1).bind fun x3=>(loop (fn_ref23_Goes_l1 xb xd x3) 0).bind fun o=>match o with | .inr r=>some r | .inl ()=>some (false))
noncomputable def hQ165:Hn Tryz.prog := .tw 18 .nil (.mix [] [0,1,2,3,4,5,6,7,8,9,10,11] [] [] (.jx [] ⟨[],[]⟩ [0] (.lp ⟨[kdI 10],[]⟩ (.tw 37 (.cl oQ164 [] (.gp 3 (.tw 54 .nil .nil))) .nil)) .nil))
noncomputable def sQ165:Spec:=⟨135,⟨[(0,.dat Yq1),(1,.dat (.sl (.cons Yq2 Yq3))),kdI 2,kdI 3],[]⟩,[⟨[kdB 0],[]⟩],fun x=>fn_ref23_Goes x.1 x.2.1 x.2.2.1 x.2.2.2⟩
noncomputable def oQ165:OkSpec Tryz.prog:=⟨sQ165,fn_is func135 hQ165 (by kernel_rfl) (by kernel_rfl),call135⟩
noncomputable def fn_ref23_Arcs_l1 (xa:Tq1) (l1:Tq18) (i2:Int):(Tq6×Int)→Option ((Tq6×Int)⊕Tq6):=fun (l3,i4)=>cond (decide (i4 < (l1.length:Int))) ((fn_ref23_Goes xa l1 i2 i4).bind fun t5=>cond (t5) ((app l3 (([(i2,i4)]:List Tq23))).bind fun z6=>some (.inl ((z6,IntKind.wrap .i64 (i4 + 1))))) (some (.inl ((l3,IntKind.wrap .i64 (i4 + 1)))))) (some (.inr (l3)))
noncomputable def fn_ref23_Arcs_l2 (xa:Tq1) (l1:Tq18):(Tq6×Int)→Option ((Tq6×Int)⊕Tq6):=fun (l2,i3)=>cond (decide (i3 < (l1.length:Int))) ((loop (fn_ref23_Arcs_l1 xa l1 i3) (l2,0)).bind fun l4=>some (.inl ((l4,IntKind.wrap .i64 (i3 + 1))))) (some (.inr (l2)))
noncomputable def fn_ref23_Arcs (xa:Tq1):Option (Tq6) :=
 (fn_ref22_All xa).bind fun l1=>(loop (fn_ref23_Arcs_l2 xa l1) ((([]:List Tq23),0))).bind fun l2=>some (l2)
noncomputable def hQ166:Hn Tryz.prog := .cl oQ163 [] (.jn [] ⟨[(4,.own 159 Yq16),(9,.any)],[]⟩ [4] (.lp ⟨[(4,.own 159 Yq16),kdI 5],[]⟩ (.tw 13 (.pl (.pl (.jn [] ⟨[(4,.own 159 Yq16)],[]⟩ [6] (.lp ⟨[(4,.own 159 Yq16),kdI 6],[]⟩ (.tw 19 (.cl oQ165 [2] (.tw 26 .nil .nil)) .nil)) .nil))) .nil)) .nil)
noncomputable def sQ166:Spec:=⟨95,⟨[(0,.dat Yq1)],[]⟩,[⟨[(0,.own 159 Yq16)],[]⟩],fun x=>fn_ref23_Arcs x⟩
noncomputable def oQ166:OkSpec Tryz.prog:=⟨sQ166,fn_is func95 hQ166 (by kernel_rfl) (by kernel_rfl),call95⟩
noncomputable def fn_ref24_Reads_l1 (xc:Int) (x1:((List Tq5)×Tq8)):Int→Option (Int⊕(Unit⊕Bool)):=fun i2=>cond (decide (i2 < (x1.2.2.2.2.2.1.length:Int))) ((getI x1.2.2.2.2.2.1 i2).bind fun x3=>cond (decide (x3=xc)) (some (.inr ((.inr (true))))) (some (.inl (IntKind.wrap .i64 (i2 + 1))))) (some (.inr ((.inl ()))))
noncomputable def fn_ref24_Reads (xa:Tq1) (xb:(Int×Int×Bool)) (xc:Int):Option Bool :=
 (getI xa.2.2.2.2.2.2 xb.1).bind fun x1=>cond (!xb.2.2) ((getI x1.1 xb.2.1).bind fun x2=>some (((decide (1≤x2.1))&&(decide (x2.1≤4)))&&(decide (x2.2.2.1=xc)))) (cond (decide (x1.2.1=3)) (some (decide (xc=0))) ((loop (fn_ref24_Reads_l1 xc x1) 0).bind fun o=>match o with | .inr r=>some r | .inl ()=>some (false)))
noncomputable def hQ167:Hn Tryz.prog := .tw 18 (.gp 3 (.wt 33 (.gp 4 .nil))) (.tw 42 .nil (.jx [] ⟨[],[]⟩ [2,0] (.lp ⟨[kdI 9],[]⟩ (.tw 50 (.tw 60 .nil .nil) .nil)) .nil))
noncomputable def sQ167:Spec:=⟨96,⟨[(0,.dat Yq1),(1,.dat (.cons Yq2 Yq3)),kdI 2],[]⟩,[⟨[kdB 0],[]⟩],fun x=>fn_ref24_Reads x.1 x.2.1 x.2.2⟩
noncomputable def oQ167:OkSpec Tryz.prog:=⟨sQ167,fn_is func96 hQ167 (by kernel_rfl) (by kernel_rfl),call96⟩

noncomputable def fn_ref24_Writes (xa:Tq1) (xb:(Int×Int×Bool)) (xc:Int):Option Bool :=
 (getI xa.2.2.2.2.2.2 xb.1).bind fun x58=>cond (!xb.2.2) ((getI x58.1 xb.2.1).bind fun x85=>some (((((decide (x85.1=1))||(decide (x85.1=2)))||(decide (x85.1=3)))||(decide (x85.1=5)))&&(decide (x85.2.1=xc)))) (some ((decide (x58.2.1=4))&&(decide (x58.2.2.2.1=xc))))
noncomputable def hQ168:Hn Tryz.prog := .tw 17 (.gp 3 (.wt 32 (.gp 3 (.wt 37 (.gp 3 (.wt 42 (.gp 4 .nil))))))) (.gp 5 .nil)
noncomputable def sQ168:Spec:=⟨97,⟨[(0,.dat Yq1),(1,.dat (.cons Yq2 Yq3)),kdI 2],[]⟩,[⟨[kdB 0],[]⟩],fun x=>fn_ref24_Writes x.1 x.2.1 x.2.2⟩
noncomputable def oQ168:OkSpec Tryz.prog:=⟨sQ168,fn_is func97 hQ168 (by kernel_rfl) (by kernel_rfl),call97⟩
noncomputable def fn_ref25_Points_l1 (xa:Tq1) (xb:Int) (l1:Tq18):Tq17→Option (Tq17⊕(List Int)):=fun (l2,i3)=>cond (decide (i3 < (l1.length:Int))) ((getI l1 i3).bind fun x4=>(fn_ref24_Reads xa (x4.1,x4.2.1,x4.2.2) xb).bind fun t5=>cond (t5) ((app l2 ([1]:List Int)).bind fun z6=>some (.inl ((z6,IntKind.wrap .i64 (i3 + 1))))) ((app l2 ([0]:List Int)).bind fun z7=>some (.inl ((z7,IntKind.wrap .i64 (i3 + 1)))))) (some (.inr (l2)))
noncomputable def fn_ref25_Points_l2 (xa:Tq1) (xb:Int) (l1:Tq18) (l2:Tq6):((List Int)×Bool×Int)→Option (((List Int)×Bool×Int)⊕((List Int)×Bool)):=fun (l3,t4,i5)=>cond (decide (i5 < (l2.length:Int))) ((getI l2 i5).bind fun x6=>((getI l3 x6.1).bind fun x7=>cond (decide (x7=0)) ((getI l2 i5).bind fun x8=>(getI l3 x8.2).bind fun x9=>cond (decide (x9=1)) ((getI l1 x6.1).bind fun x10=>(fn_ref24_Writes xa (x10.1,x10.2.1,x10.2.2) xb).bind fun t11=>some (!t11)) (some (false))) (some (false)):Option Bool).bind fun t12=>cond (t12) ((getI l3 x6.1).bind fun x13=>(some (l3.set x6.1.toNat 1)).bind fun z14=>some (.inl ((z14,true,IntKind.wrap .i64 (i5 + 1))))) (some (.inl ((l3,t4,IntKind.wrap .i64 (i5 + 1)))))) (some (.inr (((l3,t4)))))
noncomputable def fn_ref25_Points_l3 (xa:Tq1) (xb:Int) (l1:Tq18) (l2:Tq6):((List Int)×Bool)→Option (((List Int)×Bool)⊕(List Int)):=fun (l3,t4)=>cond (t4) ((loop (fn_ref25_Points_l2 xa xb l1 l2) (l3,false,0)).bind fun (l5,t6)=>some (.inl (l5,t6))) (some (.inr (l3)))
noncomputable def fn_ref25_Points (xa:Tq1) (xb:Int):Option (List Int) :=
 (fn_ref22_All xa).bind fun l1=>(fn_ref23_Arcs xa).bind fun l2=>(loop (fn_ref25_Points_l1 xa xb l1) ((([]:List Int),0))).bind fun l3=>(loop (fn_ref25_Points_l3 xa xb l1 l2) (l3,true)).bind fun l4=>some (l4)
noncomputable def hQ169:Hn Tryz.prog := .cl oQ163 [] (.cl oQ166 [] (.jn [] ⟨[(7,.own 3 Yq2),(16,.any)],[]⟩ [6] (.lp ⟨[(7,.own 3 Yq2),kdI 8],[]⟩ (.tw 20 (.mix [] [0,1,2,3,4,5] [6] [] (.cl oQ167 [] (.tw 29 .nil .nil))) .nil)) (.jn [] ⟨[(7,.own 3 Yq2)],[]⟩ [8] (.lp ⟨[(7,.own 3 Yq2),kdB 9],[]⟩ (.tw 36 (.pl (.jn [] ⟨[(7,.own 3 Yq2),kdB 9],[]⟩ [10] (.lp ⟨[(7,.own 3 Yq2),kdB 9,kdI 10],[]⟩ (.tw 40 (.pl (.pl (.sq [] ⟨[kdB 73],[]⟩ [] (.mix [] [0,1,2,3,4,5,6,7,8,9,10,11,12,13,14,15,16,17,18,19,20,21,22] [23,24,25] [] (.two 53 (.two 64 (.cl oQ168 [] .nil) .nil) .nil)) (.tw 73 .nil .nil)))) .nil)) .nil)) .nil)) .nil)))
noncomputable def sQ169:Spec:=⟨63,⟨[(0,.dat Yq1),kdI 1],[]⟩,[⟨[(0,.own 3 Yq2)],[]⟩],fun x=>fn_ref25_Points x.1 x.2⟩
noncomputable def oQ169:OkSpec Tryz.prog:=⟨sQ169,fn_is func63 hQ169 (by kernel_rfl) (by kernel_rfl),call63⟩
noncomputable def fn_ref25_All_l1 (xa:Tq1):(Tq22×Int)→Option ((Tq22×Int)⊕Tq22):=fun (l1,i2)=>cond (decide (i2 < (xa.2.2.2.1.length:Int))) ((fn_ref25_Points xa i2).bind fun l3=>(app l1 (([l3]:List (List Int)))).bind fun z4=>some (.inl ((z4,IntKind.wrap .i64 (i2 + 1))))) (some (.inr (l1)))
noncomputable def fn_ref25_All (xa:Tq1):Option (Tq22) :=
 (loop (fn_ref25_All_l1 xa) ((([]:List (List Int)),0))).bind fun l1=>some (l1)
noncomputable def hQ170:Hn Tryz.prog := .jn [] ⟨[(3,.own 48 (.sl Yq2)),(5,.any)],[]⟩ [2] (.lp ⟨[(3,.own 48 (.sl Yq2)),kdI 4],[]⟩ (.tw 10 (.cl oQ169 [] (.per 6 7 .nil)) .nil)) .nil
noncomputable def sQ170:Spec:=⟨33,⟨[(0,.dat Yq1)],[]⟩,[⟨[(0,.own 48 (.sl Yq2))],[]⟩],fun x=>fn_ref25_All x⟩
noncomputable def oQ170:OkSpec Tryz.prog:=⟨sQ170,fn_is func33 hQ170 (by kernel_rfl) (by kernel_rfl),call33⟩
noncomputable def fn_ref15_Has_l1 (xa:Tq3) (xb:Int):Int→Option (Int⊕(Unit⊕Bool)):=fun i1=>cond (decide (i1 < (xa.length:Int))) ((getI xa i1).bind fun x2=>cond (decide (x2.1=xb)) (some (.inr ((.inr (true))))) (some (.inl (IntKind.wrap .i64 (i1 + 1))))) (some (.inr ((.inl ()))))
noncomputable def fn_ref15_Has (xa:Tq3) (xb:Int):Option Bool :=
 (loop (fn_ref15_Has_l1 xa xb) 0).bind fun o=>match o with | .inr r=>some r | .inl ()=>some (false)
noncomputable def hQ171:Hn Tryz.prog := .jx [] ⟨[],[]⟩ [] (.lp ⟨[kdI 5],[]⟩ (.tw 10 (.tw 20 .nil .nil) .nil)) .nil
noncomputable def sQ171:Spec:=⟨34,⟨[(0,.dat Yq7),kdI 1],[]⟩,[⟨[kdB 0],[]⟩],fun x=>fn_ref15_Has x.1 x.2⟩
noncomputable def oQ171:OkSpec Tryz.prog:=⟨sQ171,fn_is func34 hQ171 (by kernel_rfl) (by kernel_rfl),call34⟩
noncomputable def fn_ref28_Of_l1 (xa:Tq1) (l1:Tq18) (l2:Tq22) (i3:Int) (i4:Int):Tq23→Option (Tq23⊕Int):=fun (i5,i6)=>cond (((decide (i6 < (xa.2.2.2.1.length:Int)))&&(decide (i4 < (l1.length:Int))))&&(decide (xa.1≤i3))) ((getI xa.2.2.2.1 i6).bind fun x7=>(fn_ref15_Has x7 i3).bind fun t8=>(cond (t8) ((getI l2 i6).bind fun x9=>(getI x9 i4).bind fun x10=>some (decide (x10=1))) (some (false))).bind fun t11=>cond (t11) (some (.inl ((1,IntKind.wrap .i64 (i6 + 1))))) (some (.inl ((i5,IntKind.wrap .i64 (i6 + 1)))))) (some (.inr (i5)))
noncomputable def fn_ref28_Of_l2 (xa:Tq1) (l1:Tq18) (l2:Tq22) (i3:Int):Tq17→Option (Tq17⊕(List Int)):=fun (l4,i5)=>cond (decide (i5 < (IntKind.wrap .i64 ((l1.length:Int) + xa.1)))) ((cond ((decide (i3 < xa.1))&&((decide (i5 < (l1.length:Int)))||(decide (i5=(IntKind.wrap .i64 ((l1.length:Int) + i3)))))) (some (1)) (some (0)):Option Int).bind fun i6=>(loop (fn_ref28_Of_l1 xa l1 l2 i3 i5) (i6,0)).bind fun i7=>(app l4 ([i7]:List Int)).bind fun z8=>some (.inl ((z8,IntKind.wrap .i64 (i5 + 1))))) (some (.inr (l4)))
noncomputable def fn_ref28_Of_l3 (xa:Tq1) (l1:Tq18) (l2:Tq22):(Tq22×Int)→Option ((Tq22×Int)⊕Tq22):=fun (l3,i4)=>cond (decide (i4 < xa.2.1)) ((loop (fn_ref28_Of_l2 xa l1 l2 i4) ((([]:List Int),0))).bind fun l5=>(app l3 (([l5]:List (List Int)))).bind fun z6=>some (.inl ((z6,IntKind.wrap .i64 (i4 + 1))))) (some (.inr (l3)))
noncomputable def fn_ref28_Of (xa:Tq1):Option (Tq22) :=
 (fn_ref22_All xa).bind fun l1=>cond (decide ((l1.length:Int)=0)) (some (([]:List (List Int)))) ((fn_ref25_All xa).bind fun l2=>(loop (fn_ref28_Of_l3 xa l1 l2) ((([]:List (List Int)),0))).bind fun l3=>some (l3))
noncomputable def hQ172:Hn Tryz.prog := .cl oQ163 [] (.tw 16 .nil (.cl oQ170 [] (.per 6 7 (.jn [] ⟨[(4,.own 48 (.sl Yq2)),(12,.any),(14,.any)],[]⟩ [4,2] (.lp ⟨[(4,.own 48 (.sl Yq2)),kdI 6],[]⟩ (.tw 23 (.pl (.pl (.jn [] ⟨[(7,.own 3 Yq2),(26,.any)],[]⟩ [10] (.lp ⟨[(7,.own 3 Yq2),kdI 8],[]⟩ (.tw 32 (.pl (.pl (.sq [] ⟨[kdI 9],[]⟩ [] (.gp 10 (.tw 50 .nil .nil)) (.jn [] ⟨[kdI 9],[]⟩ [] (.lp ⟨[kdI 9,kdI 10],[]⟩ (.gp 3 (.wt 61 (.gp 4 (.tw 66 (.cl oQ171 [] (.gj 8 ⟨[kdB 85],[]⟩ [] (.two 76 .nil .nil) (.tw 85 .nil .nil))) .nil))))) .nil)))) .nil)) (.per 12 13 .nil)))) .nil)) .nil))))
noncomputable def sQ172:Spec:=⟨9,⟨[(0,.dat Yq1)],[]⟩,[⟨[(0,.own 48 (.sl Yq2))],[]⟩],fun x=>fn_ref28_Of x⟩
noncomputable def oQ172:OkSpec Tryz.prog:=⟨sQ172,fn_is func9 hQ172 (by kernel_rfl) (by kernel_rfl),call9⟩

noncomputable def fn_seed_End (xa:Tq1) (xb:Int):Option Tq26 :=
 (fn_point_New xa).bind fun p26=>(fn_point_Points_Len p26).bind fun i34=>cond (((decide (i34=0))||(decide (xb < 0)))||(decide (xa.1≤xb))) (some ((0,false))) (some ((IntKind.wrap .i64 (i34 + xb),true)))
noncomputable def hQ173:Hn Tryz.prog := .cl oQ53 [] (.cl oQ54 [] (.gp 2 (.wt 16 (.gp 4 (.tw 21 .nil .nil)))))
noncomputable def sQ173:Spec:=⟨11,⟨[(0,.dat Yq1),kdI 1],[]⟩,[⟨[(0,.tup [.dat Yq2,.dat .bool])],[]⟩],fun x=>fn_seed_End x.1 x.2⟩
noncomputable def oQ173:OkSpec Tryz.prog:=⟨sQ173,fn_is func11 hQ173 (by kernel_rfl) (by kernel_rfl),call11⟩

noncomputable def fn_mixed_Set_Has (xa:(Option Tq2)) (xb:Int):Option Bool :=
 (fn_mixed_Set_Dense xa).bind fun t60=>cond (t60) (xa.bind fun y65=>(fn_dense_Set_Has y65.2.2 xb).bind fun t76=>some (t76)) ((cond (!xa.isNone) (xa.bind fun y98=>(fn_sparse_Set_Has y98.2.1 xb).bind fun t1=>some (t1)) (some (false))).bind fun t96=>some (t96))
noncomputable def hQ174:Hn Tryz.prog := .cl oQ108 [] (.tw 6 (.cl oQ88 [] .nil) (.gj 6 ⟨[kdB 22],[]⟩ [] (.two 15 (.cl oQ119 [] .nil) .nil) .nil))
noncomputable def sQ174:Spec:=⟨20,⟨[(0,.dat Yq14),kdI 1],[]⟩,[⟨[kdB 0],[]⟩],fun x=>fn_mixed_Set_Has x.1 x.2⟩
noncomputable def oQ174:OkSpec Tryz.prog:=⟨sQ174,fn_is func20 hQ174 (by kernel_rfl) (by kernel_rfl),call20⟩

noncomputable def fn_mixed_Set_Len (xa:(Option Tq2)):Option Int :=
 (fn_mixed_Set_Dense xa).bind fun t43=>cond (t43) (xa.bind fun y48=>(fn_dense_Set_Count y48.2.2).bind fun i59=>some (i59)) (cond (xa.isNone) (some (0)) (xa.bind fun y64=>(fn_sparse_Set_Len y64.2.1).bind fun i75=>some (i75)))
noncomputable def hQ175:Hn Tryz.prog := .cl oQ108 [] (.tw 4 (.cl oQ100 [] .nil) (.tw 11 .nil (.cl oQ117 [] .nil)))
noncomputable def sQ175:Spec:=⟨21,⟨[(0,.dat Yq14)],[]⟩,[⟨[kdI 0],[]⟩],fun x=>fn_mixed_Set_Len x⟩
noncomputable def oQ175:OkSpec Tryz.prog:=⟨sQ175,fn_is func21 hQ175 (by kernel_rfl) (by kernel_rfl),call21⟩
noncomputable def fn_law28_SeedEnds_l1 (xa:Tq1) (l1:Tq11) (i2:Int):Tq23→Option (Tq23⊕(Int⊕(Int⊕(Unit⊕Bool)))):=fun (i3,i4)=>cond (decide (i4 < xa.1)) ((fn_seed_End xa i4).bind fun (i5,t6)=>(cond (!t6) (some (true)) ((getI l1 i2).bind fun x7=>(fn_mixed_Set_Has x7 i5).bind fun t8=>some (!(t8 == (decide (i2=i4)))))).bind fun t9=>cond (t9) (some (.inr ((.inr (.inr ((.inr (false)))))))) ((getI l1 i2).bind fun x10=>(fn_mixed_Set_Has x10 i5).bind fun t11=>cond (t11) (some (.inl ((IntKind.wrap .i64 (i3 + 1),IntKind.wrap .i64 (i4 + 1))))) (some (.inl ((i3,IntKind.wrap .i64 (i4 + 1))))))) (some (.inr (.inl i3)))
noncomputable def fn_law28_SeedEnds_l2 (xa:Tq1) (l1:Tq11) (i2:Int):Int→Option (Int⊕(Unit⊕Bool)):=fun i3=>cond (decide (i3 < (l1.length:Int))) ((loop (fn_law28_SeedEnds_l1 xa l1 i3) (0,0)).bind fun o=>match o with | .inr r=>some r | .inl i4=>(cond (decide (i3 < xa.1)) ((cond (!decide (i4=1)) (some (true)) ((getI l1 i3).bind fun x5=>(fn_mixed_Set_Len x5).bind fun i6=>some (!decide (i6=(IntKind.wrap .i64 ((IntKind.wrap .i64 (i2 - xa.1)) + 1)))))).bind fun t7=>some (t7)) (some (false))).bind fun t8=>(cond (t8) (some (true)) ((cond (decide (xa.1≤i3)) ((cond (!decide (i4=0)) (some (true)) ((getI l1 i3).bind fun x9=>(fn_mixed_Set_Len x9).bind fun i10=>some (decide ((IntKind.wrap .i64 (i2 - xa.1)) < i10)))).bind fun t11=>some (t11)) (some (false))).bind fun t12=>some (t12))).bind fun t13=>cond (t13) (some (.inr ((.inr (false))))) (some (.inl (IntKind.wrap .i64 (i3 + 1))))) (some (.inr ((.inl ()))))
noncomputable def fn_law28_SeedEnds (xa:Tq1):Option Bool :=
 (fn_ref20_Small xa).bind fun t1=>cond ((!t1)||(decide (20 < xa.2.1))) ((fn_law28_awake).bind fun t2=>some (t2)) ((fn_seed_Of_az xa).bind fun l3=>(fn_seed_Size xa).bind fun i4=>(loop (fn_law28_SeedEnds_l2 xa l3 i4) 0).bind fun o=>match o with | .inr r=>some r | .inl ()=>(fn_ref28_Of xa).bind fun l5=>(cond (decide ((l3.length:Int)=(l5.length:Int))) ((fn_law28_awake).bind fun t6=>some (t6)) (some (false))).bind fun t7=>some (t7))
noncomputable def h_law28_SeedEnds:Hn Tryz.prog := .cl oQ2 [] (.gp 3 (.tw 17 (.cl ok_law28_awake [] .nil) (.cl oQ133 [] (.per 2 3 (.mix [([0,2,3],1)] [4,5] [] [] (.cl oQ139 [] (.jx [] ⟨[],[]⟩ [] (.lp ⟨[kdI 5],[]⟩ (.tw 29 (.pl (.pl (.jx [] ⟨[kdI 6],[]⟩ [] (.lp ⟨[kdI 6,kdI 7],[]⟩ (.tw 35 (.cl oQ173 [] (.gj 10 ⟨[kdB 57],[]⟩ [] (.two 46 .nil (.cl oQ174 [] .nil)) (.tw 57 .nil (.cl oQ174 [] (.tw 63 .nil .nil))))) .nil)) (.gj 12 ⟨[kdB 83],[]⟩ [] (.two 70 (.wt 73 (.gj 8 ⟨[kdB 82],[]⟩ [] (.two 73 .nil (.cl oQ175 [] .nil)) .nil)) .nil) (.wt 84 (.gj 17 ⟨[kdB 102],[]⟩ [] (.two 84 .nil (.wt 89 (.gj 11 ⟨[kdB 101],[]⟩ [] (.two 89 (.wt 92 (.gj 7 ⟨[kdB 100],[]⟩ [] (.two 92 .nil (.cl oQ175 [] .nil)) .nil)) .nil) .nil))) (.tw 102 .nil .nil))))))) .nil)) (.cl oQ172 [] (.gj 1 ⟨[kdB 111],[]⟩ [] (.two 109 (.cl ok_law28_awake [] .nil) .nil) .nil)))))))))
noncomputable def sp_law28_SeedEnds:Spec:=⟨4,⟨[(0,.dat Yq1)],[]⟩,[⟨[kdB 0],[]⟩],fun x=>fn_law28_SeedEnds x⟩
theorem law28_SeedEnds_is:SpecOk Tryz.prog sp_law28_SeedEnds:=fn_is func4 h_law28_SeedEnds (by kernel_rfl) (by kernel_rfl)
end
set_option linter.unnecessarySimpa false
set_option linter.unusedSimpArgs false
open Go.RowKit
abbrev St:=Int×Bool
def shp (xa xb:List St):Bool:=decide (xa.map (·.2)=xb.map (·.2))
theorem shp_of_loop (xa xb:List St) {body:Int→Option (Int⊕(Unit⊕Bool))} (hl:xa.length=xb.length) (hb:∀ (k:Nat) (h:k < xa.length),body (k:Int)=some (if xa[k].2=(xb[k]'(by omega)).2 then .inl ((k + 1:Nat):Int) else .inr (.inr false))) (he:body (xa.length:Int)=some (.inr (.inl ()))) :
   loop body 0=some (if shp xa xb then .inl () else .inr false):=by
 have:=loop_alike (body:=body) (xa.map (·.2)) (xb.map (·.2)) (.inr false) (.inl ()) (by simp [hl]) (fun k h=>by simpa using hb k (by simpa using h)) (by simpa using he)
 rw [this]; unfold shp
 by_cases h:xa.map (·.2)=xb.map (·.2) <;> simp [h]
theorem shp_len {xa xb:List St} (h:¬ xa.length=xb.length):shp xa xb=false:=by
 unfold shp; simp only [decide_eq_false_iff_not]
 intro e; exact h (by simpa using congrArg List.length e)
theorem shp_len' {xa xb:List St} (h:shp xa xb=true):xa.length=xb.length:=by
 unfold shp at h; simpa using congrArg List.length (of_decide_eq_true h)
theorem shp_comm (xa xb:List St):shp xa xb=shp xb xa:=by unfold shp; simp only [eq_comm]
theorem Few_eq (xa:List St) (n:Int):fn_ref15_Few xa n=some (decide ((xa.length:Int)≤n)):=rfl
theorem refShape_eq (xa xb:List St) (hn:xa.length≤1073741824):fn_ref15_Shape xa xb=some (shp xa xb):=by
 unfold fn_ref15_Shape
 by_cases hl:xa.length=xb.length
 · rw [dlen hl,cond_false,shp_of_loop xa xb hl ?_ ?_]
   · cases shp xa xb <;> rfl
   · intro k h; unfold fn_ref15_Shape_l1
     have h2:k < xb.length:=by omega
     by_cases q:xa[k].2=xb[k].2 <;> simp [getN h,getN h2,h,q,w64s h (by omega),beq_dec]
   · simp [fn_ref15_Shape_l1]
 · rw [dlen' hl,cond_true,shp_len hl]
theorem rowShape_eq (xa xb:List St) (hn:xa.length≤1073741824):fn_row_Shape xa xb=some (shp xa xb):=by
 unfold fn_row_Shape fn_slices_EqualFunc_api_Slot_api_Slot_api_Slot_api_Slot_kk_row_Shape_1
 by_cases hl:xa.length=xb.length
 · rw [dlen hl,cond_false,shp_of_loop xa xb hl ?_ ?_]
   · cases shp xa xb <;> rfl
   · intro k h; unfold fn_slices_EqualFunc_api_Slot_api_Slot_api_Slot_api_Slot_kk_row_Shape_1_l1 fn_row_Shape_1
     have h2:k < xb.length:=by omega
     by_cases q:xa[k].2=xb[k].2 <;> simp [getN h,getN h2,h,q,w64s h (by omega),beq_dec]
   · simp [fn_slices_EqualFunc_api_Slot_api_Slot_api_Slot_api_Slot_kk_row_Shape_1_l1]
 · rw [dlen' hl,cond_true,shp_len hl]; rfl
theorem rowRef_eq (xa:List St) (n:Int) (m:Bool) (hn:xa.length≤1000000000):fn_row_Ref xa n m=some ((n,false) :: xa.map fun x=>(x.1,x.2||m)):=by
 unfold fn_row_Ref
 have:=loop_map xa (fun x:St=>(x.1,x.2||m)) [(n,false)] (by simp; omega) (body:=fn_row_Ref_l1 xa m) (fun c i=>rfl)
 rw [this]; rfl
theorem refRef_eq (xa:List St) (n:Int) (m:Bool) (hn:xa.length≤1000000000):fn_ref15_Ref xa n m=some ((n,false) :: xa.map fun x=>(x.1,x.2||m)):=by
 unfold fn_ref15_Ref
 have:=loop_map xa (fun x:St=>(x.1,x.2||m)) [(n,false)] (by simp; omega) (body:=fn_ref15_Ref_l1 xa m) (fun c i=>by
   unfold fn_ref15_Ref_l1
   cases hg:getI xa i with
   | none=>simp [hg]
   | some x=>cases h2:x.2 <;> simp [hg,h2])
 rw [this]; rfl
theorem find_cases {α:Type} (xa:List α) (t:α→Bool):(∃ k,xa.findIdx? t=some k∧xa.any t=true)∨(xa.findIdx? t=none∧xa.any t=false):=by
 cases h:xa.findIdx? t with
 | none =>
   refine .inr ⟨rfl,?_⟩
   rw [List.any_eq_false]; intro x hx; have:=List.findIdx?_eq_none_iff.1 h x hx; simp [this]
 | some k =>
   obtain ⟨hk,h1,_⟩:=List.findIdx?_eq_some_iff_getElem.1 h
   exact .inl ⟨k,rfl,List.any_eq_true.2 ⟨_,List.getElem_mem hk,h1⟩⟩
def rin (n:Int) (xa:List St):Bool:=xa.any fun x=>decide (x.1 < 0)||decide (n≤x.1)
def rck (n:Int) (xa:List St):Int:=if 16 < xa.length then 6 else if rin n xa then 7 else 0
def sbs (xb:List Int) (x:St):St:=(xb.getD x.1.toNat 0,x.2)
theorem rin_false {n:Int} {xa:List St} (h:rin n xa=false) {k:Nat} {x:St} (hx:xa[k]? = some x):0≤x.1∧x.1 < n:=by
 unfold rin at h
 have:=List.any_eq_false.1 h x (List.mem_of_getElem? hx)
 simp at this; omega
theorem getI_in {xb:List Int} {i:Int} (h:0≤i) (h2:i < (xb.length:Nat)):getI xb i=some (xb.getD i.toNat 0):=by
 unfold getI; rw [if_pos h]
 have:i.toNat < xb.length:=by omega
 simp [this]
theorem rowWithin_eq (xa:List St) (n:Int) (hn:xa.length≤1073741824):fn_row_within xa n=some (!rin n xa):=by
 unfold fn_row_within fn_slices_ContainsFunc_api_Slot_api_Slot_k_row_within_1_p0_i fn_slices_IndexFunc_api_Slot_api_Slot_k_row_within_1_p0_i
 rw [loop_search (body:=fn_slices_IndexFunc_api_Slot_api_Slot_k_row_within_1_p0_i_l1 xa n) xa (fun x=>decide (x.1 < 0)||decide (n≤x.1)) (fun k => .inr (k:Int)) (.inl ()) ?_ ?_]
 · rcases find_cases xa (fun x=>decide (x.1 < 0)||decide (n≤x.1)) with ⟨k,h1,h2⟩ | ⟨h1,h2⟩
   · rw [h1]; unfold rin; simp [h2]
   · rw [h1]; unfold rin; simp [h2]
 · intro k hk
   unfold fn_slices_IndexFunc_api_Slot_api_Slot_k_row_within_1_p0_i_l1 fn_row_within_1_ap0_i
   simp only [dlt hk,cond_true,getN hk,Option.bind_some,w64s hk (by omega:xa.length≤9223372036854775807)]
   cases (decide (xa[k].1 < 0)||decide (n≤xa[k].1)) <;> rfl
 · simp [fn_slices_IndexFunc_api_Slot_api_Slot_k_row_within_1_p0_i_l1]
theorem rowCheck_eq (xa:List St) (n:Int) (hn:xa.length≤1073741824):fn_row_Check xa n=some (rck n xa):=by
 unfold fn_row_Check rck
 rw [rowWithin_eq xa n hn]
 by_cases h:16 < xa.length
 · rw [decide_eq_true (by omega),if_pos h]; rfl
 · rw [decide_eq_false (by omega),if_neg h,cond_false]
   cases rin n xa <;> rfl
theorem refCheck_eq (xa:List St) (n:Int):fn_ref15_Check xa n=some (rck n xa):=by
 unfold fn_ref15_Check rck
 by_cases h:16 < xa.length
 · rw [decide_eq_true (by omega),if_pos h]; rfl
 · rw [decide_eq_false (by omega),if_neg h,cond_false]
   rw [loop_some (body:=fn_ref15_Check_l1 xa n) xa (fun x=>decide (x.1 < 0)||decide (n≤x.1)) (.inr 7) (.inl ()) ?_ ?_]
   · unfold rin; cases (xa.any fun x=>decide (x.1 < 0)||decide (n≤x.1)) <;> rfl
   · intro k hk
     unfold fn_ref15_Check_l1
     by_cases q:xa[k].1 < 0 <;> by_cases q2:n≤xa[k].1 <;> simp [hk,getN hk,w64s hk (by omega:xa.length≤9223372036854775807),q,q2]
   · simp [fn_ref15_Check_l1]
theorem rowClone_eq (xa:List St) (hn:xa.length≤1073741824):fn_row_Clone xa=some xa:=by
 unfold fn_row_Clone fn_slices_Clone_api_Slot_api_Slot
 rw [nilb_eq]
 · rw [app_eq (by simpa using hn)]; simp
 · rintro rfl; rw [app_eq (by simp)]; rfl
theorem rowSubst_eq (xa:List St) (xb:List Int) (hn:xa.length≤1073741824):fn_row_Subst xa xb=some (if rin xb.length xa then ([],7) else (xa.map (sbs xb),0)):=by
 unfold fn_row_Subst
 rw [rowWithin_eq xa _ hn,Option.bind_some,rowClone_eq xa hn]
 cases h:rin xb.length xa with
 | true=>simp
 | false =>
   simp only [Bool.not_false,Bool.not_true,cond_false,Option.bind_some,Bool.false_eq_true,if_false]
   have hl:=loop_nat (body:=fn_row_Subst_l1 xb xa) (fun k:Nat=>((xa.take k).map (sbs xb)++xa.drop k,(k:Int))) xa.length (b:=xa.map (sbs xb)) ?_ ?_
   · simp only [List.take_zero,List.map_nil,List.nil_append,List.drop_zero] at hl
     have hl':loop (fn_row_Subst_l1 xb xa) (xa,0)=some (xa.map (sbs xb)):=hl
     rw [hl']; rfl
   · intro k hk
     have hg:getI ((xa.take k).map (sbs xb)++xa.drop k) (k:Int)=some xa[k]:=by
       rw [getN (by simp; omega)]
       rw [List.getElem_append_right (by simp; omega)]
       simp [List.getElem_drop,Nat.min_eq_left (Nat.le_of_lt hk)]
     have hr:=rin_false h (k:=k) (x:=xa[k]) (by simp [hk])
     unfold fn_row_Subst_l1
     dsimp only
     rw [hg]
     simp only [Option.bind_some,getI_in hr.1 hr.2,Int.ofNat_lt.2 hk,decide_true,cond_true,w64s hk (by omega:xa.length≤9223372036854775807),Int.toNat_natCast]
     congr 3
     rw [List.take_succ_eq_append_getElem hk,List.drop_eq_getElem_cons hk,List.set_append_right _ _ (by simp; omega)]
     rw [List.length_map,List.length_take,Nat.min_eq_left (Nat.le_of_lt hk),Nat.sub_self,List.set_cons_zero,List.map_append,List.append_assoc]
     rfl
   · simp [fn_row_Subst_l1]
theorem refSubst_eq (xa:List St) (xb:List Int) (hn:xa.length≤1073741824):fn_ref15_Subst xa xb=some (if rin xb.length xa then ([],7) else (xa.map (sbs xb),0)):=by
 unfold fn_ref15_Subst
 have hl:=loop_find (body:=fn_ref15_Subst_l1 xa xb)
   (fun k=>∃ x,xa[k]? = some x∧(x.1 < 0∨(xb.length:Int)≤x.1)) (fun k:Nat=>((xa.take k).map (sbs xb),(k:Int))) xa.length (fun _ => .inr ([],7)) (.inl (xa.map (sbs xb))) ?_ ?_ ?_
 · simp only [List.take_zero,List.map_nil] at hl
   rcases hl with ⟨k,h1,⟨x,h2,h2'⟩,_,h3⟩ | ⟨h1,h3⟩
   · have:rin xb.length xa=true:=List.any_eq_true.2 ⟨x,List.mem_of_getElem? h2,by simpa using h2'⟩
     rw [this]; erw [h3]; rfl
   · have:rin xb.length xa=false:=by
       cases hh:rin xb.length xa with
       | false=>rfl
       | true =>
         obtain ⟨x,h4,h5⟩:=List.any_eq_true.1 hh
         obtain ⟨k,h6,rfl⟩:=List.getElem_of_mem h4
         exact absurd ⟨xa[k],by simp [h6],by simpa using h5⟩ (h1 k h6)
     rw [this]; erw [h3]; rfl
 · intro k hk hp
   have hx:¬ (xa[k].1 < 0∨(xb.length:Int)≤xa[k].1):=fun h=>hp ⟨_,by simp [hk],h⟩
   have h1:((decide (xa[k].1 < 0))||(decide (((xb.length:Nat):Int)≤xa[k].1)))=false:=by simp; omega
   have ha:=app_eq (a:=(xa.take k).map (sbs xb)) (b:=[sbs xb xa[k]]) (by simp; omega)
   have h5:getI xb xa[k].1=some (xb.getD xa[k].1.toNat 0):=getI_in (by omega) (by omega)
   unfold fn_ref15_Subst_l1
   dsimp only
   simp only [Option.bind_some,getN hk,h1,cond_false,h5,Int.ofNat_lt.2 hk,decide_true,cond_true,w64s hk (by omega:xa.length≤9223372036854775807)]
   rw [show app ((xa.take k).map (sbs xb)) [(xb.getD xa[k].1.toNat 0,xa[k].2)]=_ from ha,List.take_succ_eq_append_getElem hk,List.map_append]
   rfl
 · rintro k hk ⟨x,h1,h2⟩
   have hx:xa[k]=x:=by rw [List.getElem?_eq_getElem hk] at h1; exact Option.some.inj h1
   have h1:((decide (xa[k].1 < 0))||(decide (((xb.length:Nat):Int)≤xa[k].1)))=true:=by rw [hx]; simpa using h2
   unfold fn_ref15_Subst_l1
   dsimp only
   simp only [Option.bind_some,getN hk,h1,cond_true,Int.ofNat_lt.2 hk,decide_true]
 · simp [fn_ref15_Subst_l1]
abbrev Nd:=Int×Int×Int×Int×Bool
def rel1 (kind f:Int) (x y:St):List Nd:=(x.1,y.1,kind,f,false) :: if y.2 then [(y.1,x.1,kind,f,true)] else []
def rel (kind f:Int):List St→List St→List Nd
 | x :: xs,y :: ys=>rel1 kind f x y++rel kind (f + 1) xs ys
 | _,_=>[]
theorem rel_snoc (kind:Int) (x y:St):∀ (xs ys:List St) (f:Int),xs.length=ys.length→rel kind f (xs++[x]) (ys++[y])=rel kind f xs ys++rel1 kind (f + xs.length) x y
 | [],[],f,_=>by simp [rel]
 | [],_ :: _,f,h=>by simp at h
 | _ :: _,[],f,h=>by simp at h
 | a :: xs,b :: ys,f,h=>by
   simp only [List.cons_append,rel,rel_snoc kind x y xs ys (f + 1) (by simpa using h),List.append_assoc,List.length_cons]
   rw [show f + 1 + (xs.length:Int)=f + ((xs.length + 1:Nat):Int) by omega]
theorem rel_len (kind:Int) (xs ys:List St) (f:Int):(rel kind f xs ys).length≤2 * xs.length:=by
 induction xs generalizing ys f with
 | nil=>simp [rel]
 | cons a xs ih=>cases ys with
   | nil=>simp [rel]
   | cons b ys =>
     have:=ih ys (f + 1)
     cases hb:b.2 <;> simp [rel,rel1,hb] <;> omega
theorem related_eq (xa xb:List St) (kind f:Int) (hl:xa.length=xb.length) (hn:xa.length≤30) (hf : -9223372036854775808≤f) (hf2:f≤1099511627776) (c:List Nd) (hc:c.length≤10) :
   fn_ref16_slots_rkkii xa xb kind f c=some (c++rel kind f xa xb):=by
 unfold fn_ref16_slots_rkkii
 have h:=loop_carry (body:=fn_ref16_slots_rkkii_l1 xa xb kind f) xa (fun k=>c++rel kind f (xa.take k) (xb.take k)) (c++rel kind f xa xb) ?_ ?_
 · simp only [List.take_zero,rel,List.append_nil] at h
   rw [h]; rfl
 · intro k h
   have h2:k < xb.length:=by omega
   have hlen:=rel_len kind (xa.take k) (xb.take k) f
   simp only [List.length_take] at hlen
   have hw:IntKind.wrap .i64 (f + (k:Int))=f + k:=w64 (by omega) (by omega)
   unfold fn_ref16_slots_rkkii_l1
   rw [take_snoc h,take_snoc h2,rel_snoc _ _ _ _ _ _ (by simp; omega)]
   have e:(xa.take k).length=k:=by simp; omega
   rw [e]
   cases hb:xb[k].2 with
   | true =>
     simp [getN h,getN h2,h,hb,w64s h (by omega),hw,rel1]
     rw [app_eq (by simp; omega)]
     simp
     rw [app_eq (by simp; omega)]
     simp
   | false =>
     simp [getN h,getN h2,h,hb,w64s h (by omega),hw,rel1]
     rw [app_eq (by simp; omega)]
     simp
 · have e:xb.take xa.length=xb:=by rw [hl,List.take_length]
   simp [fn_ref16_slots_rkkii_l1,e]
theorem related_slots (xa xb:List St) (kind f:Int):fn_relate_related xa xb kind f=fn_ref16_slots_rkkii xa xb kind f []:=rfl
theorem relFlow_eq (xa xb:List St) (kind f:Int) (hn:xa.length≤30) (hf : -9223372036854775808≤f) (hf2:f≤1099511627776):fn_relate_Flow xa xb kind f=some (if shp xa xb then (rel kind f xa xb,0) else ([],8)):=by
 unfold fn_relate_Flow
 rw [rowShape_eq _ _ (by omega),Option.bind_some]
 cases hs:shp xa xb with
 | false=>rfl
 | true=>rw [Bool.not_true,cond_false,related_slots,related_eq xa xb kind f (shp_len' hs) hn hf hf2 [] (by simp)]; simp
theorem refFlow_eq (xa xb:List St) (kind f:Int) (hn:xa.length≤30) (hf : -9223372036854775808≤f) (hf2:f≤1099511627776):fn_ref16_Flow xa xb kind f=some (if shp xa xb then (rel kind f xa xb,0) else ([],8)):=by
 unfold fn_ref16_Flow
 rw [refShape_eq _ _ (by omega),Option.bind_some]
 cases hs:shp xa xb with
 | false=>rfl
 | true=>rw [Bool.not_true,cond_false,related_eq xa xb kind f (shp_len' hs) hn hf hf2 [] (by simp)]; simp
def lo (n:Int) (m:Bool) (xa xb:List St):List Nd×Int :=
 if shp ((n,false) :: xa.map fun x=>(x.1,x.2||m)) xb then ((n,(xb.head?.getD (0,false)).1,2,0,false) :: rel 1 1 xa (xb.drop 1),0) else ([],8)
theorem lo_len {n:Int} {m:Bool} {xa xb:List St} (h:shp ((n,false) :: xa.map fun x=>(x.1,x.2||m)) xb=true):xb.length=xa.length + 1:=by
 have:=shp_len' h; simp at this; omega
theorem relLoan_eq (xa xb:List St) (n:Int) (m:Bool) (hn:xa.length≤30):fn_relate_Loan xa xb n m=some (lo n m xa xb):=by
 unfold fn_relate_Loan lo
 rw [rowRef_eq _ _ _ (by omega),Option.bind_some,shp_comm]
 by_cases hb:xb.length≤1000
 · rw [rowShape_eq _ _ (by omega),Option.bind_some]
   cases hs:shp xb ((n,false) :: xa.map fun x=>(x.1,x.2||m)) with
   | false=>rfl
   | true =>
     have hl:=lo_len (by rw [shp_comm]; exact hs)
     cases xb with
     | nil=>simp at hl
     | cons y ys =>
       have hl2:xa.length=ys.length:=by simpa using hl.symm
       rw [Bool.not_true,cond_false,show getI (y :: ys) 0=some y from rfl,Option.bind_some,sub1 (by simp),Option.bind_some,related_slots,related_eq _ _ _ _ (by simpa using hl2) hn (by omega) (by omega) _ (by simp)]
       have:=rel_len 1 xa ys 1
       simp only [List.nil_append,Option.bind_some,List.drop_succ_cons,List.drop_zero]
       rw [app_eq (by simp; omega)]
       simp
 · have hs:shp xb ((n,false) :: xa.map fun x=>(x.1,x.2||m))=false:=shp_len (by simp; omega)
   unfold fn_row_Shape fn_slices_EqualFunc_api_Slot_api_Slot_api_Slot_api_Slot_kk_row_Shape_1
   rw [dlen' (by simp; omega),cond_true,hs]; rfl
theorem refLoan_eq (xa xb:List St) (n:Int) (m:Bool) (hn:xa.length≤30):fn_ref16_Loan xa xb n m=some (lo n m xa xb):=by
 unfold fn_ref16_Loan lo
 rw [refRef_eq _ _ _ (by omega),Option.bind_some,refShape_eq _ _ (by simp; omega),Option.bind_some]
 cases hs:shp ((n,false) :: xa.map fun x=>(x.1,x.2||m)) xb with
 | false=>rfl
 | true =>
   have hl:=lo_len hs
   cases xb with
   | nil=>simp at hl
   | cons y ys =>
     have hl2:xa.length=ys.length:=by simpa using hl.symm
     rw [Bool.not_true,cond_false,show getI (y :: ys) 0=some y from rfl,Option.bind_some,sub1 (by simp),Option.bind_some,related_eq _ _ _ _ (by simpa using hl2) hn (by omega) (by omega) _ (by simp)]
     simp
def ag (n:Int) (m:Bool) (xa xb:List St):List Nd×Int :=
 match xa,xb with
 | x :: xs,y :: ys=>if x.2||!shp (x :: xs) (y :: ys)||(m&&xs.any (fun z=>!z.2)) then ([],8) else ((x.1,n,3,0,false) :: (n,y.1,2,0,false) :: rel 1 1 xs ys,0)
 | _,_=>([],8)
theorem may_eq (xa xb:List St) (m:Bool) (hn:xa.length≤30):fn_relate_mayBorrowAgain xa xb m=some (match xa with | []=>false | x :: xs=>!(x.2||!shp xa xb||(m&&xs.any (fun z=>!z.2)))):=by
 unfold fn_relate_mayBorrowAgain
 cases xa with
 | nil=>rfl
 | cons x xs =>
   have e0:decide ((((x :: xs).length:Nat):Int)=0)=false:=by simp; omega
   rw [e0,cond_false,show getI (x :: xs) 0=some x from rfl,Option.bind_some,Option.bind_some]
   cases hx:x.2 with
   | true=>simp [hx]
   | false =>
     rw [cond_false,rowShape_eq _ _ (by omega),Option.bind_some,Option.bind_some]
     cases hs:shp (x :: xs) xb with
     | false=>simp
     | true =>
       rw [Bool.not_true,cond_false,sub1 (by simp),Option.bind_some]
       unfold fn_slices_ContainsFunc_api_Slot_api_Slot_k_relate_mayBorrowAgain_1 fn_slices_IndexFunc_api_Slot_api_Slot_k_relate_mayBorrowAgain_1
       rw [loop_search (List.drop 1 (x :: xs)) (fun z:St=>!z.2) (fun k => .inr (k:Int)) (.inl ()) ?_ ?_]
       · simp only [List.drop_succ_cons,List.drop_zero]
         cases h:xs.findIdx? (fun z:St=>!z.2) with
         | none =>
           have:xs.any (fun z:St=>!z.2)=false:=by
             rw [List.any_eq_false]; intro z hz; have:=List.findIdx?_eq_none_iff.1 h z hz; simpa using this
           simp [this,hx]
         | some k =>
           obtain ⟨hk,h1,_⟩:=List.findIdx?_eq_some_iff_getElem.1 h
           have:xs.any (fun z:St=>!z.2)=true:=List.any_eq_true.2 ⟨_,List.getElem_mem hk,h1⟩
           simp [this,hx]
       · intro k h
         unfold fn_slices_IndexFunc_api_Slot_api_Slot_k_relate_mayBorrowAgain_1_l1 fn_relate_mayBorrowAgain_1
         simp only [List.drop_succ_cons,List.drop_zero] at h ⊢
         have hn':xs.length≤30:=by simp at hn; omega
         cases hz:xs[k].2 <;> simp [getN h,h,w64s h (by omega),hz]
       · simp [fn_slices_IndexFunc_api_Slot_api_Slot_k_relate_mayBorrowAgain_1_l1]
theorem relAgain_eq (xa xb:List St) (n:Int) (m:Bool) (hn:xa.length≤30):fn_relate_Again xa xb n m=some (ag n m xa xb):=by
 unfold fn_relate_Again
 rw [may_eq _ _ _ hn,Option.bind_some]
 cases xa with
 | nil=>rfl
 | cons x xs =>
   simp only [ag,Bool.not_not]
   by_cases hc:(x.2||!shp (x :: xs) xb||(m&&xs.any (fun z=>!z.2)))=true
   · rw [hc]; cases xb <;> simp_all
   · have hc':(x.2||!shp (x :: xs) xb||(m&&xs.any (fun z=>!z.2)))=false:=by simpa using hc
     have hs:shp (x :: xs) xb=true:=by
       cases q:shp (x :: xs) xb with
       | true=>rfl
       | false=>rw [q] at hc'; simp at hc'
     have hl:=shp_len' hs
     cases xb with
     | nil=>simp at hl
     | cons y ys =>
       simp only [hc',cond_false,if_false,show getI (x :: xs) 0=some x from rfl,show getI (y :: ys) 0=some y from rfl,Option.bind_some,sub1 (show 1≤(x :: xs).length by simp),sub1 (show 1≤(y :: ys).length by simp),List.drop_succ_cons,List.drop_zero,Bool.false_eq_true]
       have hl2:xs.length=ys.length:=by simpa using hl
       rw [related_slots,related_eq _ _ _ _ hl2 (by simp at hn; omega) (by omega) (by omega) _ (by simp),Option.bind_some]
       have:=rel_len 1 xs ys 1
       simp at hn
       rw [app_eq (by simp; omega)]
       simp
theorem refAgain_eq (xa xb:List St) (n:Int) (m:Bool) (hn:xa.length≤30):fn_ref16_Again xa xb n m=some (ag n m xa xb):=by
 unfold fn_ref16_Again
 cases xa with
 | nil=>rfl
 | cons x xs =>
   have e0:decide ((((x :: xs).length:Nat):Int)=0)=false:=by simp; omega
   rw [e0,cond_false,refShape_eq _ _ (by omega),Option.bind_some,Option.bind_some]
   cases hs:shp (x :: xs) xb with
   | false=>cases xb <;> simp [ag,hs]
   | true =>
     have hl:=shp_len' hs
     cases xb with
     | nil=>simp at hl
     | cons y ys =>
       have hl2:xs.length=ys.length:=by simpa using hl
       simp only [Bool.not_true,cond_false,show getI (x :: xs) 0=some x from rfl,show getI (y :: ys) 0=some y from rfl,Option.bind_some]
       cases hx:x.2 with
       | true=>simp [ag,hx]
       | false =>
         have hn':xs.length≤29:=by simp at hn; omega
         have hloop:loop (fn_ref16_Again_l1 (x :: xs) m) 1=some (if (m&&xs.any (fun z=>!z.2)) then .inr ([],8) else .inl ()):=by
           have:=loop_any (body:=fn_ref16_Again_l1 (x :: xs) m) (fun k=>(m&&(xs[k]?.any (fun z=>!z.2)))=true) (fun k=>((k + 1:Nat):Int)) xs.length (.inr ([],8)) (.inl ()) ?_ ?_ ?_
           · rw [show ((1:Int))=((0 + 1:Nat):Int) from rfl,this]
             congr 1
             by_cases hq:(m&&xs.any (fun z=>!z.2))=true
             · rw [if_pos hq,if_pos]
               simp only [Bool.and_eq_true] at hq
               obtain ⟨z,hz,hz2⟩:=List.any_eq_true.1 hq.2
               obtain ⟨k,hk,rfl⟩:=List.getElem_of_mem hz
               exact ⟨k,hk,by simp [hq.1,hk]; simpa using hz2⟩
             · rw [if_neg hq,if_neg]
               rintro ⟨k,hk,hk2⟩
               apply hq
               simp [hk] at hk2
               rw [hk2.1,Bool.true_and]
               exact List.any_eq_true.2 ⟨_,List.getElem_mem hk,by simpa using hk2.2⟩
           · intro k hk hp
             have h2:k + 1 < (x :: xs).length:=by simp; omega
             simp [hk] at hp
             unfold fn_ref16_Again_l1
             rw [dlt h2,cond_true,w64s h2 (by simp; omega)]
             cases m with
             | false=>simp
             | true=>simp [getN1 h2,hp rfl]
           · intro k hk hp
             have h2:k + 1 < (x :: xs).length:=by simp; omega
             simp [hk] at hp
             unfold fn_ref16_Again_l1
             rw [dlt h2,cond_true]
             simp [getN1 h2,hp.1,hp.2]
           · simp [fn_ref16_Again_l1]
         rw [hloop]
         by_cases hq:(m&&xs.any (fun z=>!z.2))=true
         · simp [ag,hx,hs,hq]
         · have hq':(m&&xs.any (fun z=>!z.2))=false:=by simpa using hq
           rw [hq']
           simp only [cond_false,Option.bind_some,if_false,sub1 (show 1≤(x :: xs).length by simp),sub1 (show 1≤(y :: ys).length by simp),List.drop_succ_cons,List.drop_zero,Bool.false_eq_true]
           rw [related_eq _ _ _ _ hl2 (by omega) (by omega) (by omega) _ (by simp)]
           simp [ag,hx,hs,hq']
theorem lo_bound (n:Int) (m:Bool) (xa xb:List St) (h:xa.length≤30):(lo n m xa xb).1.length≤100:=by
 unfold lo
 have:=rel_len 1 xa (xb.drop 1) 1
 simp at this
 split <;> simp; omega
theorem ag_bound (n:Int) (m:Bool) (xa xb:List St) (h:xa.length≤30):(ag n m xa xb).1.length≤100:=by
 unfold ag
 split
 · rename_i x xs y ys
   have:=rel_len 1 xs ys 1
   simp at h
   split <;> simp; omega
 · simp
end Go.Proofs.YtaajcbeoafhmaaaGreatDoor
