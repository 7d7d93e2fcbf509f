/- A part of the proof: what lies ahead of the law. Nothing is claimed here. -/
import Derived.Test.YtcocmnheohgndaaGreatZ4
import Derived.Test.YtcocmnheohgndaaGreatRows
open BitVec renaming ofInt → S3
open Bool renaming and_eq_true → Q0, and_self → M7, beq_eq_decide_eq → Z5, false_eq_true → N2, not_false → Q6, not_not → bf0, not_true → Y0, true_and → L7
open Int renaming ediv_nonneg → bO0, eq_ofNat_of_zero_le → X0, fdiv → aU0, fdiv_eq_ediv_of_nonneg → aH0, le_of_lt → af0, ofNat_lt → X8, pow_pos → bo0, pow_succ → bd0, tdiv → ag0, tdiv_eq_ediv_of_nonneg → M9, tmod → ar0, tmod_eq_emod_of_nonneg → aG0, toNat → V6, toNat_natCast → O1, toNat_of_nonneg → bn0
open List renaming any_eq_false → V3, any_eq_true → L6, append_assoc → O0, append_nil → P1, cons_append → L4, drop_drop → K4, drop_eq_getElem_cons → N8, drop_left → P5, drop_succ_cons → U6, drop_zero → X2, ext_getElem? → bA0, findIdx?_eq_none_iff → T1, findIdx?_eq_some_iff_getElem → S1, flatMap_append → N3, flatMap_cons → O3, flatMap_nil → M5, foldl_append → au0, getD → R1, getElem?_eq_getElem → R0, getElem?_eq_none → Q3, getElem?_eq_some_iff → V1, getElem_cons_zero → S8, getElem_drop → by0, getElem_mem → S0, getElem_of_mem → W3, length → M1, length_append → P0, length_cons → X1, length_drop → U0, length_eq_zero_iff → V0, length_map → Z7, length_nil → M3, length_singleton → bc0, length_take → Z0, map_append → Z2, map_nil → Y5, mem_cons → U2, mem_of_getElem? → K8, mem_range → L8, nil_append → M4, range → T3, range_eq_range' → ah0, set_append_right → ab0, singleton_append → Z9, take_add → K7, take_left → aI0, take_length → T7, take_succ_cons → al0, take_succ_eq_append_getElem → Y3, take_zero → N6
open Nat renaming add_assoc → W2, add_zero → Z3, min_eq_left → T4, sub_self → V8, succ_mul → N4, zero_add → O2
open Option renaming bind_assoc → S9, bind_some → M0, isSome_iff_exists → R9
open Option.some renaming inj → X3
open Prod.mk renaming injEq → W5
open Sum.inr renaming injEq → an0
open UInt8 renaming ofNat → az0, toNat_inj → ay0
namespace Go.Proofs.YtcocmnheohgndaaGreat
noncomputable section
set_option linter.unusedVariables false
set_option maxRecDepth 100000
set_option maxHeartbeats 4000000
section
open Go.RowKit _root_.Go.Proofs.Tryz
abbrev bkO (i:Nat) (o:OT):Bk:=⟨some i,0,[],false,false,some o,false⟩
abbrev bkC (i:Nat) (e:TypeId) (ks:List Kd):Bk:=⟨some i,e,ks,false,false,none,false⟩
abbrev bkN (e:TypeId) (ks:List Kd):Bk:=⟨none,e,ks,false,false,none,false⟩
abbrev bkU (i:Nat):Bk:=⟨some i,0,[],false,true,none,false⟩
abbrev bkM:Bk:=⟨none,0,[],false,true,none,false⟩
abbrev kdI (i:Nat):Nat×Kd:=(i,.dat (.int .i64))
abbrev kdB (i:Nat):Nat×Kd:=(i,.dat .bool)
abbrev Tq1:Type:=(Int×Int×(List (Int×Int))×(List (List (Int×Bool)))×(List (Int×Bool))×(List (Int×(List (Int×Int))×(List (List (Int×Bool)))×(List (Int×Bool))))×(List ((List (Int×Int×Int×Int×Bool))×(Int×Int×Int×(List Int)×(List Int)×(List Int)))))
abbrev Yq1:Tp:=(.cons (.int .i64) (.cons (.int .i64) (.cons (.sl (.cons (.int .i64) (.one (.int .i64)))) (.cons (.sl (.one (.sl (.cons (.int .i64) (.one .bool))))) (.cons (.one (.sl (.cons (.int .i64) (.one .bool)))) (.cons (.sl (.cons (.int .i64) (.cons (.sl (.cons (.int .i64) (.one (.int .i64)))) (.cons (.sl (.one (.sl (.cons (.int .i64) (.one .bool))))) (.one (.one (.sl (.cons (.int .i64) (.one .bool))))))))) (.one (.sl (.cons (.sl (.cons (.int .i64) (.cons (.int .i64) (.cons (.int .i64) (.cons (.int .i64) (.one .bool)))))) (.one (.cons (.int .i64) (.cons (.int .i64) (.cons (.int .i64) (.cons (.sl (.int .i64)) (.cons (.sl (.int .i64)) (.one (.sl (.int .i64))))))))))))))))))
abbrev Yq2:Tp:=(.int .i64)
abbrev Tq2:Type:=((List (Int×Int×Int×Int×Bool))×(Int×Int×Int×(List Int)×(List Int)×(List Int)))
abbrev Tq3:Type:=(List (Int×Bool))
abbrev Yq3:Tp:=(.cons Yq2 (.one .bool))
abbrev Tq4:Type:=(Int×Int×Int×Int×Bool)
abbrev Tq5:Type:=(Int×(List (Int×Int))×(List Tq3)×Tq3)
abbrev Yq4:Tp:=(.cons Yq2 (.cons (.sl (.cons Yq2 (.one Yq2))) (.cons (.sl (.one (.sl Yq3))) (.one (.one (.sl Yq3))))))
abbrev Yq5:Tp:=(.cons Yq2 (.cons Yq2 (.cons Yq2 (.cons (.sl Yq2) (.cons (.sl Yq2) (.one (.sl Yq2)))))))
abbrev Yq6:Tp:=(.cons Yq2 (.cons Yq2 (.cons Yq2 Yq3)))
abbrev Tq6:Type:=(Int×Int×Int×Int)
abbrev Tq7:Type:=(List (Int×Int))
abbrev Yq7:Tp:=(.cons Yq2 (.one Yq2))
abbrev Tq8:Type:=(Int×Int×Int×(List Int)×(List Int)×(List Int))
abbrev Yq8:Tp:=(.one (.sl Yq3))
abbrev Tq9:Type:=((List Tq4)×Int)
abbrev pS:Type:=(Int×Int×Int×Int×Tq7×(List Tq3)×Tq3×(List Tq5)×(List Tq2))
abbrev bZ:Type:=(Int×List UInt8)
abbrev lT:Type:=((Int×Int×Tq7×(List Tq3)×Tq3×(List Tq5)×(List Tq2)×Int))
abbrev uA:Type:=(Int×Int×Int×Tq7×(List Tq3)×Tq3×(List Tq5)×(List Tq2))
abbrev ba:Type:=(List UInt8)
abbrev jK:Type:=(Int×Int×(List Tq3)×Tq3×(List Tq5))
instance nob:BldA:=⟨100,Bld,fun h=>Bld.fresh h,fun _=>True,fun _ _=>trivial⟩
def qO:OkSpec Tryz.prog:=⟨qQ,AM (fun _ _=>rfl),call88⟩
def aX:OkSpec Tryz.prog:=⟨qC,Aj (fun _ _=>rfl),call51⟩
def gG:OkSpec Tryz.prog:=⟨q8,Bt (fun _ _=>rfl),call58⟩

def gz (xa:Tq3) (xb:Int):Option Bool :=
 some (decide ((xa.length:Int)<=xb))
def hQ0:Hn Tryz.prog := .nil
def sQ0:Spec:=⟨16,⟨[(0,.dat Yq8),kdI 1],[]⟩,[⟨[kdB 0],[]⟩],fun x=>gz x.1 x.2⟩
def oQ0:OkSpec Tryz.prog:=⟨sQ0,ae func16 hQ0 (by kernel_rfl) (by kernel_rfl),call16⟩
def uJ (xa:Tq5):Int->Option (Int⊕(Unit⊕Bool)):=fun i1=>cond (decide (i1 < (xa.2.2.1.length:Int))) ((aa xa.2.2.1 i1).bind fun x2=>(gz x2 20).bind fun t3=>cond (!t3) (some (.inr ((.inr (false))))) (some (.inl (IntKind.wrap .i64 (i1 + 1))))) (some (.inr ((.inl ()))))
def fd (xa:Tq5):Option Bool :=
 (cond ((decide (20 < (xa.2.1.length:Int)))||(decide (20 < (xa.2.2.1.length:Int)))) (some (true)) ((gz xa.2.2.2 20).bind fun t1=>some (!t1))).bind fun t2=>cond (t2) (some (false)) ((loop (uJ xa) 0).bind fun o=>match o with | .inr r=>some r | .inl ()=>some (true))
def hQ1:Hn Tryz.prog := .gp 4 (.wt 14 (.gj 4 ⟨[kdB 19],[]⟩ [] (.two 14 .nil (.cl oQ0 [] .nil)) (.tw 19 .nil (.jx [] ⟨[],[]⟩ [] (.lp ⟨[kdI 3],[]⟩ (.tw 24 (.cl oQ0 [] (.tw 33 .nil .nil)) .nil)) .nil))))
def sQ1:Spec:=⟨17,⟨[(0,.dat Yq4)],[]⟩,[⟨[kdB 0],[]⟩],fun x=>fd x⟩
def oQ1:OkSpec Tryz.prog:=⟨sQ1,ae func17 hQ1 (by kernel_rfl) (by kernel_rfl),call17⟩
def uH (xa:Tq1):Int->Option (Int⊕(Unit⊕Bool)):=fun i1=>cond (decide (i1 < (xa.2.2.2.1.length:Int))) ((aa xa.2.2.2.1 i1).bind fun x2=>(gz x2 20).bind fun t3=>cond (!t3) (some (.inr ((.inr (false))))) (some (.inl (IntKind.wrap .i64 (i1 + 1))))) (some (.inr ((.inl ()))))
def iz (xa:Tq1):Int->Option (Int⊕(Unit⊕Bool)):=fun i1=>cond (decide (i1 < (xa.2.2.2.2.2.1.length:Int))) ((aa xa.2.2.2.2.2.1 i1).bind fun x2=>(fd (x2.1,x2.2.1,x2.2.2.1,x2.2.2.2)).bind fun t3=>cond (!t3) (some (.inr ((.inr (false))))) (some (.inl (IntKind.wrap .i64 (i1 + 1))))) (some (.inr ((.inl ()))))
def f6 (xa:Tq1):(Int×Int)->Option ((Int×Int)⊕(Int⊕Bool)):=fun (i1,i2)=>cond (decide (i2 < (xa.2.2.2.2.2.2.length:Int))) ((aa xa.2.2.2.2.2.2 i2).bind fun x3=>(aa xa.2.2.2.2.2.2 i2).bind fun x4=>cond (((decide (20 < (x3.2.2.2.2.1.length:Int)))||(decide (20 < (x3.2.2.2.2.2.1.length:Int))))||(decide (20 < (x3.2.2.2.2.2.2.length:Int)))) (some (.inr ((.inr (false))))) (some (.inl ((IntKind.wrap .i64 (i1 + (x4.1.length:Int)),IntKind.wrap .i64 (i2 + 1)))))) (some (.inr (.inl i1)))
def gl (xa:Tq1):Option Bool :=
 (cond ((((decide (20 < (xa.2.2.1.length:Int)))||(decide (10 < (xa.2.2.2.1.length:Int))))||(decide (4 < (xa.2.2.2.2.2.1.length:Int))))||(decide (8 < (xa.2.2.2.2.2.2.length:Int)))) (some (true)) ((gz xa.2.2.2.2.1 20).bind fun t1=>some (!t1))).bind fun t2=>cond (t2) (some (false)) ((loop (uH xa) 0).bind fun o=>match o with | .inr r=>some r | .inl ()=>(loop (iz xa) 0).bind fun o=>match o with | .inr r=>some r | .inl ()=>(loop (f6 xa) (0,0)).bind fun o=>match o with | .inr r=>some r | .inl i3=>some (decide (i3<=24)))
def hQ2:Hn Tryz.prog := .gp 4 (.wt 18 (.gp 4 (.wt 24 (.gp 4 (.wt 30 (.gj 4 ⟨[kdB 35],[]⟩ [] (.two 30 .nil (.cl oQ0 [] .nil)) (.tw 35 .nil (.jx [] ⟨[],[]⟩ [] (.lp ⟨[kdI 3],[]⟩ (.tw 40 (.cl oQ0 [] (.tw 49 .nil .nil)) .nil)) (.jx [] ⟨[],[]⟩ [] (.lp ⟨[kdI 4],[]⟩ (.tw 54 (.cl oQ1 [] (.tw 63 .nil .nil)) .nil)) (.jx [] ⟨[kdI 5],[]⟩ [] (.lp ⟨[kdI 5,kdI 6],[]⟩ (.tw 68 (.wt 90 (.gp 4 (.wt 96 (.gp 4 (.tw 101 .nil .nil))))) .nil)) .nil))))))))))
def sQ2:Spec:=⟨5,⟨[(0,.dat Yq1)],[]⟩,[⟨[kdB 0],[]⟩],fun x=>gl x⟩
def oQ2:OkSpec Tryz.prog:=⟨sQ2,ae func5 hQ2 (by kernel_rfl) (by kernel_rfl),call5⟩

def bc (xb:Int) (xc:Int):Option Unit :=
 some (())
def hQ3:Hn Tryz.prog := .nil
def sQ3:Spec:=⟨36,⟨[(0,.nilp),kdI 1,kdI 2],[]⟩,[⟨[],[]⟩],fun x=>bc x.1 x.2⟩
def oQ3:OkSpec Tryz.prog:=⟨sQ3,ae func36 hQ3 (by kernel_rfl) (by kernel_rfl),call36⟩

def f7 (xa:Tq1):Option Tq6 :=
 cond ((decide (xa.1 < 1))||(decide (xa.2.1 < xa.1))) (some ((7,0,0,0))) (cond (decide (65536 < xa.2.1)) (some ((6,0,0,0))) (some ((0,0,0,0))))
def hQ4:Hn Tryz.prog := .gp 5 (.tw 7 .nil (.tw 19 .nil .nil))
def sQ4:Spec:=⟨37,⟨[(0,.dat Yq1),(1,.nilp)],[]⟩,[⟨[(0,.agg [.dat Yq2,.dat Yq2,.dat Yq2,.dat Yq2])],[]⟩],fun x=>f7 x⟩
def oQ4:OkSpec Tryz.prog:=⟨sQ4,ae func37 hQ4 (by kernel_rfl) (by kernel_rfl),call37⟩

def ka (xa:Int) (qa0:Int) (qa1:Int) (qa2:Tq7) (qa3:(List Tq3)) (qa4:Tq3) (qa5:(List Tq5)) (qa6:(List Tq2)):Option Bool :=
 some ((decide (0<=xa))&&(decide (xa < qa0)))
def hQ5:Hn Tryz.prog := .gp 4 .nil
def sQ5:Spec:=⟨76,⟨[kdI 0,(1,.ptr 0 0)],[bkN 30 [.is 1 (.dat Yq2),.is 2 (.dat Yq2),.is 3 (.dat (.sl Yq7)),.is 4 (.dat (.sl Yq8)),.is 5 (.dat (.sl Yq3)),.is 6 (.dat (.sl Yq4)),.is 7 (.dat (.sl (.cons (.sl Yq6) (.one Yq5))))],bkM,bkM,bkM,bkM,bkM,bkM,bkM]⟩,[⟨[kdB 0],[bkC 0 30 [.is 1 (.any),.is 2 (.any),.is 3 (.any),.is 4 (.any),.is 5 (.any),.is 6 (.any),.is 7 (.any)],bkU 1,bkU 2,bkU 3,bkU 4,bkU 5,bkU 6,bkU 7]⟩],fun x=>ka x.1 x.2.1 x.2.2.1 x.2.2.2.1 x.2.2.2.2.1 x.2.2.2.2.2.1 x.2.2.2.2.2.2.1 x.2.2.2.2.2.2.2⟩
def oQ5:OkSpec Tryz.prog:=⟨sQ5,ae func76 hQ5 (by kernel_rfl) (by kernel_rfl),call76⟩
def fT (xa:Tq1):Int->Option (Int⊕(Unit⊕Tq6)):=fun i1=>cond (decide (i1 < (xa.2.2.1.length:Int))) ((aa xa.2.2.1 i1).bind fun x2=>(bc 1 1).bind fun _=>(ka x2.1 xa.1 xa.2.1 xa.2.2.1 xa.2.2.2.1 xa.2.2.2.2.1 xa.2.2.2.2.2.1 xa.2.2.2.2.2.2).bind fun t3=>(cond (!t3) (some (true)) ((ka x2.2 xa.1 xa.2.1 xa.2.2.1 xa.2.2.2.1 xa.2.2.2.2.1 xa.2.2.2.2.2.1 xa.2.2.2.2.2.2).bind fun t4=>some (!t4))).bind fun t5=>cond (t5) (some (.inr ((.inr ((7,1,i1,0)))))) (some (.inl (IntKind.wrap .i64 (i1 + 1))))) (some (.inr ((.inl ()))))
def fX (xa:Tq1):Option Tq6 :=
 cond (decide (65536 < (xa.2.2.1.length:Int))) (some ((6,1,0,0))) ((loop (fT xa) 0).bind fun o=>match o with | .inr r=>some r | .inl ()=>some ((0,0,0,0)))
def hQ6:Hn Tryz.prog := .tw 11 .nil (.jx [] ⟨[],[bkC 2 68 [.lit (.int .i64 0),.lit (.int .i64 0),.lit (.int .i64 0),.lit (.int .i64 0)]]⟩ [2,0] (.mc 0 0 1 (.mc 0 1 1 (.mc 0 2 1 (.mc 0 3 1 (.mc 0 4 1 (.mc 0 5 1 (.mc 0 6 1 (.lp ⟨[kdI 17],[bkC 2 68 [.lit (.int .i64 0),.lit (.int .i64 0),.lit (.int .i64 0),.lit (.int .i64 0)],bkC 0 30 [.is 2 (.any),.is 3 (.any),.is 4 (.any),.is 5 (.any),.is 6 (.any),.is 7 (.any),.is 8 (.any)],bkU 4,bkU 5,bkU 6,bkU 7,bkU 8,bkU 9,bkU 10]⟩ (.tw 18 (.cl oQ3 [] (.cl oQ5 [] (.gj 5 ⟨[kdB 35],[bkC 0 30 [.is 1 (.any),.is 2 (.any),.is 3 (.any),.is 4 (.any),.is 5 (.any),.is 6 (.any),.is 7 (.any)],bkU 4,bkU 5,bkU 6,bkU 7,bkU 8,bkU 9,bkU 10]⟩ [0] (.two 29 .nil (.cl oQ5 [] .nil)) (.tw 35 .nil .nil)))) .nil))))))))) .nil)
def sQ6:Spec:=⟨38,⟨[(0,.dat Yq1),(1,.nilp)],[]⟩,[⟨[(0,.agg [.dat Yq2,.dat Yq2,.dat Yq2,.dat Yq2])],[]⟩],fun x=>fX x⟩
def oQ6:OkSpec Tryz.prog:=⟨sQ6,ae func38 hQ6 (by kernel_rfl) (by kernel_rfl),call38⟩

def qp (xa:(Int×Bool)) (qa0:Int):Option Bool :=
 some ((decide (xa.1 < 0))||(decide (qa0<=xa.1)))
def hQ7:Hn Tryz.prog := .gp 4 .nil
def sQ7:Spec:=⟨137,⟨[(0,.dat Yq3),(1,.ptr 0 0)],[bkN 3 [.is 1 (.dat Yq2)],bkM]⟩,[⟨[kdB 0],[bkC 0 3 [.is 1 (.any)],bkU 1]⟩],fun x=>qp x.1 x.2⟩
def oQ7:OkSpec Tryz.prog:=⟨sQ7,ae func137 hQ7 (by kernel_rfl) (by kernel_rfl),call137⟩
def mb (xa:Tq3) (qa0:Int):Int->Option (Int⊕(Unit⊕Int)):=fun i1=>cond (decide (i1 < (xa.length:Int))) ((aa xa i1).bind fun x2=>(qp (x2.1,x2.2) qa0).bind fun t3=>cond (t3) (some (.inr ((.inr (i1))))) (some (.inl (IntKind.wrap .i64 (i1 + 1))))) (some (.inr ((.inl ()))))
def pY (xa:Tq3) (qa0:Int):Option Int :=
 (loop (mb xa qa0) 0).bind fun o=>match o with | .inr r=>some r | .inl ()=>some ((-1))
def hQ8:Hn Tryz.prog := .jx [] ⟨[],[bkC 0 3 [.is 1 (.any)],bkU 1]⟩ [0] (.lp ⟨[kdI 8],[bkC 0 3 [.is 1 (.any)],bkU 1]⟩ (.tw 9 (.cl oQ7 [] (.tw 16 .nil .nil)) .nil)) .nil
def sQ8:Spec:=⟨150,⟨[(0,.dat (.sl Yq3)),(1,.fn 137 [.ptr 0 0])],[bkN 3 [.is 1 (.dat Yq2)],bkM]⟩,[⟨[kdI 0],[bkC 0 3 [.is 1 (.any)],bkU 1]⟩],fun x=>pY x.1 x.2⟩
def oQ8:OkSpec Tryz.prog:=⟨sQ8,ae func150 hQ8 (by kernel_rfl) (by kernel_rfl),call150⟩

def pX (xa:Tq3) (qa0:Int):Option Bool :=
 (pY xa qa0).bind fun i10=>some (decide (0<=i10))
def hQ9:Hn Tryz.prog := .cl oQ8 [] .nil
def sQ9:Spec:=⟨136,⟨[(0,.dat (.sl Yq3)),(1,.fn 137 [.ptr 0 0])],[bkN 3 [.is 1 (.dat Yq2)],bkM]⟩,[⟨[kdB 0],[bkC 0 3 [.is 1 (.any)],bkU 1]⟩],fun x=>pX x.1 x.2⟩
def oQ9:OkSpec Tryz.prog:=⟨sQ9,ae func136 hQ9 (by kernel_rfl) (by kernel_rfl),call136⟩

def kI (xa:Tq3) (xb:Int):Option Bool :=
 (pX xa xb).bind fun t14=>some (!t14)
def Iw:Hn Tryz.prog := .mc 2 0 3 (.cl oQ9 [] .nil)
def Je:Spec:=⟨111,⟨[(0,.dat Yq8),kdI 1],[]⟩,[⟨[kdB 0],[]⟩],fun x=>kI x.1 x.2⟩
def zF:OkSpec Tryz.prog:=⟨Je,ae func111 Iw (by kernel_rfl) (by kernel_rfl),call111⟩

def dA (xa:Tq3) (xb:Int):Option Int :=
 cond (decide (16 < (xa.length:Int))) (some (6)) ((kI xa xb).bind fun t15=>cond (!t15) (some (7)) (some (0)))
def G6:Hn Tryz.prog := .tw 8 .nil (.cl zF [] (.tw 12 .nil .nil))
def Kz:Spec:=⟨77,⟨[(0,.dat Yq8),kdI 1],[]⟩,[⟨[kdI 0],[]⟩],fun x=>dA x.1 x.2⟩
def pK:OkSpec Tryz.prog:=⟨Kz,ae func77 G6 (by kernel_rfl) (by kernel_rfl),call77⟩
def fS (xa:Tq1):Int->Option (Int⊕(Unit⊕Tq6)):=fun i1=>cond (decide (i1 < (xa.2.2.2.1.length:Int))) ((aa xa.2.2.2.1 i1).bind fun x2=>(bc 1 1).bind fun _=>(dA x2 xa.2.1).bind fun i3=>cond (!decide (i3=0)) (some (.inr ((.inr ((i3,2,i1,0)))))) (some (.inl (IntKind.wrap .i64 (i1 + 1))))) (some (.inr ((.inl ()))))
def fY (xa:Tq1):Option Tq6 :=
 cond (decide ((xa.2.2.2.1.length:Int)=0)) (some ((14,2,0,0))) (cond (decide (65536 < (xa.2.2.2.1.length:Int))) (some ((6,2,0,0))) ((loop (fS xa) 0).bind fun o=>match o with | .inr r=>some r | .inl ()=>some ((0,0,0,0))))
def Hv:Hn Tryz.prog := .tw 11 .nil (.tw 16 .nil (.jx [] ⟨[],[bkC 2 68 [.lit (.int .i64 0),.lit (.int .i64 0),.lit (.int .i64 0),.lit (.int .i64 0)]]⟩ [2] (.lp ⟨[kdI 21],[bkC 2 68 [.lit (.int .i64 0),.lit (.int .i64 0),.lit (.int .i64 0),.lit (.int .i64 0)]]⟩ (.tw 22 (.cl oQ3 [] (.cl pK [] (.tw 33 .nil .nil))) .nil)) .nil))
def JD:Spec:=⟨39,⟨[(0,.dat Yq1),(1,.nilp)],[]⟩,[⟨[(0,.agg [.dat Yq2,.dat Yq2,.dat Yq2,.dat Yq2])],[]⟩],fun x=>fY x⟩
def IP:OkSpec Tryz.prog:=⟨JD,ae func39 Hv (by kernel_rfl) (by kernel_rfl),call39⟩

def qB (xa:(Int×Bool)) (xb:(Int×Bool)):Option Bool :=
 some (xa.2 == xb.2)
def Kg:Hn Tryz.prog := .nil
def HV:Spec:=⟨113,⟨[(0,.dat Yq3),(1,.dat Yq3)],[]⟩,[⟨[kdB 0],[]⟩],fun x=>qB x.1 x.2⟩
def Ko:OkSpec Tryz.prog:=⟨HV,ae func113 Kg (by kernel_rfl) (by kernel_rfl),call113⟩
def pT (xa:Tq3) (xb:Tq3):Int->Option (Int⊕(Unit⊕Bool)):=fun i1=>cond (decide (i1 < (xa.length:Int))) ((aa xa i1).bind fun x2=>(aa xb i1).bind fun x3=>(qB (x2.1,x2.2) (x3.1,x3.2)).bind fun t4=>cond (!t4) (some (.inr ((.inr (false))))) (some (.inl (IntKind.wrap .i64 (i1 + 1))))) (some (.inr ((.inl ()))))
def ma (xa:Tq3) (xb:Tq3):Option Bool :=
 cond (!decide ((xa.length:Int)=(xb.length:Int))) (some (false)) ((loop (pT xa xb) 0).bind fun o=>match o with | .inr r=>some r | .inl ()=>some (true))
def Ho:Hn Tryz.prog := .tw 14 .nil (.jx [] ⟨[],[]⟩ [] (.lp ⟨[kdI 17],[]⟩ (.tw 18 (.cl Ko [] (.tw 30 .nil .nil)) .nil)) .nil)
def HL:Spec:=⟨112,⟨[(0,.dat (.sl Yq3)),(1,.dat (.sl Yq3)),(2,.fn 113 [])],[]⟩,[⟨[kdB 0],[]⟩],fun x=>ma x.1 x.2⟩
def HZ:OkSpec Tryz.prog:=⟨HL,ae func112 Ho (by kernel_rfl) (by kernel_rfl),call112⟩

def dz (xa:Tq3) (xb:Tq3):Option Bool :=
 (ma xa xb).bind fun t14=>some (t14)
def Hi:Hn Tryz.prog := .cl HZ [] .nil
def Kb:Spec:=⟨78,⟨[(0,.dat Yq8),(1,.dat Yq8)],[]⟩,[⟨[kdB 0],[]⟩],fun x=>dz x.1 x.2⟩
def jV:OkSpec Tryz.prog:=⟨Kb,ae func78 Hi (by kernel_rfl) (by kernel_rfl),call78⟩

def eh (xa:Tq1):Option Tq6 :=
 (dA xa.2.2.2.2.1 xa.1).bind fun i81=>cond (decide (i81=0)) ((aa xa.2.2.2.1 0).bind fun x1=>(dz xa.2.2.2.2.1 x1).bind fun t2=>cond (!t2) (some ((8,3,0,0))) (some ((i81,3,0,0)))) (some ((i81,3,0,0)))
def Kh:Hn Tryz.prog := .cl pK [] (.mix [] [0,1,2,3,4,5,6,7,8,9] [10,11,12] [] (.two 15 (.cl jV [] (.tw 24 .nil .nil)) .nil))
def JI:Spec:=⟨40,⟨[(0,.dat Yq1),(1,.nilp)],[]⟩,[⟨[(0,.agg [.dat Yq2,.dat Yq2,.dat Yq2,.dat Yq2])],[]⟩],fun x=>eh x⟩
def Ks:OkSpec Tryz.prog:=⟨JI,ae func40 Kh (by kernel_rfl) (by kernel_rfl),call40⟩

def kd (xa:Int) (qa0:Int) (qa1:Tq7) (qa2:(List Tq3)) (qa3:Tq3):Option Bool :=
 some ((decide (0<=xa))&&(decide (xa < qa0)))
def I8:Hn Tryz.prog := .gp 4 .nil
def IE:Spec:=⟨114,⟨[kdI 0,(1,.ptr 0 0)],[bkN 55 [.is 1 (.dat Yq2),.is 2 (.dat (.sl Yq7)),.is 3 (.dat (.sl Yq8)),.is 4 (.dat (.sl Yq3))],bkM,bkM,bkM,bkM]⟩,[⟨[kdB 0],[bkC 0 55 [.is 1 (.any),.is 2 (.any),.is 3 (.any),.is 4 (.any)],bkU 1,bkU 2,bkU 3,bkU 4]⟩],fun x=>kd x.1 x.2.1 x.2.2.1 x.2.2.2.1 x.2.2.2.2⟩
def zA:OkSpec Tryz.prog:=⟨IE,ae func114 I8 (by kernel_rfl) (by kernel_rfl),call114⟩
def f9 (xa:Tq5):Int->Option (Int⊕(Unit⊕Int)):=fun i1=>cond (decide (i1 < (xa.2.1.length:Int))) ((aa xa.2.1 i1).bind fun x2=>(kd x2.1 xa.1 xa.2.1 xa.2.2.1 xa.2.2.2).bind fun t3=>(cond (!t3) (some (true)) ((kd x2.2 xa.1 xa.2.1 xa.2.2.1 xa.2.2.2).bind fun t4=>some (!t4))).bind fun t5=>cond (t5) (some (.inr ((.inr (7))))) (some (.inl (IntKind.wrap .i64 (i1 + 1))))) (some (.inr ((.inl ()))))
def ge (xa:Tq5):Int->Option (Int⊕(Unit⊕Int)):=fun i1=>cond (decide (i1 < (xa.2.2.1.length:Int))) ((aa xa.2.2.1 i1).bind fun x2=>(dA x2 xa.1).bind fun i3=>cond (!decide (i3=0)) (some (.inr ((.inr (i3))))) (some (.inl (IntKind.wrap .i64 (i1 + 1))))) (some (.inr ((.inl ()))))
def cZ (xa:Tq5):Option Int :=
 cond (decide (xa.1 < 0)) (some (7)) (cond (((decide (16 < xa.1))||(decide (16 < (xa.2.1.length:Int))))||(decide (16 < (xa.2.2.1.length:Int)))) (some (6)) ((loop (f9 xa) 0).bind fun o=>match o with | .inr r=>some r | .inl ()=>(loop (ge xa) 0).bind fun o=>match o with | .inr r=>some r | .inl ()=>(dA xa.2.2.2 xa.1).bind fun i1=>some (i1)))
def JX:Hn Tryz.prog := .tw 11 .nil (.wt 15 (.gp 4 (.wt 21 (.gp 4 (.tw 26 .nil (.jx [(0,0),(0,1),(0,2),(0,3)] ⟨[],[bkC 0 55 [.is 1 (.any),.is 2 (.any),.is 3 (.any),.is 4 (.any)],bkU 2,bkU 3,bkU 4,bkU 5]⟩ [0] (.lp ⟨[kdI 31],[bkC 0 55 [.is 1 (.any),.is 2 (.any),.is 3 (.any),.is 4 (.any)],bkU 2,bkU 3,bkU 4,bkU 5]⟩ (.tw 32 (.cl zA [] (.gj 5 ⟨[kdB 46],[bkC 0 55 [.is 1 (.any),.is 2 (.any),.is 3 (.any),.is 4 (.any)],bkU 2,bkU 3,bkU 4,bkU 5]⟩ [0] (.two 40 .nil (.cl zA [] .nil)) (.tw 46 .nil .nil))) .nil)) (.jx [] ⟨[],[]⟩ [] (.lp ⟨[kdI 51],[]⟩ (.tw 52 (.cl pK [] (.tw 60 .nil .nil)) .nil)) (.cl pK [] .nil))))))))
def Jv:Spec:=⟨79,⟨[(0,.dat Yq4)],[]⟩,[⟨[kdI 0],[]⟩],fun x=>cZ x⟩
def zI:OkSpec Tryz.prog:=⟨Jv,ae func79 JX (by kernel_rfl) (by kernel_rfl),call79⟩
def fU (xa:Tq1):Int->Option (Int⊕(Unit⊕Tq6)):=fun i1=>cond (decide (i1 < (xa.2.2.2.2.2.1.length:Int))) ((aa xa.2.2.2.2.2.1 i1).bind fun x2=>(bc 1 1).bind fun _=>(cZ (x2.1,x2.2.1,x2.2.2.1,x2.2.2.2)).bind fun i3=>cond (!decide (i3=0)) (some (.inr ((.inr ((i3,4,i1,0)))))) (some (.inl (IntKind.wrap .i64 (i1 + 1))))) (some (.inr ((.inl ()))))
def f8 (xa:Tq1):Option Tq6 :=
 cond (decide (65536 < (xa.2.2.2.2.2.1.length:Int))) (some ((6,4,0,0))) ((loop (fU xa) 0).bind fun o=>match o with | .inr r=>some r | .inl ()=>some ((0,0,0,0)))
def HT:Hn Tryz.prog := .tw 11 .nil (.jx [] ⟨[],[bkC 2 68 [.lit (.int .i64 0),.lit (.int .i64 0),.lit (.int .i64 0),.lit (.int .i64 0)]]⟩ [2,0] (.lp ⟨[kdI 16],[bkC 2 68 [.lit (.int .i64 0),.lit (.int .i64 0),.lit (.int .i64 0),.lit (.int .i64 0)]]⟩ (.tw 17 (.cl oQ3 [] (.cl zI [] (.tw 26 .nil .nil))) .nil)) .nil)
def Kk:Spec:=⟨41,⟨[(0,.dat Yq1),(1,.nilp)],[]⟩,[⟨[(0,.agg [.dat Yq2,.dat Yq2,.dat Yq2,.dat Yq2])],[]⟩],fun x=>f8 x⟩
def IO:OkSpec Tryz.prog:=⟨Kk,ae func41 HT (by kernel_rfl) (by kernel_rfl),call41⟩
def iu (xa:Tq1):(Int×Int)->Option ((Int×Int)⊕(Unit⊕Tq6)):=fun (i1,i2)=>cond (decide (i2 < (xa.2.2.2.2.2.2.length:Int))) ((aa xa.2.2.2.2.2.2 i2).bind fun x3=>(bc 1 1).bind fun _=>cond (decide (65536 < (IntKind.wrap .i64 (i1 + (x3.1.length:Int))))) (some (.inr ((.inr ((6,5,i2,0)))))) (some (.inl ((IntKind.wrap .i64 (i1 + (x3.1.length:Int)),IntKind.wrap .i64 (i2 + 1)))))) (some (.inr ((.inl ()))))
def fZ (xa:Tq1):Option Tq6 :=
 cond (decide ((xa.2.2.2.2.2.2.length:Int)=0)) (some ((14,5,0,0))) (cond (decide (65536 < (xa.2.2.2.2.2.2.length:Int))) (some ((6,5,0,0))) ((loop (iu xa) (0,0)).bind fun o=>match o with | .inr r=>some r | .inl ()=>some ((0,0,0,0))))
def Ja:Hn Tryz.prog := .tw 11 .nil (.tw 16 .nil (.jx [] ⟨[],[bkC 2 68 [.lit (.int .i64 0),.lit (.int .i64 0),.lit (.int .i64 0),.lit (.int .i64 0)]]⟩ [2,0] (.lp ⟨[kdI 5,kdI 21],[bkC 2 68 [.lit (.int .i64 0),.lit (.int .i64 0),.lit (.int .i64 0),.lit (.int .i64 0)]]⟩ (.tw 22 (.cl oQ3 [] (.tw 34 .nil .nil)) .nil)) .nil))
def IL:Spec:=⟨42,⟨[(0,.dat Yq1),(1,.nilp)],[]⟩,[⟨[(0,.agg [.dat Yq2,.dat Yq2,.dat Yq2,.dat Yq2])],[]⟩],fun x=>fZ x⟩
def HJ:OkSpec Tryz.prog:=⟨IL,ae func42 Ja (by kernel_rfl) (by kernel_rfl),call42⟩

def kl (xa:Int):Option (Bool×Bool×Bool×Bool) :=
 cond (decide (xa=0)) (some ((false,false,false,true))) (cond (decide (xa=1)) (some ((true,true,false,true))) ((cond (decide (xa=2)) (some (decide (xa=2))) (some (decide (xa=3))):Option Bool).bind fun t18=>cond (t18) (some ((true,true,true,true))) (cond (decide (xa=4)) (some ((false,true,false,true))) (cond (decide (xa=5)) (some ((true,false,false,true))) (some ((false,false,false,false)))))))
def GY:Hn Tryz.prog := .tw 5 .nil (.tw 8 .nil (.sq [] ⟨[kdB 11],[]⟩ [] (.tw 11 .nil .nil) (.tw 11 .nil (.tw 15 .nil (.tw 18 .nil .nil)))))
def JW:Spec:=⟨105,⟨[kdI 0],[]⟩,[⟨[(0,.tup [.agg [.dat .bool,.dat .bool,.dat .bool],.dat .bool])],[]⟩],fun x=>kl x⟩
def zO:OkSpec Tryz.prog:=⟨JW,ae func105 GY (by kernel_rfl) (by kernel_rfl),call105⟩

def nB (xa:Tq4) (xb:(Bool×Bool×Bool)):Option Tq4 :=
 (cond (xb.1) (some (xa.2.1)) (some (0)):Option Int).bind fun i22=>(cond (xb.2.1) (some (xa.2.2.1)) (some (0)):Option Int).bind fun i25=>cond (xb.2.2) (some ((xa.1,i22,i25,xa.2.2.2.1,xa.2.2.2.2))) (some ((xa.1,i22,i25,0,false)))
def HW:Hn Tryz.prog := .pl (.pl (.sq [(6,0)] ⟨[],[bkC 6 63 [.is 1 (.any),.dat Yq2,.lit (.int .i64 0),.lit (.int .i64 0),.lit (.bool false)],bkU 9]⟩ [6] (.tw 10 .nil .nil) (.sq [(6,1)] ⟨[],[bkC 6 63 [.is 1 (.any),.is 2 (.any),.dat Yq2,.lit (.int .i64 0),.lit (.bool false)],bkU 9,bkU 11]⟩ [6] (.tw 15 .nil .nil) (.tw 20 (.mix [([0,1,2,3,4],5)] [6] [7] [6] .nil) .nil))))
def KE:Spec:=⟨147,⟨[(0,.dat Yq6),(1,.dat (.cons .bool (.cons .bool (.one .bool))))],[]⟩,[⟨[(0,.agg [.dat Yq2,.dat Yq2,.dat Yq2,.dat Yq2,.dat .bool])],[]⟩],fun x=>nB x.1 x.2⟩
def Id:OkSpec Tryz.prog:=⟨KE,ae func147 HW (by kernel_rfl) (by kernel_rfl),call147⟩

def kK (xa:Tq4):Option (Bool×Bool×Bool×Int) :=
 (kl xa.1).bind fun (t67,t68,t69,t70)=>cond (!t70) (some ((false,false,false,3))) ((nB (xa.1,xa.2.1,xa.2.2.1,xa.2.2.2.1,xa.2.2.2.2) (t67,t68,t69)).bind fun (i1,i2,i3,i4,t5)=>cond (!((decide (xa.1=i1))&&((decide (xa.2.1=i2))&&((decide (xa.2.2.1=i3))&&((decide (xa.2.2.2.1=i4))&&(xa.2.2.2.2 == t5)))))) (some ((false,false,false,3))) (some ((t67,t68,t69,0))))
def JS:Hn Tryz.prog := .cl zO [] (.mix [([0,1,2,3,4,5],6)] [7,8] [] [] (.two 14 .nil (.cl Id [] (.tw 20 .nil .nil))))
def Hr:Spec:=⟨129,⟨[(0,.dat Yq6)],[]⟩,[⟨[(0,.tup [.agg [.dat .bool,.dat .bool,.dat .bool],.dat Yq2])],[]⟩],fun x=>kK x⟩
def zz:OkSpec Tryz.prog:=⟨Hr,ae func129 JS (by kernel_rfl) (by kernel_rfl),call129⟩

def mF (xa:Int) (qa0:(List Tq3)):Option Bool :=
 some ((decide (0<=xa))&&(decide (xa < (qa0.length:Int))))
def Jj:Hn Tryz.prog := .gp 4 .nil
def G2:Spec:=⟨138,⟨[kdI 0,(1,.ptr 0 0)],[bkN 23 [.is 1 (.dat (.sl Yq8))],bkM]⟩,[⟨[kdB 0],[bkC 0 23 [.is 1 (.any)],bkU 1]⟩],fun x=>mF x.1 x.2⟩
def zw:OkSpec Tryz.prog:=⟨G2,ae func138 Jj (by kernel_rfl) (by kernel_rfl),call138⟩
def Aa (xa:Tq3) (xb:Tq3) (xc:Int) (xd:Int):Tq9->Option (Tq9⊕(List Tq4)):=fun (l1,i2)=>cond (decide (i2 < (xa.length:Int))) ((aa xa i2).bind fun x3=>(aa xb i2).bind fun x4=>(app l1 (([(x3.1,x4.1,xc,IntKind.wrap .i64 (xd + i2),false)]:List Tq4))).bind fun z5=>(aa xb i2).bind fun x6=>cond (x6.2) ((aa xb i2).bind fun x7=>(aa xa i2).bind fun x8=>(app z5 (([(x7.1,x8.1,xc,IntKind.wrap .i64 (xd + i2),true)]:List Tq4))).bind fun z9=>some (.inl ((z9,IntKind.wrap .i64 (i2 + 1))))) (some (.inl ((z5,IntKind.wrap .i64 (i2 + 1)))))) (some (.inr (l1)))
def kj (xa:Tq3) (xb:Tq3) (xc:Int) (xd:Int):Option ((List Tq4)) :=
 (loop (Aa xa xb xc xd) ([],0)).bind fun l1=>some (l1)
def Kw:Hn Tryz.prog := .jn [] ⟨[(9,.own 225 Yq6)],[]⟩ [] (.lp ⟨[(9,.own 225 Yq6),kdI 13],[]⟩ (.tw 14 (.mix [([0,1,2,3,4,5,6,7,8,9,10,11,12,13,14,15],16)] [] [17,18] [] (.tw 38 (.mix [([0,1,2,3,4,5,6,7,8,9,10,11,12,13,14,15],16)] [] [17,18] [] .nil) .nil)) .nil)) .nil
def Jr:Spec:=⟨151,⟨[(0,.dat (.sl Yq3)),(1,.dat (.sl Yq3)),kdI 2,kdI 3],[]⟩,[⟨[(0,.own 225 Yq6)],[]⟩],fun x=>kj x.1 x.2.1 x.2.2.1 x.2.2.2⟩
def uq:OkSpec Tryz.prog:=⟨Jr,ae func151 Kw (by kernel_rfl) (by kernel_rfl),call151⟩

def gm (xa:Tq3) (xb:Tq3) (xc:Int) (xd:Int):Option (Tq9) :=
 (dz xa xb).bind fun t30=>cond (!t30) (some (([],8))) ((kj xa xb xc xd).bind fun l38=>some ((l38,0)))
def Hl:Hn Tryz.prog := .cl jV [] (.tw 13 .nil (.cl uq [] .nil))
def J0:Spec:=⟨139,⟨[(0,.dat Yq8),(1,.dat Yq8),kdI 2,kdI 3],[]⟩,[⟨[(0,.tup [.own 225 Yq6,.dat Yq2])],[]⟩],fun x=>gm x.1 x.2.1 x.2.2.1 x.2.2.2⟩
def pQ:OkSpec Tryz.prog:=⟨J0,ae func139 Hl (by kernel_rfl) (by kernel_rfl),call139⟩
def uQ (xa:Tq3) (xc:Bool):(Tq3×Int)->Option ((Tq3×Int)⊕Tq3):=fun (l1,i2)=>cond (decide (i2 < (xa.length:Int))) ((aa xa i2).bind fun x3=>(app l1 (([(x3.1,x3.2||xc)]:List (Int×Bool)))).bind fun z4=>some (.inl ((z4,IntKind.wrap .i64 (i2 + 1))))) (some (.inr (l1)))
def nD (xa:Tq3) (xb:Int) (xc:Bool):Option (Tq3) :=
 (loop (uQ xa xc) ((([(xb,false)]:List (Int×Bool)),0))).bind fun l1=>some (l1)
def GJ:Hn Tryz.prog := .jn [] ⟨[(7,.own 95 Yq3),(12,.any)],[]⟩ [4,0] (.lp ⟨[(7,.own 95 Yq3),kdI 16],[]⟩ (.tw 17 (.wt 25 (.gp 1 .nil)) .nil)) .nil
def IG:Spec:=⟨152,⟨[(0,.dat Yq8),kdI 1,kdB 2],[]⟩,[⟨[(0,.agg [.own 95 Yq3])],[]⟩],fun x=>nD x.1 x.2.1 x.2.2⟩
def I4:OkSpec Tryz.prog:=⟨IG,ae func152 GJ (by kernel_rfl) (by kernel_rfl),call152⟩

def m7 (xa:Tq3) (xb:Tq3) (xc:Int) (xd:Bool):Option (Tq9) :=
 (nD xa xc xd).bind fun l1=>(dz xb l1).bind fun t2=>cond (!t2) (some (([],8))) ((aa xb 0).bind fun x3=>(subL xb 1 (xb.length:Int)).bind fun y4=>(kj xa y4 1 1).bind fun l5=>(app (([(xc,x3.1,2,0,false)]:List Tq4)) l5).bind fun z6=>some ((z6,0)))
def JK:Hn Tryz.prog := .mix [([0,1,2,3],4)] [] [5,6] [] (.cl I4 [] (.cl jV [4] (.tw 17 .nil (.mix [([0,1,2,3,4,5],6)] [] [7,8,9] [] (.cl uq [] .nil)))))
def Gx:Spec:=⟨140,⟨[(0,.dat Yq8),(1,.dat Yq8),kdI 2,kdB 3],[]⟩,[⟨[(0,.tup [.own 225 Yq6,.dat Yq2])],[]⟩],fun x=>m7 x.1 x.2.1 x.2.2.1 x.2.2.2⟩
def GH:OkSpec Tryz.prog:=⟨Gx,ae func140 JK (by kernel_rfl) (by kernel_rfl),call140⟩

def qn (xa:(Int×Bool)):Option Bool :=
 some (!xa.2)
def Ir:Hn Tryz.prog := .nil
def I6:Spec:=⟨158,⟨[(0,.dat Yq3)],[]⟩,[⟨[kdB 0],[]⟩],fun x=>qn x⟩
def Ke:OkSpec Tryz.prog:=⟨I6,ae func158 Ir (by kernel_rfl) (by kernel_rfl),call158⟩
def pU (xa:Tq3):Int->Option (Int⊕(Unit⊕Int)):=fun i1=>cond (decide (i1 < (xa.length:Int))) ((aa xa i1).bind fun x2=>(qn (x2.1,x2.2)).bind fun t3=>cond (t3) (some (.inr ((.inr (i1))))) (some (.inl (IntKind.wrap .i64 (i1 + 1))))) (some (.inr ((.inl ()))))
def pW (xa:Tq3):Option Int :=
 (loop (pU xa) 0).bind fun o=>match o with | .inr r=>some r | .inl ()=>some ((-1))
def I2:Hn Tryz.prog := .jx [] ⟨[],[]⟩ [] (.lp ⟨[kdI 8],[]⟩ (.tw 9 (.cl Ke [] (.tw 16 .nil .nil)) .nil)) .nil
def Jl:Spec:=⟨150,⟨[(0,.dat (.sl Yq3)),(1,.fn 158 [])],[]⟩,[⟨[kdI 0],[]⟩],fun x=>pW x⟩
def Ky:OkSpec Tryz.prog:=⟨Jl,ae func150 I2 (by kernel_rfl) (by kernel_rfl),call150⟩

def pV (xa:Tq3):Option Bool :=
 (pW xa).bind fun i10=>some (decide (0<=i10))
def IQ:Hn Tryz.prog := .cl Ky [] .nil
def JV:Spec:=⟨136,⟨[(0,.dat (.sl Yq3)),(1,.fn 158 [])],[]⟩,[⟨[kdB 0],[]⟩],fun x=>pV x⟩
def IT:OkSpec Tryz.prog:=⟨JV,ae func136 IQ (by kernel_rfl) (by kernel_rfl),call136⟩

def mD (xa:Tq3) (xb:Tq3) (xc:Bool):Option Bool :=
 (cond (decide ((xa.length:Int)=0)) (some (true)) ((aa xa 0).bind fun x70=>some (x70.2))).bind fun t68=>(cond (t68) (some (true)) ((dz xa xb).bind fun t90=>some (!t90))).bind fun t86=>cond (t86) (some (false)) ((subL xa 1 (xa.length:Int)).bind fun y95=>(pV y95).bind fun t1=>some ((!xc)||(!t1)))
def HB:Hn Tryz.prog := .gj 5 ⟨[kdB 18],[]⟩ [] (.two 12 .nil .nil) (.wt 19 (.gj 4 ⟨[kdB 24],[]⟩ [] (.two 19 .nil (.cl jV [] .nil)) (.tw 24 .nil (.cl IT [] (.gp 2 .nil)))))
def In:Spec:=⟨153,⟨[(0,.dat Yq8),(1,.dat Yq8),kdB 2],[]⟩,[⟨[kdB 0],[]⟩],fun x=>mD x.1 x.2.1 x.2.2⟩
def GI:OkSpec Tryz.prog:=⟨In,ae func153 HB (by kernel_rfl) (by kernel_rfl),call153⟩

def m5 (xa:Tq3) (xb:Tq3) (xc:Int) (xd:Bool):Option (Tq9) :=
 (mD xa xb xd).bind fun t1=>cond (!t1) (some (([],8))) ((aa xa 0).bind fun x2=>(aa xb 0).bind fun x3=>(subL xa 1 (xa.length:Int)).bind fun y4=>(subL xb 1 (xb.length:Int)).bind fun y5=>(kj y4 y5 1 1).bind fun l6=>(app (([(x2.1,xc,3,0,false),(xc,x3.1,2,0,false)]:List Tq4)) l6).bind fun z7=>some ((z7,0)))
def GS:Hn Tryz.prog := .cl GI [] (.tw 15 .nil (.mix [([0,1,2,3,4,5,6,7,8,9,10,11,12,13],14)] [15] [] [] (.mix [([0,1,2,3,4,5,6],7)] [] [8,9,10] [] (.cl uq [] .nil))))
def Hq:Spec:=⟨141,⟨[(0,.dat Yq8),(1,.dat Yq8),kdI 2,kdB 3],[]⟩,[⟨[(0,.tup [.own 225 Yq6,.dat Yq2])],[]⟩],fun x=>m5 x.1 x.2.1 x.2.2.1 x.2.2.2⟩
def GE:OkSpec Tryz.prog:=⟨Hq,ae func141 GS (by kernel_rfl) (by kernel_rfl),call141⟩

def fc (xa:Tq4) (xb:(List Tq3)) (xc:Int):Option (Tq9) :=
 (kK (xa.1,xa.2.1,xa.2.2.1,xa.2.2.2.1,xa.2.2.2.2)).bind fun (t1,t2,t3,i4)=>cond (!decide (i4=0)) (some (([],i4))) ((cond (t1) ((mF xa.2.1 xb).bind fun t5=>some (!t5)) (some (false))).bind fun t6=>(cond (t6) (some (true)) ((cond (t2) ((mF xa.2.2.1 xb).bind fun t7=>some (!t7)) (some (false))).bind fun t8=>some (t8))).bind fun t9=>cond (t9||(t3&&((decide (xa.2.2.2.1 < 0))||(decide (xc<=xa.2.2.2.1))))) (some (([],7))) (cond (decide (xa.1=1)) ((aa xb xa.2.2.1).bind fun x10=>(aa xb xa.2.1).bind fun x11=>(gm x10 x11 1 0).bind fun (l12,i13)=>some ((l12,i13))) (cond (decide (xa.1=2)) ((aa xb xa.2.2.1).bind fun x14=>(aa xb xa.2.1).bind fun x15=>(m7 x14 x15 xa.2.2.2.1 xa.2.2.2.2).bind fun (l16,i17)=>some ((l16,i17))) (cond (decide (xa.1=3)) ((aa xb xa.2.2.1).bind fun x18=>(aa xb xa.2.1).bind fun x19=>(m5 x18 x19 xa.2.2.2.1 xa.2.2.2.2).bind fun (l20,i21)=>some ((l20,i21))) (some (([],0)))))))
def Iz:Hn Tryz.prog := .cl zz [] (.tw 17 .nil (.wt 22 (.mc 2 0 3 (.gj 5 ⟨[kdB 28],[bkC 2 23 [.is 1 (.any)],bkU 7]⟩ [2] (.two 22 (.cl zw [] .nil) .nil) (.wt 29 (.gj 9 ⟨[kdB 39],[bkC 2 23 [.is 1 (.any)],bkU 7]⟩ [2] (.two 29 .nil (.wt 32 (.gj 5 ⟨[kdB 38],[bkC 2 23 [.is 1 (.any)],bkU 7]⟩ [2] (.two 32 (.cl zw [] .nil) .nil) .nil))) (.wt 40 (.gp 13 (.tw 54 .nil (.tw 57 (.mix [([0,1,2,3,4,5,6,7,8,9],10)] [11,12,13,14] [] [] (.cl pQ [] .nil)) (.tw 72 (.mix [([0,1,2,3,4,5,6,7,8,9,10,11,12,13],14)] [15,16,17,18] [] [] (.cl GH [] .nil)) (.tw 91 (.mix [([0,1,2,3,4,5,6,7,8,9,10,11,12,13],14)] [15,16,17,18] [] [] (.cl GE [] .nil)) .nil))))))))))))
def Iq:Spec:=⟨115,⟨[(0,.dat Yq6),(1,.dat (.sl Yq8)),kdI 2],[]⟩,[⟨[(0,.tup [.own 225 Yq6,.dat Yq2])],[]⟩],fun x=>fc x.1 x.2.1 x.2.2⟩
def Jk:OkSpec Tryz.prog:=⟨Iq,ae func115 Iz (by kernel_rfl) (by kernel_rfl),call115⟩

def nf (xa:Tq4) (xb:(List Tq3)) (xc:Int):Option Int :=
 (fc (xa.1,xa.2.1,xa.2.2.1,xa.2.2.2.1,xa.2.2.2.2) xb xc).bind fun (l17,i18)=>some (i18)
def Iu:Hn Tryz.prog := .cl Jk [] .nil
def IH:Spec:=⟨80,⟨[(0,.dat Yq6),(1,.dat (.sl Yq8)),kdI 2],[]⟩,[⟨[kdI 0],[]⟩],fun x=>nf x.1 x.2.1 x.2.2⟩
def Iy:OkSpec Tryz.prog:=⟨IH,ae func80 Iu (by kernel_rfl) (by kernel_rfl),call80⟩

def iM (xa:Tq8):Option Bool :=
 some (((!decide (xa.2.1=0))||(!decide (xa.2.2.1=0)))||(decide (0 < (xa.2.2.2.2.2.length:Int))))
def IJ:Hn Tryz.prog := .gp 3 (.wt 11 (.gp 4 .nil))
def Hb:Spec:=⟨148,⟨[(0,.dat Yq5)],[]⟩,[⟨[kdB 0],[]⟩],fun x=>iM x⟩
def tY:OkSpec Tryz.prog:=⟨Hb,ae func148 IJ (by kernel_rfl) (by kernel_rfl),call148⟩

def fe (xa:Tq8):Option Int :=
 (cond (decide (xa.1=1)) ((cond ((decide ((xa.2.2.2.1.length:Int)=1))&&(decide ((xa.2.2.2.2.1.length:Int)=0))) ((iM (xa.1,xa.2.1,xa.2.2.1,xa.2.2.2.1,xa.2.2.2.2.1,xa.2.2.2.2.2)).bind fun t1=>some (!t1)) (some (false))).bind fun t2=>some (t2)) (cond (decide (xa.1=2)) ((cond (decide (0 < (xa.2.2.2.1.length:Int))) ((iM (xa.1,xa.2.1,xa.2.2.1,xa.2.2.2.1,xa.2.2.2.2.1,xa.2.2.2.2.2)).bind fun t3=>some (!t3)) (some (false))).bind fun t4=>some (t4)) (cond (decide (xa.1=3)) ((cond ((decide ((xa.2.2.2.1.length:Int)=0))&&(decide ((xa.2.2.2.2.1.length:Int)=0))) ((iM (xa.1,xa.2.1,xa.2.2.1,xa.2.2.2.1,xa.2.2.2.2.1,xa.2.2.2.2.2)).bind fun t5=>some (!t5)) (some (false))).bind fun t6=>some (t6)) (cond (decide (xa.1=4)) (some (decide ((xa.2.2.2.1.length:Int)=1))) (some (false))))):Option Bool).bind fun t7=>cond (!t7) (some (3)) (cond (((decide (16 < (xa.2.2.2.1.length:Int)))||(decide (16 < (xa.2.2.2.2.1.length:Int))))||(decide (16 < (xa.2.2.2.2.2.length:Int)))) (some (6)) (some (0)))
def H5:Hn Tryz.prog := .pl (.pl (.sq [] ⟨[kdB 3],[]⟩ [] (.tw 6 (.wt 12 (.gp 4 (.wt 18 (.gj 3 ⟨[kdB 22],[]⟩ [] (.two 18 (.cl tY [] .nil) .nil) .nil)))) (.tw 23 (.wt 29 (.gj 3 ⟨[kdB 33],[]⟩ [] (.two 29 (.cl tY [] .nil) .nil) .nil)) (.tw 34 (.wt 40 (.gp 4 (.wt 46 (.gj 3 ⟨[kdB 50],[]⟩ [] (.two 46 (.cl tY [] .nil) .nil) .nil)))) (.tw 51 .nil .nil)))) (.tw 58 .nil (.wt 63 (.gp 4 (.wt 69 (.gp 4 (.tw 74 .nil .nil))))))))
def GV:Spec:=⟨130,⟨[(0,.dat Yq5)],[]⟩,[⟨[kdI 0],[]⟩],fun x=>fe x⟩
def zy:OkSpec Tryz.prog:=⟨GV,ae func130 H5 (by kernel_rfl) (by kernel_rfl),call130⟩

def iH (xa:Int):Option Int :=
 some (xa)
def IW:Hn Tryz.prog := .nil
def HK:Spec:=⟨154,⟨[kdI 0],[]⟩,[⟨[(0,.fn 159 [.ptr 0 0])],[bkN 3 [.dat Yq2]]⟩],fun x=>iH x⟩
def pN:OkSpec Tryz.prog:=⟨HK,ae func154 IW (by kernel_rfl) (by kernel_rfl),call154⟩

def ir (xa:Int) (qa0:Int):Option Bool :=
 some ((decide (xa < 0))||(decide (qa0<=xa)))
def Kj:Hn Tryz.prog := .gp 3 .nil
def He:Spec:=⟨159,⟨[kdI 0,(1,.ptr 0 0)],[bkN 3 [.is 1 (.dat Yq2)],bkM]⟩,[⟨[kdB 0],[bkC 0 3 [.is 1 (.any)],bkU 1]⟩],fun x=>ir x.1 x.2⟩
def ue:OkSpec Tryz.prog:=⟨He,ae func159 Kj (by kernel_rfl) (by kernel_rfl),call159⟩
def me (xa:(List Int)) (qa0:Int):Int->Option (Int⊕(Unit⊕Int)):=fun i1=>cond (decide (i1 < (xa.length:Int))) ((aa xa i1).bind fun x2=>(ir x2 qa0).bind fun t3=>cond (t3) (some (.inr ((.inr (i1))))) (some (.inl (IntKind.wrap .i64 (i1 + 1))))) (some (.inr ((.inl ()))))
def pZ (xa:(List Int)) (qa0:Int):Option Int :=
 (loop (me xa qa0) 0).bind fun o=>match o with | .inr r=>some r | .inl ()=>some ((-1))
def Iv:Hn Tryz.prog := .jx [] ⟨[],[bkC 0 3 [.is 1 (.any)],bkU 1]⟩ [0] (.lp ⟨[kdI 8],[bkC 0 3 [.is 1 (.any)],bkU 1]⟩ (.tw 9 (.cl ue [] (.tw 16 .nil .nil)) .nil)) .nil
def Js:Spec:=⟨160,⟨[(0,.dat (.sl Yq2)),(1,.fn 159 [.ptr 0 0])],[bkN 3 [.is 1 (.dat Yq2)],bkM]⟩,[⟨[kdI 0],[bkC 0 3 [.is 1 (.any)],bkU 1]⟩],fun x=>pZ x.1 x.2⟩
def Ie:OkSpec Tryz.prog:=⟨Js,ae func160 Iv (by kernel_rfl) (by kernel_rfl),call160⟩

def im (xa:(List Int)) (qa0:Int):Option Bool :=
 (pZ xa qa0).bind fun i10=>some (decide (0<=i10))
def GL:Hn Tryz.prog := .cl Ie [] .nil
def G9:Spec:=⟨155,⟨[(0,.dat (.sl Yq2)),(1,.fn 159 [.ptr 0 0])],[bkN 3 [.is 1 (.dat Yq2)],bkM]⟩,[⟨[kdB 0],[bkC 0 3 [.is 1 (.any)],bkU 1]⟩],fun x=>im x.1 x.2⟩
def ug:OkSpec Tryz.prog:=⟨G9,ae func155 GL (by kernel_rfl) (by kernel_rfl),call155⟩

def m9 (xa:Tq8) (xb:jK):Option Bool :=
 (iH (xb.2.2.1.length:Int)).bind fun i1=>(iH xb.1).bind fun i2=>(im xa.2.2.2.1 i2).bind fun t3=>cond (t3) (some (false)) ((im xa.2.2.2.2.1 i1).bind fun t4=>cond (t4) (some (false)) ((iH xb.2.1).bind fun i5=>(im xa.2.2.2.2.2 i5).bind fun t6=>cond (t6) (some (false)) (cond (!decide (xa.1=4)) (some (true)) ((ir xa.2.2.1 i1).bind fun t7=>cond (!t7) ((iH (xb.2.2.2.2.length:Int)).bind fun i8=>(ir xa.2.1 i8).bind fun t9=>some (!t9)) (some (false))))))
def G0:Hn Tryz.prog := .cl pN [] (.mix [([0,1,2,3],4),([],5),([6,7,8,9],10),([11,12,13,14,15,16],17)] [] [18,19] [4] (.cl pN [] (.mc 6 0 7 (.cl ug [] (.two 16 .nil (.wt 1000011 (.mc 4 0 5 (.cl ug [] (.two 22 .nil (.cl pN [] (.mc 14 0 15 (.cl ug [] (.tw 29 .nil (.mix [([0,1,2,3,4,5,6],7),([8,9,10,11,12,14,15],13)] [] [16,17,18,19,20] [4] (.two 33 .nil (.cl ue [] (.two 39 (.cl pN [] (.mc 21 0 22 (.cl ue [] .nil))) .nil)))))))))))))))))
def GC:Spec:=⟨142,⟨[(0,.dat Yq5),(1,.dat (.cons Yq2 (.cons Yq2 (.cons (.sl Yq8) (.cons Yq8 (.one (.sl Yq4)))))))],[]⟩,[⟨[kdB 0],[]⟩],fun x=>m9 x.1 x.2⟩
def If:OkSpec Tryz.prog:=⟨GC,ae func142 G0 (by kernel_rfl) (by kernel_rfl),call142⟩
def mK (xa:Tq5) (xc:(List Tq3)):Int->Option (Int⊕(Unit⊕Int)):=fun i1=>cond (decide (i1 < (xa.2.2.1.length:Int))) ((aa xa.2.2.1 i1).bind fun x2=>(aa xc i1).bind fun x3=>(dz x3 x2).bind fun t4=>cond (!t4) (some (.inr ((.inr (8))))) (some (.inl (IntKind.wrap .i64 (i1 + 1))))) (some (.inr ((.inl ()))))
def qA (xa:Tq5) (xb:(List Int)) (xc:(List Tq3)) (xd:Tq3):Option Int :=
 (cZ (xa.1,xa.2.1,xa.2.2.1,xa.2.2.2)).bind fun i1=>cond (!decide (i1=0)) (some (i1)) (cond ((!decide ((xb.length:Int)=xa.1))||(!decide ((xc.length:Int)=(xa.2.2.1.length:Int)))) (some (2)) ((loop (mK xa xc) 0).bind fun o=>match o with | .inr r=>some r | .inl ()=>(dz xd xa.2.2.2).bind fun t2=>cond (!t2) (some (8)) (some (0))))
def Hy:Hn Tryz.prog := .cl zI [] (.tw 15 .nil (.wt 22 (.gp 6 (.tw 29 .nil (.jx [] ⟨[],[]⟩ [] (.lp ⟨[kdI 33],[]⟩ (.tw 34 (.mix [] [0,1,2,3,4] [5,6] [] (.cl jV [] (.tw 44 .nil .nil))) .nil)) (.cl jV [] (.tw 50 .nil .nil)))))))
def GZ:Spec:=⟨156,⟨[(0,.dat Yq4),(1,.dat (.sl Yq2)),(2,.dat (.sl Yq8)),(3,.dat Yq8)],[]⟩,[⟨[kdI 0],[]⟩],fun x=>qA x.1 x.2.1 x.2.2.1 x.2.2.2⟩
def HI:OkSpec Tryz.prog:=⟨GZ,ae func156 Hy (by kernel_rfl) (by kernel_rfl),call156⟩

def qd (xa:Tq3):Option (Tq3) :=
 fN xa (some ([])) ((app (([]:List (Int×Bool))) xa).bind fun z21=>some (z21))
def IK:Hn Tryz.prog := .two 4 .nil .nil
def JZ:Spec:=⟨162,⟨[(0,.dat (.sl Yq3))],[]⟩,[⟨[(0,.own 95 Yq3)],[]⟩],fun x=>qd x⟩
def GG:OkSpec Tryz.prog:=⟨JZ,ae func162 IK (by kernel_rfl) (by kernel_rfl),call162⟩

def ni (xa:Tq3):Option (Tq3) :=
 (qd xa).bind fun l22=>some (l22)
def G1:Hn Tryz.prog := .cl GG [] .nil
def Kl:Spec:=⟨161,⟨[(0,.dat Yq8)],[]⟩,[⟨[(0,.agg [.own 95 Yq3])],[]⟩],fun x=>ni x⟩
def IS:OkSpec Tryz.prog:=⟨Kl,ae func161 G1 (by kernel_rfl) (by kernel_rfl),call161⟩
def kw (xb:(List Int)) (l1:Tq3):(Tq3×Int)->Option ((Tq3×Int)⊕Tq3):=fun (l2,i3)=>cond (decide (i3 < (l1.length:Int))) ((aa l2 i3).bind fun x4=>(aa xb x4.1).bind fun x5=>(aa l2 i3).bind fun x6=>(some (l2.set i3.toNat (x5,x6.2))).bind fun z7=>some (.inl ((z7,IntKind.wrap .i64 (i3 + 1))))) (some (.inr (l2)))
def kL (xa:Tq3) (xb:(List Int)):Option ((Tq3×Int)) :=
 (kI xa (xb.length:Int)).bind fun t1=>cond (!t1) (some (([],7))) ((ni xa).bind fun l2=>(loop (kw xb l2) (l2,0)).bind fun l3=>some ((l3,0)))
def H6:Hn Tryz.prog := .cl zF [] (.tw 13 .nil (.cl IS [] (.jn [] ⟨[(16,.any),(18,.any)],[bkC 6 26 [.own 95 Yq3]]⟩ [6,4,0] (.lp ⟨[(18,.own 95 Yq3),kdI 20],[bkC 6 26 [.al 0]]⟩ (.tw 21 (.mix [] [0,1,2,3,4,5,6,7,8,9] [10] [] .nil) .nil)) .nil)))
def HR:Spec:=⟨157,⟨[(0,.dat Yq8),(1,.dat (.sl Yq2))],[]⟩,[⟨[(0,.tup [.agg [.own 95 Yq3],.dat Yq2])],[]⟩],fun x=>kL x.1 x.2⟩
def zN:OkSpec Tryz.prog:=⟨HR,ae func157 H6 (by kernel_rfl) (by kernel_rfl),call157⟩
def nc (xa:Tq5) (xb:(List Int)):Tq9->Option (Tq9⊕(List Tq4)):=fun (l1,i2)=>cond (decide (i2 < (xa.2.1.length:Int))) ((aa xa.2.1 i2).bind fun x3=>(aa xb x3.1).bind fun x4=>(aa xb x3.2).bind fun x5=>(app l1 (([(x4,x5,4,i2,false)]:List Tq4))).bind fun z6=>some (.inl ((z6,IntKind.wrap .i64 (i2 + 1))))) (some (.inr (l1)))
def kC (xa:Tq5) (xb:(List Int)) (xc:(List Tq3)):Tq9->Option (Tq9⊕(List Tq4)):=fun (l1,i2)=>cond (decide (i2 < (xa.2.2.1.length:Int))) ((aa xa.2.2.1 i2).bind fun x3=>(kL x3 xb).bind fun (l4,i5)=>(aa xc i2).bind fun x6=>(gm x6 l4 5 (IntKind.wrap .i64 (16 * i2))).bind fun (l7,i8)=>(app l1 l7).bind fun z9=>some (.inl ((z9,IntKind.wrap .i64 (i2 + 1))))) (some (.inr (l1)))
def kQ (xa:Tq5) (xb:(List Int)) (xc:(List Tq3)) (xd:Tq3):Option (Tq9) :=
 (qA (xa.1,xa.2.1,xa.2.2.1,xa.2.2.2) xb xc xd).bind fun i1=>cond (!decide (i1=0)) (some (([],i1))) ((loop (nc xa xb) ([],0)).bind fun l2=>(loop (kC xa xb xc) (l2,0)).bind fun l3=>(kL xa.2.2.2 xb).bind fun (l4,i5)=>(gm l4 xd 6 0).bind fun (l6,i7)=>(app l3 l6).bind fun z8=>some ((z8,0)))
def Hk:Hn Tryz.prog := .cl HI [] (.tw 30 .nil (.jn [] ⟨[(11,.own 225 Yq6)],[]⟩ [] (.lp ⟨[(11,.own 225 Yq6),kdI 35],[]⟩ (.tw 36 (.mix [([0,1,2,3,4,5,6,7,8,9,10,11,12],13)] [] [14,15] [] .nil) .nil)) (.jn [] ⟨[(11,.own 225 Yq6)],[]⟩ [4] (.lp ⟨[(11,.own 225 Yq6),kdI 59],[]⟩ (.tw 60 (.cl zN [] (.per 11 12 (.mix [([0,1,2,3,4,5,6],7)] [8,9,10,11,12] [] [] (.cl pQ [] .nil)))) .nil)) (.cl zN [] (.per 8 9 (.cl pQ [] .nil))))))
def Hz:Spec:=⟨143,⟨[(0,.dat Yq4),(1,.dat (.sl Yq2)),(2,.dat (.sl Yq8)),(3,.dat Yq8)],[]⟩,[⟨[(0,.tup [.own 225 Yq6,.dat Yq2])],[]⟩],fun x=>kQ x.1 x.2.1 x.2.2.1 x.2.2.2⟩
def IA:OkSpec Tryz.prog:=⟨Hz,ae func143 Hk (by kernel_rfl) (by kernel_rfl),call143⟩
def iA (xa:Tq8) (xb:jK):((List Tq3)×Int)->Option (((List Tq3)×Int)⊕(List Tq3)):=fun (l1,i2)=>cond (decide (i2 < (xa.2.2.2.2.1.length:Int))) ((aa xa.2.2.2.2.1 i2).bind fun x3=>(aa xb.2.2.1 x3).bind fun x4=>(app l1 (([x4]:List Tq3))).bind fun z5=>some (.inl ((z5,IntKind.wrap .i64 (i2 + 1))))) (some (.inr (l1)))
def dy (xa:Tq8) (xb:jK):Option (Tq9) :=
 (fe (xa.1,xa.2.1,xa.2.2.1,xa.2.2.2.1,xa.2.2.2.2.1,xa.2.2.2.2.2)).bind fun i1=>cond (!decide (i1=0)) (some (([],i1))) ((m9 (xa.1,xa.2.1,xa.2.2.1,xa.2.2.2.1,xa.2.2.2.2.1,xa.2.2.2.2.2) (xb.1,xb.2.1,xb.2.2.1,xb.2.2.2.1,xb.2.2.2.2)).bind fun t2=>cond (!t2) (some (([],7))) (cond (decide (xa.1=3)) (cond (decide ((xb.2.2.1.length:Int)=0)) (some (([],14))) ((aa xb.2.2.1 0).bind fun x3=>(gm x3 xb.2.2.2.1 7 0).bind fun (l4,i5)=>some ((l4,i5)))) (cond (decide (xa.1=4)) ((loop (iA xa xb) ([],0)).bind fun l6=>(aa xb.2.2.2.2 xa.2.1).bind fun x7=>(aa xb.2.2.1 xa.2.2.1).bind fun x8=>(kQ (x7.1,x7.2.1,x7.2.2.1,x7.2.2.2) xa.2.2.2.2.2 l6 x8).bind fun (l9,i10)=>some ((l9,i10))) (some (([],0))))))
def GQ:Hn Tryz.prog := .cl zy [] (.tw 13 .nil (.cl If [] (.tw 18 .nil (.tw 21 (.tw 26 .nil (.mix [([0,1,2,3,4,5],6)] [7,8,9,10] [] [] (.cl pQ [] .nil))) (.tw 36 (.jn [] ⟨[(7,.own 26 Yq8)],[]⟩ [] (.lp ⟨[(7,.own 26 Yq8),kdI 41],[]⟩ (.tw 42 .nil .nil)) (.mix [([0,1,2,3,4,5,6,7,8,9,10,11,12,13,14],15)] [16,17,18,19] [] [4] (.per 4 5 (.cl IA [] .nil)))) .nil)))))
def GA:Spec:=⟨116,⟨[(0,.dat Yq5),(1,.dat (.cons Yq2 (.cons Yq2 (.cons (.sl Yq8) (.cons Yq8 (.one (.sl Yq4)))))))],[]⟩,[⟨[(0,.tup [.own 225 Yq6,.dat Yq2])],[]⟩],fun x=>dy x.1 x.2⟩
def Im:OkSpec Tryz.prog:=⟨GA,ae func116 GQ (by kernel_rfl) (by kernel_rfl),call116⟩

def nh (xa:Tq8) (xb:jK):Option Int :=
 (dy (xa.1,xa.2.1,xa.2.2.1,xa.2.2.2.1,xa.2.2.2.2.1,xa.2.2.2.2.2) (xb.1,xb.2.1,xb.2.2.1,xb.2.2.2.1,xb.2.2.2.2)).bind fun (l19,i20)=>some (i20)
def J8:Hn Tryz.prog := .cl Im [] .nil
def Jm:Spec:=⟨81,⟨[(0,.dat Yq5),(1,.dat (.cons Yq2 (.cons Yq2 (.cons (.sl Yq8) (.cons Yq8 (.one (.sl Yq4)))))))],[]⟩,[⟨[kdI 0],[]⟩],fun x=>nh x.1 x.2⟩
def KD:OkSpec Tryz.prog:=⟨Jm,ae func81 J8 (by kernel_rfl) (by kernel_rfl),call81⟩
def fV (xa:Tq1) (i1:Int) (x2:Tq2):Int->Option (Int⊕(Unit⊕(Int⊕(Unit⊕Tq6)))):=fun i3=>cond (decide (i3 < (x2.1.length:Int))) ((aa x2.1 i3).bind fun x4=>(bc 1 1).bind fun _=>(nf (x4.1,x4.2.1,x4.2.2.1,x4.2.2.2.1,x4.2.2.2.2) xa.2.2.2.1 xa.2.1).bind fun i5=>cond (!decide (i5=0)) (some (.inr ((.inr (.inr ((.inr ((i5,6,i1,i3))))))))) (some (.inl (IntKind.wrap .i64 (i3 + 1))))) (some (.inr ((.inl ()))))
def fW (xa:Tq1):Int->Option (Int⊕(Unit⊕Tq6)):=fun i1=>cond (decide (i1 < (xa.2.2.2.2.2.2.length:Int))) ((aa xa.2.2.2.2.2.2 i1).bind fun x2=>(loop (fV xa i1 x2) 0).bind fun o=>match o with | .inr r=>some r | .inl ()=>(bc 1 1).bind fun _=>(nh (x2.2.1,x2.2.2.1,x2.2.2.2.1,x2.2.2.2.2.1,x2.2.2.2.2.2.1,x2.2.2.2.2.2.2) (((xa.2.2.2.2.2.2.length:Int),xa.2.1,xa.2.2.2.1,xa.2.2.2.2.1,xa.2.2.2.2.2.1))).bind fun i3=>cond (!decide (i3=0)) (some (.inr ((.inr ((i3,7,i1,0)))))) (some (.inl (IntKind.wrap .i64 (i1 + 1))))) (some (.inr ((.inl ()))))
def ef (xa:Tq1):Option Tq6 :=
 (loop (fW xa) 0).bind fun o=>match o with | .inr r=>some r | .inl ()=>some ((0,0,0,0))
def Ih:Hn Tryz.prog := .jx [] ⟨[],[bkC 2 68 [.lit (.int .i64 0),.lit (.int .i64 0),.lit (.int .i64 0),.lit (.int .i64 0)]]⟩ [2] (.lp ⟨[kdI 27],[bkC 2 68 [.lit (.int .i64 0),.lit (.int .i64 0),.lit (.int .i64 0),.lit (.int .i64 0)]]⟩ (.tw 28 (.pl (.pl (.jx [] ⟨[],[bkC 2 68 [.lit (.int .i64 0),.lit (.int .i64 0),.lit (.int .i64 0),.lit (.int .i64 0)]]⟩ [2] (.lp ⟨[kdI 35],[bkC 2 68 [.lit (.int .i64 0),.lit (.int .i64 0),.lit (.int .i64 0),.lit (.int .i64 0)]]⟩ (.tw 36 (.cl oQ3 [] (.cl Iy [] (.tw 49 .nil .nil))) .nil)) (.cl oQ3 [] (.cl KD [] (.tw 62 .nil .nil)))))) .nil)) .nil
def HF:Spec:=⟨43,⟨[(0,.dat Yq1),(1,.nilp)],[]⟩,[⟨[(0,.agg [.dat Yq2,.dat Yq2,.dat Yq2,.dat Yq2])],[]⟩],fun x=>ef x⟩
def Hg:OkSpec Tryz.prog:=⟨HF,ae func43 Ih (by kernel_rfl) (by kernel_rfl),call43⟩

def d8 (xa:Tq1):Option Tq6 :=
 (bc 1 1).bind fun _=>(f7 xa).bind fun (i1,i2,i3,i4)=>cond (!decide (i1=0)) (some ((i1,i2,i3,i4))) ((fX xa).bind fun (i5,i6,i7,i8)=>cond (!decide (i5=0)) (some ((i5,i6,i7,i8))) ((fY xa).bind fun (i9,i10,i11,i12)=>cond (!decide (i9=0)) (some ((i9,i10,i11,i12))) ((eh xa).bind fun (i13,i14,i15,i16)=>cond (!decide (i13=0)) (some ((i13,i14,i15,i16))) ((f8 xa).bind fun (i17,i18,i19,i20)=>cond (!decide (i17=0)) (some ((i17,i18,i19,i20))) ((fZ xa).bind fun (i21,i22,i23,i24)=>cond (!decide (i21=0)) (some ((i21,i22,i23,i24))) ((ef xa).bind fun (i25,i26,i27,i28)=>cond (!decide (i25=0)) (some ((i25,i26,i27,i28))) (some ((0,0,0,0)))))))))
def Kt:Hn Tryz.prog := .cl oQ3 [] (.un 64 (.cl oQ4 [] (.tw 24 .nil (.cl oQ6 [] (.tw 24 .nil (.cl IP [] (.tw 24 .nil (.cl Ks [] (.tw 24 .nil (.cl IO [] (.tw 24 .nil (.cl HJ [] (.tw 24 .nil (.cl Hg [] (.tw 24 .nil .nil)))))))))))))))
def I1:Spec:=⟨21,⟨[(0,.dat Yq1),(1,.nilp)],[]⟩,[⟨[(0,.agg [.dat Yq2,.dat Yq2,.dat Yq2,.dat Yq2])],[]⟩],fun x=>d8 x⟩
def zT:OkSpec Tryz.prog:=⟨I1,ae func21 Kt (by kernel_rfl) (by kernel_rfl),call21⟩

def gC (xa:Tq1):Option Bool :=
 (d8 xa).bind fun (i15,i17,i18,i19)=>some (decide (i15=0))
def JN:Hn Tryz.prog := .cl zT [] .nil
def G5:Spec:=⟨18,⟨[(0,.dat Yq1)],[]⟩,[⟨[kdB 0],[]⟩],fun x=>gC x⟩
def zJ:OkSpec Tryz.prog:=⟨G5,ae func18 JN (by kernel_rfl) (by kernel_rfl),call18⟩
def mU  : (Int×Int)->Option ((Int×Int)⊕Int):=fun (i40,i41)=>cond (decide (0 < i40)) (some (.inl ((aU0 i40 (2 ^ (min (V6 8) (IntKind.bits .i64))),IntKind.wrap .i64 (i41 + 1))))) (some (.inr (i41)))
def iN (xa:Int):Option Int :=
 (loop (mU) (xa,0)).bind fun i36=>some (i36)
def Ig:Hn Tryz.prog := .jn [] ⟨[kdI 3],[]⟩ [] (.lp ⟨[kdI 0,kdI 3],[]⟩ (.tw 5 .nil .nil)) .nil
def Ht:Spec:=⟨128,⟨[kdI 0],[]⟩,[⟨[kdI 0],[]⟩],fun x=>iN x⟩
def tW:OkSpec Tryz.prog:=⟨Ht,ae func128 Ig (by kernel_rfl) (by kernel_rfl),call128⟩

def nq (xa:Int):Option Int :=
 cond ((decide (xa < 0))||(decide (4294967295 < xa))) (some (0)) (cond (decide (xa < 248)) (some (1)) ((iN xa).bind fun i18=>some (IntKind.wrap .i64 (1 + i18))))
def H9:Hn Tryz.prog := .gp 2 (.tw 3 .nil (.tw 10 .nil (.cl tW [] .nil)))
def Kq:Spec:=⟨87,⟨[kdI 0],[]⟩,[⟨[kdI 0],[]⟩],fun x=>nq x⟩
def Ki:OkSpec Tryz.prog:=⟨Kq,ae func87 H9 (by kernel_rfl) (by kernel_rfl),call87⟩
def ne (x1:Int):bZ->Option (bZ⊕List UInt8):=fun (i2,s3)=>cond (decide (0<=i2)) ((ge0 i2).bind fun u4=>(wrB s3 (IntKind.wrap .u8 (aU0 x1 (2 ^ (min (V6 i2) (IntKind.bits .i64)))))).bind fun z5=>some (.inl ((IntKind.wrap .i64 (i2 - 8),z5)))) (some (.inr (s3)))
def kF (xa:(List Int)):bZ->Option (bZ⊕List UInt8):=fun (i1,s2)=>cond (decide (i1 < (xa.length:Int))) ((aa xa i1).bind fun x3=>(nq x3).bind fun i4=>cond (decide (i4=0)) (some (.inl ((IntKind.wrap .i64 (i1 + 1),s2)))) (cond (decide (i4=1)) ((wrB s2 (IntKind.wrap .u8 x3)).bind fun z5=>some (.inl ((IntKind.wrap .i64 (i1 + 1),z5)))) ((wrB s2 (IntKind.wrap .u8 (IntKind.wrap .i64 ((IntKind.wrap .i64 (247 + i4)) - 1)))).bind fun z6=>(loop (ne x3) ((IntKind.wrap .i64 (8 * (IntKind.wrap .i64 (i4 - 2))),z6))).bind fun s7=>some (.inl ((IntKind.wrap .i64 (i1 + 1),s7)))))) (some (.inr (s2)))
def da (xa:(List Int)):Option ba :=
 (loop (kF xa) ((0,([]:List UInt8)))).bind fun s1=>(some s1).bind fun s2=>some (s2)
def Ha:Hn Tryz.prog := .jn [] ⟨[],[⟨(some 0),0,[],true,false,none,false⟩]⟩ [0] (.lp ⟨[kdI 10],[⟨(some 0),0,[],true,false,none,false⟩]⟩ (.tw 11 (.cl Ki [] (.tw 34 .nil (.tw 36 (.cl qO [] .nil) (.cl qO [] (.jn [] ⟨[],[⟨(some 0),0,[],true,false,none,false⟩]⟩ [0] (.lp ⟨[kdI 7],[⟨(some 0),0,[],true,false,none,false⟩]⟩ (.tw 26 (.cl qO [] .nil) .nil)) .nil))))) .nil)) (.cl gG [] .nil)
def KA:Spec:=⟨52,⟨[(0,.dat (.sl Yq2))],[]⟩,[⟨[(0,.dat .str)],[]⟩],fun x=>da x⟩
def fO:OkSpec Tryz.prog:=⟨KA,ae func52 Ha (by kernel_rfl) (by kernel_rfl),call52⟩
def ke (xa:Tq7):((List Int)×Int)->Option (((List Int)×Int)⊕(List Int)):=fun (l1,i2)=>cond (decide (i2 < (xa.length:Int))) ((aa xa i2).bind fun x3=>(app l1 ([x3.1,x3.2]:List Int)).bind fun z4=>some (.inl ((z4,IntKind.wrap .i64 (i2 + 1))))) (some (.inr (l1)))
def km (xa:Tq7):Option ba :=
 (loop (ke xa) ((([(xa.length:Int)]:List Int),0))).bind fun l1=>(da l1).bind fun s2=>some (s2)
def J9:Hn Tryz.prog := .jn [] ⟨[(3,.own 3 Yq2),(8,.any)],[]⟩ [0] (.lp ⟨[(3,.own 3 Yq2),kdI 11],[]⟩ (.tw 12 .nil .nil)) (.cl fO [2] .nil)
def IX:Spec:=⟨53,⟨[(0,.dat (.sl Yq7))],[]⟩,[⟨[(0,.dat .str)],[]⟩],fun x=>km x⟩
def zG:OkSpec Tryz.prog:=⟨IX,ae func53 J9 (by kernel_rfl) (by kernel_rfl),call53⟩

def cK (xa:Int):Option ba :=
 (da ([xa]:List Int)).bind fun s23=>some (s23)
def Hc:Hn Tryz.prog := .cl fO [0] .nil
def HQ:Spec:=⟨54,⟨[kdI 0],[]⟩,[⟨[(0,.dat .str)],[]⟩],fun x=>cK x⟩
def eK:OkSpec Tryz.prog:=⟨HQ,ae func54 Hc (by kernel_rfl) (by kernel_rfl),call54⟩
def ki (xa:Tq3):((List Int)×Int)->Option (((List Int)×Int)⊕(List Int)):=fun (l1,i2)=>cond (decide (i2 < (xa.length:Int))) ((aa xa i2).bind fun x3=>(cond (x3.2) (some (IntKind.wrap .i64 ((IntKind.wrap .i64 (2 * x3.1)) + 1))) (some (IntKind.wrap .i64 (2 * x3.1))):Option Int).bind fun i4=>(app l1 ([i4]:List Int)).bind fun z5=>some (.inl ((z5,IntKind.wrap .i64 (i2 + 1))))) (some (.inr (l1)))
def gh (xa:Tq3):Option ba :=
 (loop (ki xa) ((([(xa.length:Int)]:List Int),0))).bind fun l1=>(da l1).bind fun s2=>some (s2)
def GD:Hn Tryz.prog := .jn [] ⟨[(3,.own 3 Yq2),(10,.any)],[]⟩ [2,0] (.lp ⟨[(3,.own 3 Yq2),kdI 14],[]⟩ (.tw 15 (.pl (.pl (.pl (.sq [] ⟨[kdI 6],[]⟩ [] (.tw 22 .nil .nil) .nil)))) .nil)) (.cl fO [4] .nil)
def JO:Spec:=⟨55,⟨[(0,.dat Yq8)],[]⟩,[⟨[(0,.dat .str)],[]⟩],fun x=>gh x⟩
def pA:OkSpec Tryz.prog:=⟨JO,ae func55 GD (by kernel_rfl) (by kernel_rfl),call55⟩
def kH (xa:Tq5):bZ->Option (bZ⊕List UInt8):=fun (i1,s2)=>cond (decide (i1 < (xa.2.2.1.length:Int))) ((aa xa.2.2.1 i1).bind fun x3=>(gh x3).bind fun s4=>(wrS s2 s4).bind fun z5=>some (.inl ((IntKind.wrap .i64 (i1 + 1),z5)))) (some (.inr (s2)))
def kW (xa:Tq5):Option ba :=
 (cK xa.1).bind fun s1=>(wrS ([]:List UInt8) s1).bind fun z2=>(km xa.2.1).bind fun s3=>(wrS z2 s3).bind fun z4=>(cK (xa.2.2.1.length:Int)).bind fun s5=>(wrS z4 s5).bind fun z6=>(loop (kH xa) (0,z6)).bind fun s7=>(gh xa.2.2.2).bind fun s9=>(wrS s7 s9).bind fun z10=>(some z10).bind fun s11=>some (s11)
def GP:Hn Tryz.prog := .cl eK [] (.cl aX [] (.cl zG [] (.cl aX [] (.cl eK [] (.cl aX [] (.jn [] ⟨[],[⟨(some 2),0,[],true,false,none,false⟩]⟩ [2] (.lp ⟨[kdI 22],[⟨(some 2),0,[],true,false,none,false⟩]⟩ (.tw 23 (.cl pA [] (.cl aX [] .nil)) .nil)) (.cl pA [] (.cl aX [] (.cl gG [] .nil)))))))))
def HX:Spec:=⟨56,⟨[(0,.dat Yq4)],[]⟩,[⟨[(0,.dat .str)],[]⟩],fun x=>kW x⟩
def GX:OkSpec Tryz.prog:=⟨HX,ae func56 GP (by kernel_rfl) (by kernel_rfl),call56⟩

def iT (xa:Tq4):Option (List UInt8×Int) :=
 (kK (xa.1,xa.2.1,xa.2.2.1,xa.2.2.2.1,xa.2.2.2.2)).bind fun (t1,t2,t3,i4)=>cond (!decide (i4=0)) (some ((([]:List UInt8),i4))) ((cond (t1) ((app ([xa.1]:List Int) ([xa.2.1]:List Int)).bind fun z5=>some (z5)) (some (([xa.1]:List Int))):Option (List Int)).bind fun l6=>(cond (t2) ((app l6 ([xa.2.2.1]:List Int)).bind fun z7=>some (z7)) (some (l6)):Option (List Int)).bind fun l9=>cond (t3) ((cond (xa.2.2.2.2) (some (IntKind.wrap .i64 ((IntKind.wrap .i64 (2 * xa.2.2.2.1)) + 1))) (some (IntKind.wrap .i64 (2 * xa.2.2.2.1))):Option Int).bind fun i10=>(app l9 ([i10]:List Int)).bind fun z11=>(da z11).bind fun s12=>some ((s12,0))) ((da l9).bind fun s13=>some ((s13,0))))
def IB:Hn Tryz.prog := .cl zz [] (.tw 14 .nil (.pl (.sq [] ⟨[(6,.own 3 Yq2),(18,.any)],[]⟩ [5] (.tw 20 .nil .nil) (.sq [] ⟨[(6,.own 3 Yq2)],[]⟩ [7] (.tw 27 .nil .nil) (.tw 34 (.pl (.sq [] ⟨[kdI 7],[]⟩ [] (.tw 39 .nil .nil) (.cl fO [13] .nil))) (.cl fO [9] .nil))))))
def Jp:Spec:=⟨89,⟨[(0,.dat Yq6)],[]⟩,[⟨[(0,.tup [.dat .str,.dat Yq2])],[]⟩],fun x=>iT x⟩
def Jb:OkSpec Tryz.prog:=⟨Jp,ae func89 IB (by kernel_rfl) (by kernel_rfl),call89⟩

def gf (xa:(List Int)):Option ba :=
 (cK (xa.length:Int)).bind fun s18=>(da xa).bind fun s24=>(app s18 s24).bind fun z28=>some (z28)
def GR:Hn Tryz.prog := .cl eK [] (.cl fO [] .nil)
def I7:Spec:=⟨131,⟨[(0,.dat (.sl Yq2))],[]⟩,[⟨[(0,.dat .str)],[]⟩],fun x=>gf x⟩
def pG:OkSpec Tryz.prog:=⟨I7,ae func131 GR (by kernel_rfl) (by kernel_rfl),call131⟩

def kS (xa:Tq8):Option (List UInt8×Int) :=
 (fe (xa.1,xa.2.1,xa.2.2.1,xa.2.2.2.1,xa.2.2.2.2.1,xa.2.2.2.2.2)).bind fun i1=>cond (!decide (i1=0)) (some ((([]:List UInt8),i1))) ((cK xa.1).bind fun s2=>(wrS ([]:List UInt8) s2).bind fun z3=>cond (decide (xa.1=1)) ((aa xa.2.2.2.1 0).bind fun x4=>(cK x4).bind fun s5=>(wrS z3 s5).bind fun z6=>(some z6).bind fun s7=>some ((s7,0))) (cond (decide (xa.1=2)) ((gf xa.2.2.2.1).bind fun s9=>(wrS z3 s9).bind fun z10=>(gf xa.2.2.2.2.1).bind fun s11=>(wrS z10 s11).bind fun z12=>(some z12).bind fun s13=>some ((s13,0))) (cond (decide (xa.1=4)) ((aa xa.2.2.2.1 0).bind fun x14=>(da ([xa.2.1,xa.2.2.1,x14]:List Int)).bind fun s15=>(wrS z3 s15).bind fun z16=>(gf xa.2.2.2.2.2).bind fun s17=>(wrS z16 s17).bind fun z18=>(gf xa.2.2.2.2.1).bind fun s19=>(wrS z18 s19).bind fun z20=>(some z20).bind fun s21=>some ((s21,0))) ((some z3).bind fun s22=>some ((s22,0))))))
def Ix:Hn Tryz.prog := .cl zy [] (.tw 9 .nil (.cl eK [] (.cl aX [] (.tw 17 (.cl eK [] (.cl aX [] (.cl gG [] .nil))) (.tw 25 (.cl pG [] (.cl aX [] (.cl pG [] (.cl aX [] (.cl gG [] .nil))))) (.tw 35 (.mix [([0,1,2,3,4,5,6,7],8)] [] [9,10] [] (.cl fO [3] (.cl aX [] (.cl pG [] (.cl aX [] (.cl pG [] (.cl aX [] (.cl gG [] .nil)))))))) (.cl gG [] .nil)))))))
def H4:Spec:=⟨90,⟨[(0,.dat Yq5)],[]⟩,[⟨[(0,.tup [.dat .str,.dat Yq2])],[]⟩],fun x=>kS x⟩
def Hx:OkSpec Tryz.prog:=⟨H4,ae func90 Ix (by kernel_rfl) (by kernel_rfl),call90⟩
def kc (xb:Tq2):bZ->Option (bZ⊕(List UInt8⊕bZ)):=fun (i1,s2)=>cond (decide (i1 < (xb.1.length:Int))) ((aa xb.1 i1).bind fun x3=>(iT (x3.1,x3.2.1,x3.2.2.1,x3.2.2.2.1,x3.2.2.2.2)).bind fun (s4,i5)=>cond (!decide (i5=0)) (some (.inr ((.inr ((i5,s2)))))) ((wrS s2 s4).bind fun z6=>some (.inl ((IntKind.wrap .i64 (i1 + 1),z6))))) (some (.inr (.inl s2)))
def fR (xb:Tq2) (qa0:List UInt8):Option bZ :=
 (cK (xb.1.length:Int)).bind fun s1=>(wrS qa0 s1).bind fun z2=>(loop (kc xb) (0,z2)).bind fun o=>match o with | .inr r=>some r | .inl s3=>(kS (xb.2.1,xb.2.2.1,xb.2.2.2.1,xb.2.2.2.2.1,xb.2.2.2.2.2.1,xb.2.2.2.2.2.2)).bind fun (s4,i5)=>(wrS s3 s4).bind fun z6=>some ((i5,z6))
def Hj:Hn Tryz.prog := .cl eK [] (.cl aX [] (.jx [] ⟨[],[⟨(some 0),0,[],true,false,none,false⟩]⟩ [0] (.lp ⟨[kdI 20],[⟨(some 0),0,[],true,false,none,false⟩]⟩ (.tw 21 (.cl Jb [] (.tw 30 .nil (.cl aX [] .nil))) .nil)) (.cl Hx [] (.cl aX [] .nil))))
def HD:Spec:=⟨57,⟨[(0,.ptr 0 0),(1,.dat (.cons (.sl Yq6) (.one Yq5)))],[⟨none,0,[],true,false,none,false⟩]⟩,[⟨[kdI 0],[⟨(some 0),0,[],true,false,none,false⟩]⟩],fun x=>fR x.1 x.2⟩
def Ia:OkSpec Tryz.prog:=⟨HD,ae func57 Hj (by kernel_rfl) (by kernel_rfl),call57⟩
def kz (xa:Tq1):bZ->Option (bZ⊕List UInt8):=fun (i1,s2)=>cond (decide (i1 < (xa.2.2.2.1.length:Int))) ((aa xa.2.2.2.1 i1).bind fun x3=>(gh x3).bind fun s4=>(wrS s2 s4).bind fun z5=>some (.inl ((IntKind.wrap .i64 (i1 + 1),z5)))) (some (.inr (s2)))
def ky (xa:Tq1):bZ->Option (bZ⊕List UInt8):=fun (i1,s2)=>cond (decide (i1 < (xa.2.2.2.2.2.1.length:Int))) ((aa xa.2.2.2.2.2.1 i1).bind fun x3=>(kW (x3.1,x3.2.1,x3.2.2.1,x3.2.2.2)).bind fun s4=>(wrS s2 s4).bind fun z5=>some (.inl ((IntKind.wrap .i64 (i1 + 1),z5)))) (some (.inr (s2)))
def iD (xa:Tq1):bZ->Option (bZ⊕(List UInt8⊕(List UInt8×Int))):=fun (i1,s2)=>cond (decide (i1 < (xa.2.2.2.2.2.2.length:Int))) ((aa xa.2.2.2.2.2.2 i1).bind fun x3=>(fR ((x3.1,(x3.2.1,x3.2.2.1,x3.2.2.2.1,x3.2.2.2.2.1,x3.2.2.2.2.2.1,x3.2.2.2.2.2.2))) s2).bind fun (i4,s5)=>cond (!decide (i4=0)) (some (.inr ((.inr ((([]:List UInt8),i4)))))) (some (.inl ((IntKind.wrap .i64 (i1 + 1),s5))))) (some (.inr (.inl s2)))
def kP (xa:Tq1):Option (List UInt8×Int) :=
 (wrS ([]:List UInt8) ([109,105,114,1]:List UInt8)).bind fun z1=>(da ([xa.1,xa.2.1]:List Int)).bind fun s2=>(wrS z1 s2).bind fun z3=>(km xa.2.2.1).bind fun s4=>(wrS z3 s4).bind fun z5=>(cK (xa.2.2.2.1.length:Int)).bind fun s6=>(wrS z5 s6).bind fun z7=>(loop (kz xa) (0,z7)).bind fun s9=>(gh xa.2.2.2.2.1).bind fun s10=>(wrS s9 s10).bind fun z11=>(cK (xa.2.2.2.2.2.1.length:Int)).bind fun s12=>(wrS z11 s12).bind fun z13=>(loop (ky xa) (0,z13)).bind fun s14=>(cK (xa.2.2.2.2.2.2.length:Int)).bind fun s15=>(wrS s14 s15).bind fun z16=>(loop (iD xa) (0,z16)).bind fun o=>match o with | .inr r=>some r | .inl s17=>(some s17).bind fun s18=>some ((s18,0))
def J7:Hn Tryz.prog := .cl aX [] (.cl fO [3] (.cl aX [] (.cl zG [] (.cl aX [] (.cl eK [] (.cl aX [] (.jn [] ⟨[(17,.any)],[⟨(some 2),0,[],true,false,none,false⟩]⟩ [2,3] (.lp ⟨[kdI 32],[⟨(some 2),0,[],true,false,none,false⟩]⟩ (.tw 33 (.cl pA [] (.cl aX [] .nil)) .nil)) (.cl pA [] (.cl aX [] (.cl eK [] (.cl aX [] (.jn [] ⟨[],[⟨(some 2),0,[],true,false,none,false⟩]⟩ [2] (.lp ⟨[kdI 52],[⟨(some 2),0,[],true,false,none,false⟩]⟩ (.tw 53 (.cl GX [] (.cl aX [] .nil)) .nil)) (.cl eK [] (.cl aX [] (.jx [] ⟨[],[⟨(some 2),0,[],true,false,none,false⟩]⟩ [2,0] (.lp ⟨[kdI 68],[⟨(some 2),0,[],true,false,none,false⟩]⟩ (.tw 69 (.cl Ia [] (.tw 75 .nil .nil)) .nil)) (.cl gG [] .nil))))))))))))))))
def Kc:Spec:=⟨30,⟨[(0,.dat Yq1)],[]⟩,[⟨[(0,.tup [.dat .str,.dat Yq2])],[]⟩],fun x=>kP x⟩
def Jd:OkSpec Tryz.prog:=⟨Kc,ae func30 J7 (by kernel_rfl) (by kernel_rfl),call30⟩

def qg (xa:ba) (xb:ba):Option Bool :=
 (cond (decide ((xb.length:Int)<=(xa.length:Int))) ((subL xa 0 (xb.length:Int)).bind fun y14=>some (decide (y14=xb))) (some (false))).bind fun t12=>some (t12)
def GM:Hn Tryz.prog := .gj 6 ⟨[kdB 17],[]⟩ [] (.two 10 .nil .nil) .nil
def I9:Spec:=⟨132,⟨[(0,.dat .str),(1,.dat .str)],[]⟩,[⟨[kdB 0],[]⟩],fun x=>qg x.1 x.2⟩
def Ij:OkSpec Tryz.prog:=⟨I9,ae func132 GM (by kernel_rfl) (by kernel_rfl),call132⟩

def qf (xa:ba) (xb:ba):Option (List UInt8×Bool) :=
 (qg xa xb).bind fun t14=>cond (!t14) (some ((xa,false))) ((subL xa (xb.length:Int) (xa.length:Int)).bind fun y19=>some ((y19,true)))
def KC:Hn Tryz.prog := .cl Ij [] (.tw 9 .nil .nil)
def J1:Spec:=⟨91,⟨[(0,.dat .str),(1,.dat .str)],[]⟩,[⟨[(0,.tup [.dat .str,.dat .bool])],[]⟩],fun x=>qf x.1 x.2⟩
def HE:OkSpec Tryz.prog:=⟨J1,ae func91 KC (by kernel_rfl) (by kernel_rfl),call91⟩

def mG (xa:ba) (xb:ba):Option (List UInt8×Bool) :=
 (qf xa xb).bind fun (s12,t13)=>some ((s12,t13))
def JP:Hn Tryz.prog := .cl HE [] .nil
def Jg:Spec:=⟨59,⟨[(0,.dat .str),(1,.dat .str)],[]⟩,[⟨[(0,.tup [.dat .str,.dat .bool])],[]⟩],fun x=>mG x.1 x.2⟩
def I3:OkSpec Tryz.prog:=⟨Jg,ae func59 JP (by kernel_rfl) (by kernel_rfl),call59⟩
def kE (xa:ba) (x88:UInt8):(Int×Int)->Option ((Int×Int)⊕Int):=fun (i1,i2)=>cond (decide (i2<=(IntKind.wrap .i64 ((IntKind.wrap .i64 (((x88.toNat:Nat):Int))) - 247)))) ((aa xa i2).bind fun x3=>some (.inl ((IntKind.wrap .i64 ((S3 (IntKind.bits .i64) (IntKind.wrap .i64 (i1 * 2 ^ (min (V6 8) (IntKind.bits .i64)))) ||| S3 (IntKind.bits .i64) (IntKind.wrap .i64 (((x3.toNat:Nat):Int)))).toNat:Int),IntKind.wrap .i64 (i2 + 1))))) (some (.inr (i1)))
def ek (xa:ba):Option (Int×Int×Int) :=
 cond (decide (xa=([]:List UInt8))) (some ((0,0,4))) ((aa xa 0).bind fun x88=>cond (decide ((IntKind.wrap .i64 (((x88.toNat:Nat):Int))) < 248)) (some ((IntKind.wrap .i64 (((x88.toNat:Nat):Int)),1,0))) ((iN 4294967295).bind fun i96=>cond (decide (i96 < (IntKind.wrap .i64 ((IntKind.wrap .i64 (((x88.toNat:Nat):Int))) - 247)))) (some ((0,0,3))) (cond (decide ((xa.length:Int)<=(IntKind.wrap .i64 ((IntKind.wrap .i64 (((x88.toNat:Nat):Int))) - 247)))) (some ((0,0,4))) ((loop (kE xa x88) (0,1)).bind fun i1=>(cond (decide (i1 < 248)) (some (true)) ((iN i1).bind fun i2=>some (decide (i2 < (IntKind.wrap .i64 ((IntKind.wrap .i64 (((x88.toNat:Nat):Int))) - 247)))))).bind fun t3=>cond (t3) (some ((0,0,3))) (some ((i1,IntKind.wrap .i64 (1 + (IntKind.wrap .i64 ((IntKind.wrap .i64 (((x88.toNat:Nat):Int))) - 247))),0)))))))
def G3:Hn Tryz.prog := .tw 10 .nil (.tw 15 .nil (.cl tW [] (.tw 21 .nil (.tw 25 .nil (.jn [] ⟨[kdI 7],[]⟩ [] (.lp ⟨[kdI 7,kdI 8],[]⟩ (.tw 28 .nil .nil)) (.wt 40 (.gj 4 ⟨[kdB 45],[]⟩ [] (.two 40 .nil (.cl tW [] .nil)) (.tw 45 .nil .nil))))))))
def Jw:Spec:=⟨93,⟨[(0,.dat .str)],[]⟩,[⟨[(0,.tup [.dat Yq2,.dat Yq2,.dat Yq2])],[]⟩],fun x=>ek x⟩
def lO:OkSpec Tryz.prog:=⟨Jw,ae func93 G3 (by kernel_rfl) (by kernel_rfl),call93⟩

def j9 (qa0:List UInt8) (qa1:Int) (qa2:Int):Option (Int×List UInt8×Int×Int) :=
 cond (!decide (qa2=0)) (some ((0,qa0,qa1,qa2))) ((ek qa0).bind fun (i21,i22,i23)=>cond (!decide (i23=0)) (some ((0,qa0,qa1,i23))) ((subL qa0 i22 (qa0.length:Int)).bind fun y28=>some ((i21,y28,IntKind.wrap .i64 (qa1 + 1),qa2))))
def HS:Hn Tryz.prog := .tw 13 .nil (.cl lO [] (.tw 26 .nil .nil))
def Kf:Spec:=⟨92,⟨[(0,.ptr 0 0),(1,.fn 93 [])],[bkN 115 [.dat .str,.dat Yq2,.dat Yq2]]⟩,[⟨[kdI 0],[bkC 0 115 [.dat .str,.dat Yq2,.dat Yq2]]⟩],fun x=>j9 x.1 x.2.1 x.2.2⟩
def Jy:OkSpec Tryz.prog:=⟨Kf,ae func92 HS (by kernel_rfl) (by kernel_rfl),call92⟩

def bx (qa0:List UInt8) (qa1:Int) (qa2:Int):Option (Int×List UInt8×Int×Int) :=
 (j9 qa0 qa1 qa2).bind fun (i17,s18,i19,i20)=>cond (decide (65536 < i17)) (some ((0,s18,i19,6))) (some ((i17,s18,i19,i20)))
def G7:Hn Tryz.prog := .cl Jy [] (.tw 7 .nil .nil)
def HC:Spec:=⟨60,⟨[(0,.ptr 0 0)],[bkN 115 [.dat .str,.dat Yq2,.dat Yq2]]⟩,[⟨[kdI 0],[bkC 0 115 [.dat .str,.dat Yq2,.dat Yq2]]⟩],fun x=>bx x.1 x.2.1 x.2.2⟩
def jN:OkSpec Tryz.prog:=⟨HC,ae func60 G7 (by kernel_rfl) (by kernel_rfl),call60⟩

def cX (qa0:List UInt8) (qa1:Int):Option (Int×Int×Int) :=
 (subL qa0 qa1 (qa0.length:Int)).bind fun y75=>(ek y75).bind fun (i79,i80,i81)=>some ((i79,i81,IntKind.wrap .i64 (qa1 + i80)))
def H0:Hn Tryz.prog := .mix [([0,1,2,3,4,5,6,7,8],9)] [10,11,12,13,14,15,16] [] [] (.cl lO [] .nil)
def IN:Spec:=⟨98,⟨[(0,.ptr 0 0)],[bkN 157 [.is 1 (.dat .str),.dat Yq2],bkM]⟩,[⟨[(0,.tup [.dat Yq2,.dat Yq2])],[bkC 0 157 [.is 1 (.any),.dat Yq2],bkU 1]⟩],fun x=>cX x.1 x.2⟩
def lX:OkSpec Tryz.prog:=⟨IN,ae func98 H0 (by kernel_rfl) (by kernel_rfl),call98⟩

def iq (xb:Int) (qa0:List UInt8) (qa1:Int):Option (Int×Int×Int) :=
 (cX qa0 qa1).bind fun (i17,i18,i19)=>cond ((decide (i18=0))&&(decide (xb < i17))) (some ((0,6,i19))) (some ((i17,i18,i19)))
def Kx:Hn Tryz.prog := .cl lX [] (.gp 3 (.tw 19 .nil .nil))
def IV:Spec:=⟨133,⟨[(0,.ptr 0 0),kdI 1],[bkN 157 [.is 1 (.dat .str),.dat Yq2],bkM]⟩,[⟨[(0,.tup [.dat Yq2,.dat Yq2])],[bkC 0 157 [.is 1 (.any),.dat Yq2],bkU 1]⟩],fun x=>iq x.1 x.2.1 x.2.2⟩
def tT:OkSpec Tryz.prog:=⟨IV,ae func133 Kx (by kernel_rfl) (by kernel_rfl),call133⟩
def d5 (qa0:List UInt8) (i1:Int):(Tq7×Int×Int×Int)->Option ((Tq7×Int×Int×Int)⊕(Tq7×Int×Int)):=fun (l2,i3,i4,i5)=>cond ((decide (i4 < i1))&&(decide (i3=0))) ((cX qa0 i5).bind fun (i6,i7,i9)=>(cond (decide (i7=0)) ((cX qa0 i9).bind fun (i10,i11,i12)=>some ((i11,i12,i10))) (some ((i7,i9,0))):Option (Int×Int×Int)).bind fun (i13,i14,i15)=>(app l2 (([(i6,i15)]:List (Int×Int)))).bind fun z16=>some (.inl ((z16,i13,IntKind.wrap .i64 (i4 + 1),i14)))) (some (.inr (((l2,i3,i5)))))
def ip (xb:Int) (qa0:List UInt8) (qa1:Int):Option ((Tq7×Int×Int)) :=
 (iq xb qa0 qa1).bind fun (i2,i3,i4)=>(loop (d5 qa0 i2) ([],i3,0,i4)).bind fun (l5,i6,i7)=>some ((l5,i6,i7))
def It:Hn Tryz.prog := .cl tT [] (.jn [] ⟨[(6,.own 84 Yq7),kdI 8],[bkC 0 157 [.is 1 (.any),.dat Yq2],bkU 1]⟩ [0] (.lp ⟨[(6,.own 84 Yq7),kdI 8,kdI 9],[bkC 0 157 [.is 1 (.any),.dat Yq2],bkU 1]⟩ (.wt 20 (.gp 2 (.tw 23 (.cl lX [] (.sq [(8,0)] ⟨[kdI 8],[bkC 0 157 [.is 2 (.any),.dat Yq2],bkC 8 84 [.is 3 (.any),.dat Yq2],bkU 1,bkU 13]⟩ [8,0] (.tw 33 (.cl lX [] .nil) .nil) .nil)) .nil)))) .nil)
def J6:Spec:=⟨100,⟨[(0,.ptr 0 0),kdI 1],[bkN 157 [.is 1 (.dat .str),.dat Yq2],bkM]⟩,[⟨[(0,.tup [.own 84 Yq7,.dat Yq2])],[bkC 0 157 [.is 1 (.any),.dat Yq2],bkU 1]⟩],fun x=>ip x.1 x.2.1 x.2.2⟩
def zW:OkSpec Tryz.prog:=⟨J6,ae func100 It (by kernel_rfl) (by kernel_rfl),call100⟩

def mM (xa:ba) (xb:Int):Option ((Tq7×Int×Int)) :=
 (ip xb xa 0).bind fun (l25,i26,i27)=>cond (!decide (i26=0)) (some (([],0,i26))) (some ((l25,i27,0)))
def Ik:Hn Tryz.prog := .mc 0 0 2 (.cl zW [] (.tw 18 .nil (.mix [] [0,1,2,3,4,5] [] [] .nil)))
def Ib:Spec:=⟨94,⟨[(0,.dat .str),kdI 1],[]⟩,[⟨[(0,.tup [.own 84 Yq7,.dat Yq2,.dat Yq2])],[]⟩],fun x=>mM x.1 x.2⟩
def HN:OkSpec Tryz.prog:=⟨Ib,ae func94 Ik (by kernel_rfl) (by kernel_rfl),call94⟩

def kg (xa:ba):Option ((Tq7×Int×Int)) :=
 (mM xa 65536).bind fun (l22,i23,i24)=>some ((l22,i23,i24))
def IM:Hn Tryz.prog := .cl HN [] .nil
def G4:Spec:=⟨62,⟨[(0,.dat .str)],[]⟩,[⟨[(0,.tup [.own 84 Yq7,.dat Yq2,.dat Yq2])],[]⟩],fun x=>kg x⟩
def Ju:OkSpec Tryz.prog:=⟨G4,ae func62 IM (by kernel_rfl) (by kernel_rfl),call62⟩

def jY (qa0:List UInt8) (qa1:Int) (qa2:Int):Option ((Tq7×List UInt8×Int×Int)) :=
 cond (!decide (qa2=0)) (some (([],qa0,qa1,qa2))) ((kg qa0).bind fun (l29,i30,i31)=>cond (!decide (i31=0)) (some (([],qa0,qa1,i31))) ((subL qa0 i30 (qa0.length:Int)).bind fun y41=>some ((l29,y41,IntKind.wrap .i64 (qa1 + 1),qa2))))
def IR:Hn Tryz.prog := .tw 13 .nil (.cl Ju [] (.tw 26 .nil .nil))
def KH:Spec:=⟨61,⟨[(0,.ptr 0 0),(1,.fn 62 [])],[bkN 115 [.dat .str,.dat Yq2,.dat Yq2]]⟩,[⟨[(0,.own 84 Yq7)],[bkC 0 115 [.dat .str,.dat Yq2,.dat Yq2]]⟩],fun x=>jY x.1 x.2.1 x.2.2⟩
def Hs:OkSpec Tryz.prog:=⟨KH,ae func61 IR (by kernel_rfl) (by kernel_rfl),call61⟩
def eW (qa0:List UInt8) (i1:Int):(Int×Int×Int×Tq3)->Option ((Int×Int×Int×Tq3)⊕(Int×Int×Tq3)):=fun (i2,i3,i4,l5)=>cond ((decide (i3 < i1))&&(decide (i2=0))) ((cX qa0 i4).bind fun (i6,i7,i9)=>(app l5 (([(IntKind.wrap .i64 (ag0 i6 2),decide ((ar0 i6 2)=1))]:List (Int×Bool)))).bind fun z10=>some (.inl ((i7,IntKind.wrap .i64 (i3 + 1),i9,z10)))) (some (.inr (((i2,i4,l5)))))
def eX (qa0:List UInt8) (qa1:Int):Option ((Tq3×Int×Int)) :=
 (iq 16 qa0 qa1).bind fun (i2,i3,i4)=>(loop (eW qa0 i2) (i3,0,i4,[])).bind fun (i5,i6,l7)=>some ((l7,i5,i6))
def I5:Hn Tryz.prog := .cl tT [] (.jn [] ⟨[kdI 6],[bkC 0 157 [.is 2 (.any),.dat Yq2],bkC 5 26 [.own 95 Yq3],bkU 1]⟩ [0,5] (.lp ⟨[kdI 6,kdI 7],[bkC 0 157 [.is 2 (.any),.dat Yq2],bkC 5 26 [.own 95 Yq3],bkU 1]⟩ (.wt 17 (.gp 2 (.tw 20 (.cl lX [] .nil) .nil)))) .nil)
def Ji:Spec:=⟨95,⟨[(0,.ptr 0 0)],[bkN 157 [.is 1 (.dat .str),.dat Yq2],bkM]⟩,[⟨[(0,.tup [.agg [.own 95 Yq3],.dat Yq2])],[bkC 0 157 [.is 1 (.any),.dat Yq2],bkU 1]⟩],fun x=>eX x.1 x.2⟩
def tX:OkSpec Tryz.prog:=⟨Ji,ae func95 I5 (by kernel_rfl) (by kernel_rfl),call95⟩

def ku (xa:ba):Option ((Tq3×Int×Int)) :=
 (eX xa 0).bind fun (l28,i29,i30)=>cond (!decide (i29=0)) (some (([],0,i29))) (some ((l28,i30,0)))
def IU:Hn Tryz.prog := .mc 2 0 4 (.cl tX [] (.tw 15 .nil (.mix [([0,1,2],3)] [4,5] [] [0] .nil)))
def JC:Spec:=⟨64,⟨[(0,.dat .str)],[]⟩,[⟨[(0,.tup [.agg [.own 95 Yq3],.dat Yq2,.dat Yq2])],[]⟩],fun x=>ku x⟩
def Jo:OkSpec Tryz.prog:=⟨JC,ae func64 IU (by kernel_rfl) (by kernel_rfl),call64⟩

def fP (qa0:List UInt8) (qa1:Int) (qa2:Int):Option ((Tq3×List UInt8×Int×Int)) :=
 cond (!decide (qa2=0)) (some (([],qa0,qa1,qa2))) ((ku qa0).bind fun (l35,i36,i37)=>cond (!decide (i37=0)) (some (([],qa0,qa1,i37))) ((subL qa0 i36 (qa0.length:Int)).bind fun y48=>some ((l35,y48,IntKind.wrap .i64 (qa1 + 1),qa2))))
def H7:Hn Tryz.prog := .tw 13 .nil (.cl Jo [] (.tw 26 .nil .nil))
def JL:Spec:=⟨65,⟨[(0,.ptr 0 0),(1,.fn 64 [])],[bkN 115 [.dat .str,.dat Yq2,.dat Yq2]]⟩,[⟨[(0,.agg [.own 95 Yq3])],[bkC 0 115 [.dat .str,.dat Yq2,.dat Yq2]]⟩],fun x=>fP x.1 x.2.1 x.2.2⟩
def zE:OkSpec Tryz.prog:=⟨JL,ae func65 H7 (by kernel_rfl) (by kernel_rfl),call65⟩
def mf (i1:Int):((List Tq3)×Int×List UInt8×Int×Int)->Option (((List Tq3)×Int×List UInt8×Int×Int)⊕((List Tq3)×List UInt8×Int×Int)):=fun (l2,i3,s4,i5,i6)=>cond ((decide (i3 < i1))&&(decide (i6=0))) ((fP s4 i5 i6).bind fun (l7,s9,i10,i11)=>(app (l2:List Tq3) (([l7]:List Tq3):List Tq3)).bind fun z12=>some (.inl ((z12,IntKind.wrap .i64 (i3 + 1),s9,i10,i11)))) (some (.inr (((l2,s4,i5,i6)))))
def jZ (qa0:List UInt8) (qa1:Int) (qa2:Int):Option (((List Tq3)×List UInt8×Int×Int)) :=
 (bx qa0 qa1 qa2).bind fun (i3,s4,i5,i6)=>(loop (mf i3) ([],0,s4,i5,i6)).bind fun (l7,s9,i10,i11)=>some ((l7,s9,i10,i11))
def JY:Hn Tryz.prog := .cl jN [] (.jn [] ⟨[(5,.od (.row 26 (.one (.row 95 (.dat Yq3)))))],[bkC 0 115 [.dat .str,.dat Yq2,.dat Yq2]]⟩ [0] (.lp ⟨[(5,.od (.row 26 (.one (.row 95 (.dat Yq3))))),kdI 7],[bkC 0 115 [.dat .str,.dat Yq2,.dat Yq2]]⟩ (.wt 13 (.gp 5 (.tw 19 (.cl zE [] (.ot (.one (.row 95 (.dat Yq3))) (.ot (.one (.row 95 (.dat Yq3))) .nil))) .nil)))) .nil)
def GT:Spec:=⟨63,⟨[(0,.ptr 0 0),(1,.fn 64 [])],[bkN 115 [.dat .str,.dat Yq2,.dat Yq2]]⟩,[⟨[(0,.od (.row 26 (.one (.row 95 (.dat Yq3)))))],[bkC 0 115 [.dat .str,.dat Yq2,.dat Yq2]]⟩],fun x=>jZ x.1 x.2.1 x.2.2⟩
def HP:OkSpec Tryz.prog:=⟨GT,ae func63 JY (by kernel_rfl) (by kernel_rfl),call63⟩

def qh (qa0:List UInt8) (qa1:Int) (qb0:Int) (qc0:Int):Option (Int×Int×Int) :=
 (cX qa0 qa1).bind fun (i14,i15,i17)=>some ((i17,i14,i15))
def HM:Hn Tryz.prog := .cl lX [] .nil
def J2:Spec:=⟨97,⟨[(0,.ptr 0 0),(1,.ptr 1 0),(2,.ptr 2 0)],[bkN 157 [.is 3 (.dat .str),.dat Yq2],bkN 55 [.dat Yq2,.nils,.nils,.nils],bkN 36 [.dat Yq2],bkM]⟩,[⟨[],[bkC 0 157 [.is 3 (.any),.dat Yq2],bkC 1 55 [.dat Yq2,.nils,.nils,.nils],bkC 2 36 [.dat Yq2],bkU 3]⟩],fun x=>qh x.1 x.2.1 x.2.2.1 x.2.2.2⟩
def Jt:OkSpec Tryz.prog:=⟨J2,ae func97 HM (by kernel_rfl) (by kernel_rfl),call97⟩

def qi (qa0:List UInt8) (qa1:Int) (qb0:Int) (qc0:Int):Option ((Int×Tq7×Int)) :=
 (ip 16 qa0 qa1).bind fun (l22,i23,i24)=>some ((i24,l22,i23))
def G8:Hn Tryz.prog := .cl zW [] .nil
def Ii:Spec:=⟨99,⟨[(0,.ptr 0 0),(1,.ptr 1 0),(2,.ptr 2 0)],[bkN 157 [.is 3 (.dat .str),.dat Yq2],bkN 55 [.is 4 (.dat Yq2),.nils,.nils,.nils],bkN 36 [.dat Yq2],bkM,bkM]⟩,[⟨[],[bkC 0 157 [.is 3 (.any),.dat Yq2],bkC 1 55 [.is 4 (.any),.own 84 Yq7,.nils,.nils],bkC 2 36 [.dat Yq2],bkU 3,bkU 4]⟩],fun x=>qi x.1 x.2.1 x.2.2.1 x.2.2.2⟩
def GN:OkSpec Tryz.prog:=⟨Ii,ae func99 G8 (by kernel_rfl) (by kernel_rfl),call99⟩
def eV (qa0:List UInt8) (i1:Int):((List Tq3)×Int×Int×Int)->Option (((List Tq3)×Int×Int×Int)⊕((List Tq3)×Int×Int)):=fun (l2,i3,i4,i5)=>cond ((decide (i4 < i1))&&(decide (i3=0))) ((eX qa0 i5).bind fun (l6,i7,i9)=>(app l2 (([l6]:List Tq3))).bind fun z10=>some (.inl ((z10,i7,IntKind.wrap .i64 (i4 + 1),i9)))) (some (.inr (((l2,i3,i5)))))
def mC (qa0:List UInt8) (qa1:Int):Option (((List Tq3)×Int×Int)) :=
 (iq 16 qa0 qa1).bind fun (i2,i3,i4)=>(loop (eV qa0 i2) ([],i3,0,i4)).bind fun (l5,i6,i7)=>some ((l5,i6,i7))
def Jf:Hn Tryz.prog := .cl tT [] (.jn [] ⟨[(4,.own 26 Yq8),kdI 6],[bkC 0 157 [.is 1 (.any),.dat Yq2],bkU 1]⟩ [0] (.lp ⟨[(4,.own 26 Yq8),kdI 6,kdI 7],[bkC 0 157 [.is 1 (.any),.dat Yq2],bkU 1]⟩ (.wt 17 (.gp 2 (.tw 20 (.cl tX [] (.per 11 12 .nil)) .nil)))) .nil)
def Hm:Spec:=⟨102,⟨[(0,.ptr 0 0)],[bkN 157 [.is 1 (.dat .str),.dat Yq2],bkM]⟩,[⟨[(0,.tup [.own 26 Yq8,.dat Yq2])],[bkC 0 157 [.is 1 (.any),.dat Yq2],bkU 1]⟩],fun x=>mC x.1 x.2⟩
def KB:OkSpec Tryz.prog:=⟨Hm,ae func102 Jf (by kernel_rfl) (by kernel_rfl),call102⟩

def qk (qa0:List UInt8) (qa1:Int) (qb0:Int) (qb1:Tq7) (qc0:Int):Option ((Int×Tq7×(List Tq3)×Int)) :=
 (mC qa0 qa1).bind fun (l27,i28,i29)=>some ((i29,qb1,l27,i28))
def JU:Hn Tryz.prog := .cl KB [] .nil
def HY:Spec:=⟨101,⟨[(0,.ptr 0 0),(1,.ptr 1 0),(2,.ptr 2 0)],[bkN 157 [.is 3 (.dat .str),.dat Yq2],bkN 55 [.is 4 (.dat Yq2),.own 84 Yq7,.nils,.nils],bkN 36 [.dat Yq2],bkM,bkM]⟩,[⟨[],[bkC 0 157 [.is 3 (.any),.dat Yq2],bkC 1 55 [.is 4 (.any),.own 84 Yq7,.own 26 Yq8,.nils],bkC 2 36 [.dat Yq2],bkU 3,bkU 4]⟩],fun x=>qk x.1 x.2.1 x.2.2.1 x.2.2.2.1 x.2.2.2.2⟩
def KI:OkSpec Tryz.prog:=⟨HY,ae func101 JU (by kernel_rfl) (by kernel_rfl),call101⟩

def qm (qa0:List UInt8) (qa1:Int) (qb0:Int) (qb1:Tq7) (qb2:(List Tq3)) (qc0:Int):Option ((Int×Tq7×(List Tq3)×Tq3×Int)) :=
 (eX qa0 qa1).bind fun (l32,i33,i34)=>some ((i34,qb1,qb2,l32,i33))
def HO:Hn Tryz.prog := .cl tX [] .nil
def II:Spec:=⟨103,⟨[(0,.ptr 0 0),(1,.ptr 1 0),(2,.ptr 2 0)],[bkN 157 [.is 3 (.dat .str),.dat Yq2],bkN 55 [.is 4 (.dat Yq2),.own 84 Yq7,.own 26 Yq8,.nils],bkN 36 [.dat Yq2],bkM,bkM]⟩,[⟨[],[bkC 0 157 [.is 3 (.any),.dat Yq2],bkC 1 55 [.is 4 (.any),.own 84 Yq7,.own 26 Yq8,.own 95 Yq3],bkC 2 36 [.dat Yq2],bkU 3,bkU 4]⟩],fun x=>qm x.1 x.2.1 x.2.2.1 x.2.2.2.1 x.2.2.2.2.1 x.2.2.2.2.2⟩
def IY:OkSpec Tryz.prog:=⟨II,ae func103 HO (by kernel_rfl) (by kernel_rfl),call103⟩

def iS (xa:ba):Option ((Int×Tq7×(List Tq3)×Tq3×Int×Int)) :=
 (qh xa 0 0 0).bind fun (i98,i99,i1)=>cond (!decide (i1=0)) (some ((0,[],[],[],0,i1))) ((qi xa i98 i99 i1).bind fun (i2,l3,i4)=>cond (!decide (i4=0)) (some ((0,[],[],[],0,i4))) ((qk xa i2 i99 l3 i4).bind fun (i5,l6,l7,i9)=>cond (!decide (i9=0)) (some ((0,[],[],[],0,i9))) ((qm xa i5 i99 l6 l7 i9).bind fun (i10,l11,l12,l13,i14)=>cond (!decide (i14=0)) (some ((0,[],[],[],0,i14))) (some ((i99,l11,l12,l13,i10,0))))))
def Hh:Hn Tryz.prog := .un 64 (.wt 1000011 (.mc 2 0 4 (.cl Jt [] (.tw 27 (.mix [([0,1],2)] [3,4] [] [0] .nil) (.wt 1000018 (.mc 5 0 16 (.cl GN [] (.tw 27 (.mix [([0,1],2)] [3,4] [] [0] .nil) (.cl KI [] (.tw 27 (.mix [([0,1],2)] [3,4] [] [0] .nil) (.cl IY [] (.tw 27 (.mix [([0,1],2)] [3,4] [] [0] .nil) (.mix [([0,1,2],3)] [4,5] [] [0] .nil)))))))))))))
def IZ:Spec:=⟨67,⟨[(0,.dat .str)],[]⟩,[⟨[(0,.tup [.agg [.dat Yq2,.own 84 Yq7,.own 26 Yq8,.own 95 Yq3],.dat Yq2,.dat Yq2])],[]⟩],fun x=>iS x⟩
def Kv:OkSpec Tryz.prog:=⟨IZ,ae func67 Hh (by kernel_rfl) (by kernel_rfl),call67⟩

def mA (qa0:List UInt8) (qa1:Int) (qa2:Int):Option ((Int×Tq7×(List Tq3)×Tq3×List UInt8×Int×Int)) :=
 cond (!decide (qa2=0)) (some ((0,[],[],[],qa0,qa1,qa2))) ((iS qa0).bind fun (i58,l59,l60,l61,i62,i63)=>cond (!decide (i63=0)) (some ((0,[],[],[],qa0,qa1,i63))) ((subL qa0 i62 (qa0.length:Int)).bind fun y84=>some ((i58,l59,l60,l61,y84,IntKind.wrap .i64 (qa1 + 1),qa2))))
def Km:Hn Tryz.prog := .tw 13 .nil (.cl Kv [] (.tw 26 .nil .nil))
def GO:Spec:=⟨96,⟨[(0,.ptr 0 0),(1,.fn 67 [])],[bkN 115 [.dat .str,.dat Yq2,.dat Yq2]]⟩,[⟨[(0,.agg [.dat Yq2,.own 84 Yq7,.own 26 Yq8,.own 95 Yq3])],[bkC 0 115 [.dat .str,.dat Yq2,.dat Yq2]]⟩],fun x=>mA x.1 x.2.1 x.2.2⟩
def H3:OkSpec Tryz.prog:=⟨GO,ae func96 Km (by kernel_rfl) (by kernel_rfl),call96⟩
def mh (i1:Int):((List Tq5)×Int×List UInt8×Int×Int)->Option (((List Tq5)×Int×List UInt8×Int×Int)⊕((List Tq5)×List UInt8×Int×Int)):=fun (l2,i3,s4,i5,i6)=>cond ((decide (i3 < i1))&&(decide (i6=0))) ((mA s4 i5 i6).bind fun (i7,l9,l10,l11,s12,i13,i14)=>(app l2 (([(i7,l9,l10,l11)]:List Tq5))).bind fun z15=>some (.inl ((z15,IntKind.wrap .i64 (i3 + 1),s12,i13,i14)))) (some (.inr (((l2,s4,i5,i6)))))
def j6 (qa0:List UInt8) (qa1:Int) (qa2:Int):Option (((List Tq5)×List UInt8×Int×Int)) :=
 (bx qa0 qa1 qa2).bind fun (i3,s4,i5,i6)=>(loop (mh i3) ([],0,s4,i5,i6)).bind fun (l7,s9,i10,i11)=>some ((l7,s9,i10,i11))
def KG:Hn Tryz.prog := .cl jN [] (.jn [] ⟨[(5,.own 55 Yq4)],[bkC 0 115 [.dat .str,.dat Yq2,.dat Yq2]]⟩ [0] (.lp ⟨[(5,.own 55 Yq4),kdI 7],[bkC 0 115 [.dat .str,.dat Yq2,.dat Yq2]]⟩ (.wt 13 (.gp 5 (.tw 19 (.cl H3 [] (.per 8 9 (.per 10 11 (.per 12 13 .nil)))) .nil)))) .nil)
def JR:Spec:=⟨66,⟨[(0,.ptr 0 0),(1,.fn 67 [])],[bkN 115 [.dat .str,.dat Yq2,.dat Yq2]]⟩,[⟨[(0,.own 55 Yq4)],[bkC 0 115 [.dat .str,.dat Yq2,.dat Yq2]]⟩],fun x=>j6 x.1 x.2.1 x.2.2⟩
def GB:OkSpec Tryz.prog:=⟨JR,ae func66 KG (by kernel_rfl) (by kernel_rfl),call66⟩

def d6 (xa:Bool) (qa0:Int) (qb0:List UInt8) (qc0:Int):Option (Int×Int×Int) :=
 cond ((!xa)||(!decide (qa0=0))) (some ((0,qa0,qc0))) ((subL qb0 qc0 (qb0.length:Int)).bind fun y22=>(ek y22).bind fun (i26,i27,i28)=>some ((i26,i28,IntKind.wrap .i64 (qc0 + i27))))
def JG:Hn Tryz.prog := .gp 2 (.tw 14 .nil (.cl lO [] .nil))
def J4:Spec:=⟨106,⟨[kdB 0,(1,.ptr 0 0),(2,.ptr 1 0),(3,.ptr 2 0)],[bkN 36 [.dat Yq2],bkN 9 [.is 3 (.dat .str)],bkN 3 [.dat Yq2],bkM]⟩,[⟨[kdI 0],[bkC 0 36 [.dat Yq2],bkC 1 9 [.is 3 (.any)],bkC 2 3 [.dat Yq2],bkU 3]⟩],fun x=>d6 x.1 x.2.1 x.2.2.1 x.2.2.2⟩
def ud:OkSpec Tryz.prog:=⟨J4,ae func106 JG (by kernel_rfl) (by kernel_rfl),call106⟩

def kM (xa:ba):Option (Int×Int×Int×Int×Bool×Int×Int) :=
 (ek xa).bind fun (i62,i63,i65)=>cond (!decide (i65=0)) (some ((0,0,0,0,false,0,i65))) ((kl i62).bind fun (t74,t75,t76,t77)=>cond (!t77) (some ((0,0,0,0,false,0,3))) ((d6 t74 i65 xa i63).bind fun (i86,i87,i88)=>(d6 t75 i87 xa i88).bind fun (i94,i95,i96)=>(d6 t76 i95 xa i96).bind fun (i1,i2,i3)=>cond (!decide (i2=0)) (some ((0,0,0,0,false,0,i2))) (some ((i62,i86,i94,IntKind.wrap .i64 (ag0 i1 2),decide ((ar0 i1 2)=1),i3,0)))))
def J5:Hn Tryz.prog := .cl lO [] (.tw 20 (.mix [([0,1],2)] [3,4] [] [2] .nil) (.cl zO [] (.tw 29 .nil (.wt 1000016 (.mc 0 0 1 (.cl ud [] (.cl ud [] (.cl ud [] (.tw 56 (.mix [([0,1],2)] [3,4] [] [2] .nil) (.mix [([0,1],2)] [3,4] [] [2] .nil))))))))))
def J3:Spec:=⟨69,⟨[(0,.dat .str)],[]⟩,[⟨[(0,.tup [.agg [.dat Yq2,.dat Yq2,.dat Yq2,.dat Yq2,.dat .bool],.dat Yq2,.dat Yq2])],[]⟩],fun x=>kM x⟩
def Jq:OkSpec Tryz.prog:=⟨J3,ae func69 J5 (by kernel_rfl) (by kernel_rfl),call69⟩

def ml (qa0:List UInt8) (qa1:Int) (qa2:Int):Option (Int×Int×Int×Int×Bool×List UInt8×Int×Int) :=
 cond (!decide (qa2=0)) (some ((0,0,0,0,false,qa0,qa1,qa2))) ((kM qa0).bind fun (i34,i35,i36,i37,t38,i39,i40)=>cond (!decide (i40=0)) (some ((0,0,0,0,false,qa0,qa1,i40))) ((subL qa0 i39 (qa0.length:Int)).bind fun y46=>some ((i34,i35,i36,i37,t38,y46,IntKind.wrap .i64 (qa1 + 1),qa2))))
def IC:Hn Tryz.prog := .tw 13 .nil (.cl Jq [] (.tw 26 .nil .nil))
def HU:Spec:=⟨104,⟨[(0,.ptr 0 0),(1,.fn 69 [])],[bkN 115 [.dat .str,.dat Yq2,.dat Yq2]]⟩,[⟨[(0,.agg [.dat Yq2,.dat Yq2,.dat Yq2,.dat Yq2,.dat .bool])],[bkC 0 115 [.dat .str,.dat Yq2,.dat Yq2]]⟩],fun x=>ml x.1 x.2.1 x.2.2⟩
def Ka:OkSpec Tryz.prog:=⟨HU,ae func104 IC (by kernel_rfl) (by kernel_rfl),call104⟩
def mg (i1:Int):((List Tq4)×Int×List UInt8×Int×Int)->Option (((List Tq4)×Int×List UInt8×Int×Int)⊕((List Tq4)×List UInt8×Int×Int)):=fun (l2,i3,s4,i5,i6)=>cond ((decide (i3 < i1))&&(decide (i6=0))) ((ml s4 i5 i6).bind fun (i7,i9,i10,i11,t12,s13,i14,i15)=>(app l2 (([(i7,i9,i10,i11,t12)]:List Tq4))).bind fun z16=>some (.inl ((z16,IntKind.wrap .i64 (i3 + 1),s13,i14,i15)))) (some (.inr (((l2,s4,i5,i6)))))
def mi (qa0:List UInt8) (qa1:Int) (qa2:Int):Option (((List Tq4)×List UInt8×Int×Int)) :=
 (bx qa0 qa1 qa2).bind fun (i3,s4,i5,i6)=>(loop (mg i3) ([],0,s4,i5,i6)).bind fun (l7,s9,i10,i11)=>some ((l7,s9,i10,i11))
def H8:Hn Tryz.prog := .cl jN [] (.jn [] ⟨[(5,.own 63 Yq6)],[bkC 0 115 [.dat .str,.dat Yq2,.dat Yq2]]⟩ [0] (.lp ⟨[(5,.own 63 Yq6),kdI 7],[bkC 0 115 [.dat .str,.dat Yq2,.dat Yq2]]⟩ (.wt 13 (.gp 5 (.tw 19 (.cl Ka [] .nil) .nil)))) .nil)
def Jx:Spec:=⟨68,⟨[(0,.ptr 0 0),(1,.fn 69 [])],[bkN 115 [.dat .str,.dat Yq2,.dat Yq2]]⟩,[⟨[(0,.own 63 Yq6)],[bkC 0 115 [.dat .str,.dat Yq2,.dat Yq2]]⟩],fun x=>mi x.1 x.2.1 x.2.2⟩
def GK:OkSpec Tryz.prog:=⟨Jx,ae func68 H8 (by kernel_rfl) (by kernel_rfl),call68⟩

def cg (qa0:List UInt8) (qa1:Int) (qa2:Int):Option (Int×Int×Int) :=
 cond (!decide (qa2=0)) (some ((0,qa1,qa2))) ((subL qa0 qa1 (qa0.length:Int)).bind fun y77=>(ek y77).bind fun (i81,i82,i83)=>some ((i81,IntKind.wrap .i64 (qa1 + i82),i83)))
def KF:Hn Tryz.prog := .tw 10 .nil (.mix [([0,1,2,3,4,5,6,7,8],9)] [10,11,12,13,14,15,16] [] [] (.cl lO [] .nil))
def HG:Spec:=⟨107,⟨[(0,.ptr 0 0)],[bkN 178 [.is 1 (.dat .str),.dat Yq2,.dat Yq2],bkM]⟩,[⟨[kdI 0],[bkC 0 178 [.is 1 (.any),.dat Yq2,.dat Yq2],bkU 1]⟩],fun x=>cg x.1 x.2.1 x.2.2⟩
def hZ:OkSpec Tryz.prog:=⟨HG,ae func107 KF (by kernel_rfl) (by kernel_rfl),call107⟩
def fQ (qa0:List UInt8) (i1:Int):((List Int)×Int×Int×Int)->Option (((List Int)×Int×Int×Int)⊕((List Int)×Int×Int)):=fun (l2,i3,i4,i5)=>cond ((decide (i3 < i1))&&(decide (i5=0))) ((cg qa0 i4 i5).bind fun (i6,i7,i9)=>(app l2 ([i6]:List Int)).bind fun z10=>some (.inl ((z10,IntKind.wrap .i64 (i3 + 1),i7,i9)))) (some (.inr (((l2,i4,i5)))))
def d7 (xb:Int) (qa0:List UInt8) (qa1:Int) (qa2:Int):Option (((List Int)×Int×Int)) :=
 (cg qa0 qa1 qa2).bind fun (i3,i4,i5)=>(cond (decide (xb < i3)) (some (6)) (some (i5)):Option Int).bind fun i6=>(loop (fQ qa0 i3) ([],0,i4,i6)).bind fun (l7,i9,i10)=>some ((l7,i9,i10))
def HH:Hn Tryz.prog := .cl hZ [] (.sq [(0,1)] ⟨[],[bkC 0 178 [.is 1 (.any),.is 2 (.any),.dat Yq2],bkU 1,bkU 5]⟩ [0] (.tw 12 .nil .nil) (.jn [] ⟨[(6,.own 3 Yq2)],[bkC 0 178 [.is 1 (.any),.dat Yq2,.dat Yq2],bkU 1]⟩ [0] (.lp ⟨[(6,.own 3 Yq2),kdI 7],[bkC 0 178 [.is 1 (.any),.dat Yq2,.dat Yq2],bkU 1]⟩ (.wt 19 (.gp 5 (.tw 25 (.cl hZ [] .nil) .nil)))) .nil))
def Jc:Spec:=⟨134,⟨[(0,.ptr 0 0),kdI 1],[bkN 178 [.is 1 (.dat .str),.dat Yq2,.dat Yq2],bkM]⟩,[⟨[(0,.own 3 Yq2)],[bkC 0 178 [.is 1 (.any),.dat Yq2,.dat Yq2],bkU 1]⟩],fun x=>d7 x.1 x.2.1 x.2.2.1 x.2.2.2⟩
def pB:OkSpec Tryz.prog:=⟨Jc,ae func134 HH (by kernel_rfl) (by kernel_rfl),call134⟩

def mn (qa0:List UInt8) (qa1:Int) (qa2:Int) (qb0:Int) (qb1:Int) (qb2:Int):Option ((Int×Int×Int×Int×(List Int)×(List Int)×(List Int))) :=
 cond (decide (qb0=1)) ((cg qa0 qa1 qa2).bind fun (i3,i4,i5)=>some ((i4,i5,qb1,qb2,([i3]:List Int),[],[]))) (cond (decide (qb0=2)) ((d7 16 qa0 qa1 qa2).bind fun (l6,i7,i9)=>(cond ((decide (i9=0))&&(decide ((l6.length:Int)=0))) (some (3)) (some (i9)):Option Int).bind fun i10=>(d7 16 qa0 i7 i10).bind fun (l11,i12,i13)=>some ((i12,i13,qb1,qb2,l6,l11,[]))) (cond (decide (qb0=3)) (some ((qa1,qa2,qb1,qb2,[],[],[]))) (cond (decide (qb0=4)) ((cg qa0 qa1 qa2).bind fun (i14,i15,i16)=>(cg qa0 i15 i16).bind fun (i17,i18,i19)=>(cg qa0 i18 i19).bind fun (i20,i21,i22)=>(d7 16 qa0 i21 i22).bind fun (l23,i24,i25)=>(d7 16 qa0 i24 i25).bind fun (l26,i27,i28)=>some ((i27,i28,i14,i17,([i20]:List Int),l26,l23))) (some ((qa1,3,qb1,qb2,[],[],[]))))))
def IF:Hn Tryz.prog := .tw 11 (.cl hZ [] .nil) (.tw 19 (.cl pB [] (.sq [(0,1)] ⟨[],[bkC 0 178 [.is 1 (.any),.is 2 (.any),.dat Yq2],bkU 2,bkU 11]⟩ [0] (.wt 31 (.gp 6 (.tw 38 .nil .nil))) (.cl pB [] .nil))) (.tw 47 .nil (.tw 49 (.cl hZ [] (.cl hZ [] (.cl hZ [] (.cl pB [] (.cl pB [] .nil))))) .nil)))
def Ku:Spec:=⟨108,⟨[(0,.ptr 0 0),(1,.ptr 1 0)],[bkN 178 [.is 2 (.dat .str),.dat Yq2,.dat Yq2],bkN 59 [.is 3 (.dat Yq2),.dat Yq2,.dat Yq2,.nils,.nils,.nils],bkM,bkM]⟩,[⟨[],[bkC 0 178 [.is 2 (.any),.dat Yq2,.dat Yq2],bkC 1 59 [.is 3 (.any),.dat Yq2,.dat Yq2,.own 3 Yq2,.own 3 Yq2,.own 3 Yq2],bkU 2,bkU 3]⟩],fun x=>mn x.1 x.2.1 x.2.2.1 x.2.2.2.1 x.2.2.2.2.1 x.2.2.2.2.2⟩
def Jh:OkSpec Tryz.prog:=⟨Ku,ae func108 IF (by kernel_rfl) (by kernel_rfl),call108⟩

def cJ (xa:ba):Option ((Int×Int×Int×(List Int)×(List Int)×(List Int)×Int×Int)) :=
 (cg xa 0 0).bind fun (i1,i2,i3)=>(cond (decide (i3=0)) ((mn xa i2 i3 i1 0 0).bind fun (i4,i5,i6,i7,l9,l10,l11)=>some ((i4,i5,i6,i7,l9,l10,l11))) (some ((i2,i3,0,0,[],[],[]))):Option ((Int×Int×Int×Int×(List Int)×(List Int)×(List Int)))).bind fun (i12,i13,i14,i15,l16,l17,l18)=>cond (!decide (i13=0)) (some ((0,0,0,[],[],[],0,i13))) (some ((i1,i14,i15,l16,l17,l18,i12,0)))
def Io:Hn Tryz.prog := .mc 2 0 4 (.cl hZ [] (.sq [(8,0)] ⟨[],[bkC 2 178 [.is 2 (.any),.dat Yq2,.dat Yq2],bkC 8 59 [.is 3 (.any),.dat Yq2,.dat Yq2,.own 3 Yq2,.own 3 Yq2,.own 3 Yq2],bkU 5,bkU 11]⟩ [8,2] (.tw 13 (.cl Jh [] .nil) .nil) (.tw 17 (.mix [([0,1,2],3)] [4,5] [] [0] .nil) (.mix [([0,1,2],3)] [4,5] [] [0] .nil))))
def JH:Spec:=⟨71,⟨[(0,.dat .str)],[]⟩,[⟨[(0,.tup [.agg [.dat Yq2,.dat Yq2,.dat Yq2,.own 3 Yq2,.own 3 Yq2,.own 3 Yq2],.dat Yq2,.dat Yq2])],[]⟩],fun x=>cJ x⟩
def Ip:OkSpec Tryz.prog:=⟨JH,ae func71 Io (by kernel_rfl) (by kernel_rfl),call71⟩

def j5 (qa0:List UInt8) (qa1:Int) (qa2:Int):Option ((Int×Int×Int×(List Int)×(List Int)×(List Int)×List UInt8×Int×Int)) :=
 cond (!decide (qa2=0)) (some ((0,0,0,[],[],[],qa0,qa1,qa2))) ((cJ qa0).bind fun (i63,i65,i66,l67,l68,l69,i70,i71)=>cond (!decide (i71=0)) (some ((0,0,0,[],[],[],qa0,qa1,i71))) ((subL qa0 i70 (qa0.length:Int)).bind fun y92=>some ((i63,i65,i66,l67,l68,l69,y92,IntKind.wrap .i64 (qa1 + 1),qa2))))
def Gw:Hn Tryz.prog := .tw 13 .nil (.cl Ip [] (.tw 26 .nil .nil))
def JJ:Spec:=⟨70,⟨[(0,.ptr 0 0),(1,.fn 71 [])],[bkN 115 [.dat .str,.dat Yq2,.dat Yq2]]⟩,[⟨[(0,.agg [.dat Yq2,.dat Yq2,.dat Yq2,.own 3 Yq2,.own 3 Yq2,.own 3 Yq2])],[bkC 0 115 [.dat .str,.dat Yq2,.dat Yq2]]⟩],fun x=>j5 x.1 x.2.1 x.2.2⟩
def Gz:OkSpec Tryz.prog:=⟨JJ,ae func70 Gw (by kernel_rfl) (by kernel_rfl),call70⟩
def iw (i1:Int):(Int×List UInt8×Int×Int×(List Tq2))->Option ((Int×List UInt8×Int×Int×(List Tq2))⊕(List UInt8×Int×Int×(List Tq2))):=fun (i2,s3,i4,i5,l6)=>cond ((decide (i2 < i1))&&(decide (i5=0))) ((mi s3 i4 i5).bind fun (l7,s9,i10,i11)=>(j5 s9 i10 i11).bind fun (i12,i13,i14,l15,l16,l17,s18,i19,i20)=>(app (l6:List Tq2) (([(l7,(i12,i13,i14,l15,l16,l17))]:List Tq2):List Tq2)).bind fun z21=>some (.inl ((IntKind.wrap .i64 (i2 + 1),s18,i19,i20,z21)))) (some (.inr (((s3,i4,i5,l6)))))
def mZ (xa:ba):Option lT :=
 (mG xa ([109,105,114,1]:List UInt8)).bind fun (s1,t2)=>cond (!t2) (some ((0,0,[],[],[],[],[],12))) ((bx s1 0 0).bind fun (i3,s4,i5,i6)=>(bx s4 i5 i6).bind fun (i7,s9,i10,i11)=>(jY s9 i10 i11).bind fun (l12,s13,i14,i15)=>(jZ s13 i14 i15).bind fun (l16,s17,i18,i19)=>(fP s17 i18 i19).bind fun (l20,s21,i22,i23)=>(j6 s21 i22 i23).bind fun (l24,s25,i26,i27)=>(bx s25 i26 i27).bind fun (i28,s29,i30,i31)=>(loop (iw i28) (0,s29,i30,i31,[])).bind fun (s32,i33,i34,l35)=>(cond ((decide (i34=0))&&(!decide (s32=([]:List UInt8)))) (some (13)) (some (i34)):Option Int).bind fun i36=>cond (!decide (i36=0)) (some ((0,0,[],[],[],[],[],i36))) ((bc 0 i33).bind fun _=>some ((i3,i7,l12,l16,l20,l24,l35,0))))
def Hd:Hn Tryz.prog := .cl I3 [] (.tw 19 .nil (.cl jN [] (.cl jN [] (.cl Hs [] (.cl HP [] (.cl zE [] (.cl GB [] (.cl jN [] (.jn [(4,0),(4,1),(4,2),(4,3),(4,4),(4,5)] ⟨[],[bkC 2 115 [.dat .str,.dat Yq2,.dat Yq2],bkC 4 30 [.is 2 (.any),.is 3 (.any),.is 4 (.any),.is 5 (.any),.is 6 (.any),.is 7 (.any),.od (.row 61 (.cons (.row 63 (.dat Yq6)) (.one (.dat Yq5))))],bkU 34,bkU 35,bkU 36,bkU 37,bkU 38,bkU 39]⟩ [2,4] (.lp ⟨[kdI 11],[bkC 2 115 [.dat .str,.dat Yq2,.dat Yq2],bkC 4 30 [.is 2 (.any),.is 3 (.any),.is 4 (.any),.is 5 (.any),.is 6 (.any),.is 7 (.any),.od (.row 61 (.cons (.row 63 (.dat Yq6)) (.one (.dat Yq5))))],bkU 34,bkU 35,bkU 36,bkU 37,bkU 38,bkU 39]⟩ (.wt 47 (.gp 5 (.tw 53 (.cl GK [] (.cl Gz [] (.per 52 53 (.per 54 55 (.per 56 57 (.ot (.cons (.row 63 (.dat Yq6)) (.one (.dat Yq5))) (.ot (.cons (.row 63 (.dat Yq6)) (.one (.dat Yq5))) .nil))))))) .nil)))) (.sq [(2,0),(2,1)] ⟨[],[bkC 2 115 [.is 1 (.any),.is 2 (.any),.dat Yq2],bkU 44,bkU 45]⟩ [2] (.wt 73 (.gp 5 (.tw 79 .nil .nil))) (.tw 87 (.mix [([0,1,2,3,4],5)] [6] [] [0] .nil) (.cl oQ3 [] .nil))))))))))))
def Jz:Spec:=⟨31,⟨[(0,.dat .str),(1,.nilp)],[]⟩,[⟨[(0,.tup [.agg [.dat Yq2,.dat Yq2,.own 84 Yq7,.od (.row 26 (.one (.row 95 (.dat Yq3)))),.own 95 Yq3,.own 55 Yq4,.od (.row 61 (.cons (.row 63 (.dat Yq6)) (.one (.dat Yq5))))],.dat Yq2])],[]⟩],fun x=>mZ x⟩
def Jn:OkSpec Tryz.prog:=⟨Jz,ae func31 Hd (by kernel_rfl) (by kernel_rfl),call31⟩

def gv (xa:Tq1):Option (Tq1) :=
 (kP xa).bind fun (s63,i65)=>(mZ s63).bind fun (i71,i72,l73,l74,l75,l76,l77,i78)=>some ((i71,i72,l73,l74,l75,l76,l77))
def ID:Hn Tryz.prog := .cl Jd [] (.cl Jn [] .nil)
def JE:Spec:=⟨19,⟨[(0,.dat Yq1)],[]⟩,[⟨[(0,.agg [.dat Yq2,.dat Yq2,.own 84 Yq7,.od (.row 26 (.one (.row 95 (.dat Yq3)))),.own 95 Yq3,.own 55 Yq4,.od (.row 61 (.cons (.row 63 (.dat Yq6)) (.one (.dat Yq5))))])],[]⟩],fun x=>gv x⟩
def zL:OkSpec Tryz.prog:=⟨JE,ae func19 ID (by kernel_rfl) (by kernel_rfl),call19⟩

def eZ (xa:Int) (xb:Int):Option Bool :=
 some ((decide (0<=xa))&&(decide (xa < xb)))
def Fu:Hn Tryz.prog := .gp 3 .nil
def Gg:Spec:=⟨34,⟨[kdI 0,kdI 1],[]⟩,[⟨[kdB 0],[]⟩],fun x=>eZ x.1 x.2⟩
def lF:OkSpec Tryz.prog:=⟨Gg,ae func34 Fu (by kernel_rfl) (by kernel_rfl),call34⟩

def p7 (xb:Int) (xc:Int) (qxa:(List Tq4)):Option ((List Tq4)) :=
 (bV qxa xb xc).bind fun y10=>some (y10)
def Fy:Spec:=⟨72,⟨[(0,.own 63 Yq6),kdI 1,kdI 2],[]⟩,[⟨[(0,.own 63 Yq6)],[]⟩],fun x=>p7 x.2.1 x.2.2 x.1⟩
def Fv:OkSpec Tryz.prog:=⟨Fy,DG,call72⟩

def mj (xb:Int) (qxa:(List Tq4)) (qxc:(List Tq4)):Option ((List Tq4)) :=
 (eR qxa xb qxc).bind fun y10=>some (y10)
def FN:Spec:=⟨73,⟨[(0,.own 63 Yq6),kdI 1,(2,.own 63 Yq6)],[]⟩,[⟨[(0,.own 63 Yq6)],[]⟩],fun x=>mj x.2.1 x.1 x.2.2⟩
def pf:OkSpec Tryz.prog:=⟨FN,DY,call73⟩
def mq (xb:Tq6) (x1:Tq2) (x2:Tq4) (qa6:(List Tq2)) (x3:Tq2):Option ((List Tq2)):=(aT xb.2.1 xb.2.1).bind fun _=>(mj xb.2.2.1 x1.1 (([x2]:List Tq4))).bind fun l4=>(aT xb.2.1 xb.2.1).bind fun _=>some ((qa6.set xb.2.1.toNat x3).set xb.2.1.toNat ((l4,x1.2)))
def mw (x1:Tq2) (xb:Tq6) (x2:Tq4) (x3:Tq4):Option ((List Tq4)):=(aa x1.1 xb.2.2.1).bind fun x4=>(some (x1.1.set xb.2.2.1.toNat x2)).bind fun z5=>(aa z5 (IntKind.wrap .i64 (xb.2.2.1 + 1))).bind fun x6=>(some (z5.set (IntKind.wrap .i64 (xb.2.2.1 + 1)).toNat x3)).bind fun z7=>some (z7)
def qb (xb:Tq6) (x1:Tq2) (x2:Tq4) (x3:Tq4):Option ((List Tq4)):=(aT xb.2.1 xb.2.1).bind fun _=>(mw x1 xb x2 x3).bind fun x4=>(mw x1 xb x2 x3).bind fun y5=>agr x4 y5 (some x4)
def io (xb:Tq6) (x1:Tq2) (x2:Tq4) (x3:Tq4):Option ((List Tq4)):=(aT xb.2.1 xb.2.1).bind fun _=>(aa x1.1 xb.2.2.1).bind fun x4=>(some (x1.1.set xb.2.2.1.toNat x2)).bind fun z5=>(aa z5 (IntKind.wrap .i64 (xb.2.2.1 + 1))).bind fun x6=>(some (z5.set (IntKind.wrap .i64 (xb.2.2.1 + 1)).toNat x3)).bind fun z7=>some (z7)
def mz (xb:Tq6) (x1:Tq2) (x2:Tq4) (x3:Tq4):Option ((List Tq4)):=(io xb x1 x2 x3).bind fun x4=>(io xb x1 x2 x3).bind fun y5=>agr x4 y5 (some x4)
def qa (xb:Tq6) (x1:Tq2) (x2:Tq4) (x3:Tq4):Option ((List Tq4)):=(mz xb x1 x2 x3).bind fun x4=>(mz xb x1 x2 x3).bind fun y5=>agr x4 y5 (some x4)
def mB (xb:Tq6) (x1:Tq2) (x2:Tq4) (x3:Tq4):Option ((List Tq4)):=(aT xb.2.1 xb.2.1).bind fun _=>(qb xb x1 x2 x3).bind fun x4=>(qa xb x1 x2 x3).bind fun y5=>agr x4 y5 (some x4)
def mr (xb:Tq6) (x1:Tq2) (x2:Tq4) (x3:Tq4):Option ((List Tq4)):=(aT xb.2.1 xb.2.1).bind fun _=>(io xb x1 x2 x3).bind fun x4=>(io xb x1 x2 x3).bind fun y5=>agr x4 y5 (some x4)
def my (xb:Tq6) (x1:Tq2) (x2:Tq4) (x3:Tq4):Option ((List Tq4)):=(aT xb.2.1 xb.2.1).bind fun _=>(aT xb.2.1 xb.2.1).bind fun _=>(aa x1.1 xb.2.2.1).bind fun x4=>(some (x1.1.set xb.2.2.1.toNat x2)).bind fun z5=>(aa z5 (IntKind.wrap .i64 (xb.2.2.1 + 1))).bind fun x6=>(some (z5.set (IntKind.wrap .i64 (xb.2.2.1 + 1)).toNat x3)).bind fun z7=>some (z7)
def p9 (xb:Tq6) (x1:Tq2) (x2:Tq4) (x3:Tq4):Option ((List Tq4)):=(my xb x1 x2 x3).bind fun x4=>(my xb x1 x2 x3).bind fun y5=>agr x4 y5 (some x4)
def p8 (xb:Tq6) (x1:Tq2) (x2:Tq4) (x3:Tq4):Option ((List Tq4)):=(mr xb x1 x2 x3).bind fun x4=>(p9 xb x1 x2 x3).bind fun y5=>agr x4 y5 (some x4)
def mo (xb:Tq6) (x1:Tq2) (x2:Tq4) (x3:Tq4):Option ((List Tq4)):=(mr xb x1 x2 x3).bind fun x4=>(p8 xb x1 x2 x3).bind fun y5=>agr x4 y5 (some x4)
def j7 (xb:Tq6) (qa0:Int) (qa1:Int) (qa2:Tq7) (qa3:(List Tq3)) (qa4:Tq3) (qa5:(List Tq5)) (qa6:(List Tq2)):Option ((Bool×Tq7×(List Tq3)×Tq3×(List Tq5)×(List Tq2))) :=
 (eZ xb.2.1 (qa6.length:Int)).bind fun t7=>cond (!t7) (some ((false,qa2,qa3,qa4,qa5,qa6))) ((aa qa6 xb.2.1).bind fun _=>(aa qa6 xb.2.1).bind fun x8=>(aT xb.2.1 xb.2.1).bind fun _=>(eZ xb.2.2.1 (x8.1.length:Int)).bind fun t9=>cond (!t9) (some ((false,qa2,qa3,qa4,qa5,qa6.set xb.2.1.toNat ((x8.1,(x8.2.1,x8.2.2.1,x8.2.2.2.1,x8.2.2.2.2.1,x8.2.2.2.2.2.1,x8.2.2.2.2.2.2)))))) ((aa (qa6.set xb.2.1.toNat ((x8.1,(x8.2.1,x8.2.2.1,x8.2.2.2.1,x8.2.2.2.2.1,x8.2.2.2.2.2.1,x8.2.2.2.2.2.2)))) xb.2.1).bind fun _=>cond (decide (xb.1=1)) ((aa (qa6.set xb.2.1.toNat ((x8.1,(x8.2.1,x8.2.2.1,x8.2.2.2.1,x8.2.2.2.2.1,x8.2.2.2.2.2.1,x8.2.2.2.2.2.2)))) xb.2.1).bind fun x10=>(aT xb.2.1 xb.2.1).bind fun _=>(aa x10.1 xb.2.2.1).bind fun x11=>(some (x10.1.set xb.2.2.1.toNat (0,0,0,0,false))).bind fun z12=>some ((true,qa2,qa3,qa4,qa5,(qa6.set xb.2.1.toNat ((x8.1,(x8.2.1,x8.2.2.1,x8.2.2.2.1,x8.2.2.2.2.1,x8.2.2.2.2.2.1,x8.2.2.2.2.2.2)))).set xb.2.1.toNat ((z12,(x10.2.1,x10.2.2.1,x10.2.2.2.1,x10.2.2.2.2.1,x10.2.2.2.2.2.1,x10.2.2.2.2.2.2)))))) (cond (decide (xb.1=2)) ((aa (qa6.set xb.2.1.toNat ((x8.1,(x8.2.1,x8.2.2.1,x8.2.2.2.1,x8.2.2.2.2.1,x8.2.2.2.2.2.1,x8.2.2.2.2.2.2)))) xb.2.1).bind fun x13=>(aT xb.2.1 xb.2.1).bind fun _=>(p7 xb.2.2.1 (IntKind.wrap .i64 (xb.2.2.1 + 1)) x13.1).bind fun l14=>(aT xb.2.1 xb.2.1).bind fun _=>some ((true,qa2,qa3,qa4,qa5,(qa6.set xb.2.1.toNat ((x8.1,(x8.2.1,x8.2.2.1,x8.2.2.2.1,x8.2.2.2.2.1,x8.2.2.2.2.2.1,x8.2.2.2.2.2.2)))).set xb.2.1.toNat ((l14,(x13.2.1,x13.2.2.1,x13.2.2.2.1,x13.2.2.2.2.1,x13.2.2.2.2.2.1,x13.2.2.2.2.2.2)))))) (cond (decide (xb.1=3)) ((((aa (qa6.set xb.2.1.toNat x8) xb.2.1).bind fun x15=>(aT xb.2.1 xb.2.1).bind fun _=>(aT xb.2.1 xb.2.1).bind fun _=>(aa x15.1 xb.2.2.1).bind fun x16=>(mj xb.2.2.1 x15.1 (([x16]:List Tq4))).bind fun l17=>(aT xb.2.1 xb.2.1).bind fun _=>some ((qa6.set xb.2.1.toNat x8).set xb.2.1.toNat ((l17,x15.2)))).bind fun x18=>((aa (qa6.set xb.2.1.toNat x8) xb.2.1).bind fun x19=>(aT xb.2.1 xb.2.1).bind fun _=>(aa x19.1 xb.2.2.1).bind fun x20=>(mq xb x19 x20 qa6 x8).bind fun x21=>((mq xb x19 x20 qa6 x8).bind fun x22=>(mq xb x19 x20 qa6 x8).bind fun y23=>agr x22 y23 (some x22)).bind fun y24=>agr x21 y24 (some x21)).bind fun y25=>agr x18 y25 (some x18):Option ((List Tq2))).bind fun l26=>some ((true,qa2,qa3,qa4,qa5,l26))) (cond (decide (xb.1=4)) ((aa (qa6.set xb.2.1.toNat ((x8.1,(x8.2.1,x8.2.2.1,x8.2.2.2.1,x8.2.2.2.2.1,x8.2.2.2.2.2.1,x8.2.2.2.2.2.2)))) xb.2.1).bind fun x27=>(aT xb.2.1 xb.2.1).bind fun _=>cond (decide ((IntKind.wrap .i64 (xb.2.2.1 + 1))=(x27.1.length:Int))) (some ((false,qa2,qa3,qa4,qa5,(qa6.set xb.2.1.toNat ((x8.1,(x8.2.1,x8.2.2.1,x8.2.2.2.1,x8.2.2.2.2.1,x8.2.2.2.2.2.1,x8.2.2.2.2.2.2)))).set xb.2.1.toNat ((x27.1,(x27.2.1,x27.2.2.1,x27.2.2.2.1,x27.2.2.2.2.1,x27.2.2.2.2.2.1,x27.2.2.2.2.2.2)))))) ((aa ((qa6.set xb.2.1.toNat ((x8.1,(x8.2.1,x8.2.2.1,x8.2.2.2.1,x8.2.2.2.2.1,x8.2.2.2.2.2.1,x8.2.2.2.2.2.2)))).set xb.2.1.toNat ((x27.1,(x27.2.1,x27.2.2.1,x27.2.2.2.1,x27.2.2.2.2.1,x27.2.2.2.2.2.1,x27.2.2.2.2.2.2)))) xb.2.1).bind fun x28=>((aT xb.2.1 xb.2.1).bind fun _=>(aa x28.1 (IntKind.wrap .i64 (xb.2.2.1 + 1))).bind fun x29=>(aT xb.2.1 xb.2.1).bind fun _=>(aa x28.1 xb.2.2.1).bind fun x30=>(mB xb x28 x29 x30).bind fun x31=>((mB xb x28 x29 x30).bind fun x32=>((mo xb x28 x29 x30).bind fun x33=>(mo xb x28 x29 x30).bind fun y34=>agr x33 y34 (some x33)).bind fun y35=>agr x32 y35 (some x32)).bind fun y36=>agr x31 y36 (some x31):Option ((List Tq4))).bind fun l37=>some ((true,qa2,qa3,qa4,qa5,((qa6.set xb.2.1.toNat ((x8.1,(x8.2.1,x8.2.2.1,x8.2.2.2.1,x8.2.2.2.2.1,x8.2.2.2.2.2.1,x8.2.2.2.2.2.2)))).set xb.2.1.toNat ((x27.1,(x27.2.1,x27.2.2.1,x27.2.2.2.1,x27.2.2.2.2.1,x27.2.2.2.2.2.1,x27.2.2.2.2.2.2)))).set xb.2.1.toNat ((l37,(x28.2.1,x28.2.2.1,x28.2.2.2.1,x28.2.2.2.2.1,x28.2.2.2.2.2.1,x28.2.2.2.2.2.2))))))) (some ((true,qa2,qa3,qa4,qa5,qa6.set xb.2.1.toNat ((x8.1,(x8.2.1,x8.2.2.1,x8.2.2.2.1,x8.2.2.2.2.1,x8.2.2.2.2.2.1,x8.2.2.2.2.2.2)))))))))))
def Fp:Hn Tryz.prog := .mix [([0,1,2,3,4,5,6],7),([8,9,10,11,12,13,14,15,16,17,18,19],20)] [21] [22,23,24] [11] (.cl lF [] (.two 15 .nil (.wt 25 (.opn 11 1000007 (.cl lF [] (.cls 11 16 (.tw 30 .nil (.mix [] [0,1,2,3,4,5,6,7] [] [] (.tw 40 (.mix [([0,1,2,4,5,6],3)] [7] [8] [11] (.wt 48 (.opn 11 1000007 (.wt 49 (.wt 1000024 (.cls 11 20 .nil)))))) (.tw 50 (.mix [([0,1,2,3,5,6,7,8,9],4),([],10)] [11,12] [13] [11] (.wt 61 (.opn 11 1000007 (.cl Fv [] (.cls 11 27 .nil))))) (.tw 65 (.tr (.still [0,1,2,3,5,6,7,8,9,11,12] (.alt 4 (.alt 10 (.still [13] (.alt 14 (.alt 15 (.alt 16 (.still [17,18] (.alt 19 (.leaf []) .done)) .done) .done) .done)) .done) (.alt 10 (.still [13] (.alt 4 (.alt 14 (.alt 15 (.alt 16 (.still [17,18] (.alt 19 (.leaf []) .done)) .done) .done) .done) (.alt 14 (.alt 4 (.alt 15 (.alt 16 (.still [17,18] (.alt 19 (.leaf []) .done)) .done) .done) (.alt 15 (.alt 4 (.alt 16 (.still [17,18] (.alt 19 (.leaf []) .done)) .done) .done) .done)) .done))) .done))) ⟨[],[bkO 11 (.row 61 (.cons (.row 63 (.dat Yq6)) (.one (.dat Yq5))))]⟩ [11] (.two 0 (.wt 70 (.opn 11 1000007 (.cl pf [] (.cls 11 31 .nil)))) (.wt 76 (.opn 11 1000007 (.two 0 (.cl pf [] (.cls 11 31 .nil)) (.two 0 (.cl pf [] (.cls 11 31 .nil)) (.cl pf [] (.cls 11 31 .nil))))))) .nil) (.tw 86 (.mix [([0,1,2,3,4,5],6)] [7,8] [] [11] (.wt 93 (.opn 11 1000007 (.wt 96 (.wt 1000023 (.cls 11 20 (.tw 96 .nil (.opn 11 1000007 (.tr (.still [0,1,2,4,5,6,7,8,10,11,12,13,14,15,16,17,18,19,20,22,23,24,25,26,27,28] (.alt 3 (.alt 9 (.alt 21 (.alt 29 (.still [30] (.alt 31 (.still [32] (.alt 33 (.leaf []) .done)) .done)) .done) (.alt 29 (.alt 21 (.still [30] (.alt 31 (.still [32] (.alt 33 (.leaf []) .done)) .done)) .done) .done)) (.alt 21 (.alt 9 (.alt 29 (.still [30] (.alt 31 (.still [32] (.alt 33 (.leaf []) .done)) .done)) .done) (.alt 29 (.alt 9 (.still [30] (.alt 31 (.still [32] (.alt 33 (.leaf []) .done)) .done)) .done) .done)) (.alt 29 (.alt 9 (.alt 21 (.still [30] (.alt 31 (.still [32] (.alt 33 (.leaf []) .done)) .done)) .done) (.alt 21 (.alt 9 (.still [30] (.alt 31 (.still [32] (.alt 33 (.leaf []) .done)) .done)) .done) .done)) .done))) (.alt 9 (.alt 3 (.alt 21 (.alt 29 (.still [30] (.alt 31 (.still [32] (.alt 33 (.leaf []) .done)) .done)) .done) (.alt 29 (.alt 21 (.still [30] (.alt 31 (.still [32] (.alt 33 (.leaf []) .done)) .done)) .done) .done)) (.alt 21 (.alt 3 (.alt 29 (.still [30] (.alt 31 (.still [32] (.alt 33 (.leaf []) .done)) .done)) .done) (.alt 29 (.alt 3 (.still [30] (.alt 31 (.still [32] (.alt 33 (.leaf []) .done)) .done)) .done) .done)) (.alt 29 (.alt 3 (.alt 21 (.still [30] (.alt 31 (.still [32] (.alt 33 (.leaf []) .done)) .done)) .done) (.alt 21 (.alt 3 (.still [30] (.alt 31 (.still [32] (.alt 33 (.leaf []) .done)) .done)) .done) .done)) .done))) (.alt 21 (.alt 3 (.alt 9 (.alt 29 (.still [30] (.alt 31 (.still [32] (.alt 33 (.leaf []) .done)) .done)) .done) (.alt 29 (.alt 9 (.still [30] (.alt 31 (.still [32] (.alt 33 (.leaf []) .done)) .done)) .done) .done)) (.alt 9 (.alt 3 (.alt 29 (.still [30] (.alt 31 (.still [32] (.alt 33 (.leaf []) .done)) .done)) .done) (.alt 29 (.alt 3 (.still [30] (.alt 31 (.still [32] (.alt 33 (.leaf []) .done)) .done)) .done) .done)) (.alt 29 (.alt 3 (.alt 9 (.still [30] (.alt 31 (.still [32] (.alt 33 (.leaf []) .done)) .done)) .done) (.alt 9 (.alt 3 (.still [30] (.alt 31 (.still [32] (.alt 33 (.leaf []) .done)) .done)) .done) .done)) .done))) (.alt 29 (.alt 3 (.alt 9 (.alt 21 (.still [30] (.alt 31 (.still [32] (.alt 33 (.leaf []) .done)) .done)) .done) (.alt 21 (.alt 9 (.still [30] (.alt 31 (.still [32] (.alt 33 (.leaf []) .done)) .done)) .done) .done)) (.alt 9 (.alt 3 (.alt 21 (.still [30] (.alt 31 (.still [32] (.alt 33 (.leaf []) .done)) .done)) .done) (.alt 21 (.alt 3 (.still [30] (.alt 31 (.still [32] (.alt 33 (.leaf []) .done)) .done)) .done) .done)) (.alt 21 (.alt 3 (.alt 9 (.still [30] (.alt 31 (.still [32] (.alt 33 (.leaf []) .done)) .done)) .done) (.alt 9 (.alt 3 (.still [30] (.alt 31 (.still [32] (.alt 33 (.leaf []) .done)) .done)) .done) .done)) .done))) .done))))) ⟨[],[bkO 25 (.row 63 (.dat Yq6))]⟩ [25] (.two 0 (.two 0 (.two 0 .nil .nil) (.two 0 (.two 0 .nil .nil) (.two 0 .nil .nil))) (.two 0 (.two 0 (.two 0 .nil .nil) (.two 0 (.two 0 .nil .nil) (.two 0 .nil .nil))) (.two 0 (.two 0 (.two 0 .nil .nil) (.two 0 (.two 0 .nil .nil) (.two 0 .nil .nil))) (.two 0 (.two 0 .nil .nil) (.two 0 (.two 0 .nil .nil) (.two 0 .nil .nil)))))) (.cls 11 24 .nil)))))))))) .nil))))))))))))
def FY:Spec:=⟨32,⟨[(0,.ptr 0 0),(1,.dat (.cons Yq2 (.cons Yq2 Yq7)))],[bkN 30 [.is 1 (.dat Yq2),.is 2 (.dat Yq2),.own 84 Yq7,.od (.row 26 (.one (.row 95 (.dat Yq3)))),.own 95 Yq3,.own 55 Yq4,.od (.row 61 (.cons (.row 63 (.dat Yq6)) (.one (.dat Yq5))))],bkM,bkM]⟩,[⟨[kdB 0],[bkC 0 30 [.is 1 (.any),.is 2 (.any),.own 84 Yq7,.od (.row 26 (.one (.row 95 (.dat Yq3)))),.own 95 Yq3,.own 55 Yq4,.od (.row 61 (.cons (.row 63 (.dat Yq6)) (.one (.dat Yq5))))],bkU 1,bkU 2]⟩],fun x=>j7 x.1 x.2.1 x.2.2.1 x.2.2.2.1 x.2.2.2.2.1 x.2.2.2.2.2.1 x.2.2.2.2.2.2.1 x.2.2.2.2.2.2.2⟩
def FJ:OkSpec Tryz.prog:=⟨FY,ae func32 Fp (by kernel_rfl) (by kernel_rfl),call32⟩

def j8 (xb:Tq6) (qa0:Int) (qa1:Int) (qa2:Tq7) (qa3:(List Tq3)) (qa4:Tq3) (qa5:(List Tq5)) (qa6:(List Tq2)):Option ((Bool×Int×Tq7×(List Tq3)×Tq3×(List Tq5)×(List Tq2))) :=
 (eZ xb.2.1 (qa3.length:Int)).bind fun t7=>cond (!t7) (some ((false,qa1,qa2,qa3,qa4,qa5,qa6))) ((aa qa3 xb.2.1).bind fun _=>(aa qa3 xb.2.1).bind fun x8=>(aT xb.2.1 xb.2.1).bind fun _=>(eZ xb.2.2.1 (x8.length:Int)).bind fun t9=>cond (!t9) (some ((false,qa1,qa2,qa3.set xb.2.1.toNat x8,qa4,qa5,qa6))) ((cond (decide (xb.1=6)) (some ((qa1,IntKind.wrap .i64 (qa1 + 1)))) (some ((xb.2.2.2,qa1))):Option (Int×Int)).bind fun (i10,i11)=>(aa (qa3.set xb.2.1.toNat x8) xb.2.1).bind fun _=>(aa (qa3.set xb.2.1.toNat x8) xb.2.1).bind fun x12=>(aT xb.2.1 xb.2.1).bind fun _=>(aa x12 xb.2.2.1).bind fun x13=>(some (x12.set xb.2.2.1.toNat (i10,x13.2))).bind fun z14=>some ((true,i11,qa2,(qa3.set xb.2.1.toNat x8).set xb.2.1.toNat z14,qa4,qa5,qa6))))
def F9:Hn Tryz.prog := .mix [([0,1,2,3,4,5,6],7),([8,9,10,11,12,13,14,15,16,17,18,19],20)] [21] [22,23,24] [4] (.cl lF [] (.two 15 .nil (.wt 25 (.opn 4 1000007 (.cl lF [] (.cls 4 15 (.tw 30 .nil (.pl (.sq [(0,2),(0,3),(0,4),(0,5),(0,6)] ⟨[kdI 5],[bkC 0 30 [.is 1 (.any),.dat Yq2,.is 2 (.any),.is 3 (.any),.is 4 (.any),.is 5 (.any),.is 6 (.any)],bkU 1,bkU 19,bkU 20,bkU 21,bkU 22,bkU 23]⟩ [0] (.tw 35 .nil .nil) (.mix [([0,1,2,3,4,5,6,7,9,10,11],8)] [12,13] [14] [4] (.wt 58 (.opn 4 1000052 (.wt 60 (.wt 1000029 (.cls 4 25 .nil)))))))))))))))
def FW:Spec:=⟨33,⟨[(0,.ptr 0 0),(1,.dat (.cons Yq2 (.cons Yq2 Yq7)))],[bkN 30 [.is 1 (.dat Yq2),.dat Yq2,.own 84 Yq7,.od (.row 26 (.one (.row 95 (.dat Yq3)))),.own 95 Yq3,.own 55 Yq4,.od (.row 61 (.cons (.row 63 (.dat Yq6)) (.one (.dat Yq5))))],bkM]⟩,[⟨[kdB 0],[bkC 0 30 [.is 1 (.any),.dat Yq2,.own 84 Yq7,.od (.row 26 (.one (.row 95 (.dat Yq3)))),.own 95 Yq3,.own 55 Yq4,.od (.row 61 (.cons (.row 63 (.dat Yq6)) (.one (.dat Yq5))))],bkU 1]⟩],fun x=>j8 x.1 x.2.1 x.2.2.1 x.2.2.2.1 x.2.2.2.2.1 x.2.2.2.2.2.1 x.2.2.2.2.2.2.1 x.2.2.2.2.2.2.2⟩
def FG:OkSpec Tryz.prog:=⟨FW,ae func33 F9 (by kernel_rfl) (by kernel_rfl),call33⟩

def p6 (xb:Int) (xc:Int) (qxa:Tq7):Option (Tq7) :=
 (bV qxa xb xc).bind fun y10=>some (y10)
def F5:Spec:=⟨35,⟨[(0,.own 84 Yq7),kdI 1,kdI 2],[]⟩,[⟨[(0,.own 84 Yq7)],[]⟩],fun x=>p6 x.2.1 x.2.2 x.1⟩
def Gb:OkSpec Tryz.prog:=⟨F5,DX,call35⟩

def kb (xb:Tq6) (qa0:Int) (qa1:Int) (qa2:Tq7) (qa3:(List Tq3)) (qa4:Tq3) (qa5:(List Tq5)) (qa6:(List Tq2)):Option ((Bool×Int×Tq7×(List Tq3)×Tq3×(List Tq5)×(List Tq2))) :=
 (cond (decide (xb.1=1)) (some (decide (xb.1=1))) (cond (decide (xb.1=2)) (some (decide (xb.1=2))) (cond (decide (xb.1=3)) (some (decide (xb.1=3))) (some (decide (xb.1=4))))):Option Bool).bind fun t7=>cond (t7) ((j7 (xb.1,xb.2.1,xb.2.2.1,xb.2.2.2) qa0 qa1 qa2 qa3 qa4 qa5 qa6).bind fun (t8,l9,l10,l11,l12,l13)=>some ((t8,qa1,l9,l10,l11,l12,l13))) ((cond (decide (xb.1=5)) (some (decide (xb.1=5))) (some (decide (xb.1=6))):Option Bool).bind fun t14=>cond (t14) ((j8 (xb.1,xb.2.1,xb.2.2.1,xb.2.2.2) qa0 qa1 qa2 qa3 qa4 qa5 qa6).bind fun (t15,i16,l17,l18,l19,l20,l21)=>some ((t15,i16,l17,l18,l19,l20,l21))) (cond (decide (xb.1=7)) ((app qa2 (([(xb.2.1,xb.2.2.1)]:List (Int×Int)))).bind fun z22=>some ((true,qa1,z22,qa3,qa4,qa5,qa6))) (cond (decide (xb.1=8)) ((eZ xb.2.1 (qa2.length:Int)).bind fun t23=>cond (!t23) (some ((false,qa1,qa2,qa3,qa4,qa5,qa6))) ((p6 xb.2.1 (IntKind.wrap .i64 (xb.2.1 + 1)) qa2).bind fun l24=>some ((true,qa1,l24,qa3,qa4,qa5,qa6)))) (some ((false,qa1,qa2,qa3,qa4,qa5,qa6))))))
def Gv:Hn Tryz.prog := .pl (.pl (.pl (.sq [] ⟨[kdB 7],[]⟩ [] (.tw 7 .nil (.tw 7 .nil (.tw 7 .nil .nil))) (.tw 7 (.wt 1000015 (.mc 0 1 12 (.cl FJ [] .nil))) (.sq [] ⟨[kdB 15],[]⟩ [] (.tw 15 .nil .nil) (.tw 15 (.cl FG [] .nil) (.tw 21 (.mix [([0,1,2,3,4,5,6,7,8,9],10),([],11)] [12,13] [14] [2] .nil) (.tw 37 (.mix [] [0,1,2,3,4,5,6] [7,8] [] (.cl lF [] (.tw 47 .nil (.mix [([0,1,2,3,4,5,6,7,8,9],10)] [11,12] [13] [2] (.cl Gb [] .nil))))) .nil))))))))
def Fz:Spec:=⟨20,⟨[(0,.ptr 0 0),(1,.dat (.cons Yq2 (.cons Yq2 Yq7)))],[bkN 30 [.is 1 (.dat Yq2),.dat Yq2,.own 84 Yq7,.od (.row 26 (.one (.row 95 (.dat Yq3)))),.own 95 Yq3,.own 55 Yq4,.od (.row 61 (.cons (.row 63 (.dat Yq6)) (.one (.dat Yq5))))],bkM]⟩,[⟨[kdB 0],[bkC 0 30 [.is 1 (.any),.dat Yq2,.own 84 Yq7,.od (.row 26 (.one (.row 95 (.dat Yq3)))),.own 95 Yq3,.own 55 Yq4,.od (.row 61 (.cons (.row 63 (.dat Yq6)) (.one (.dat Yq5))))],bkU 1]⟩],fun x=>kb x.1 x.2.1 x.2.2.1 x.2.2.2.1 x.2.2.2.2.1 x.2.2.2.2.2.1 x.2.2.2.2.2.2.1 x.2.2.2.2.2.2.2⟩
def Gq:OkSpec Tryz.prog:=⟨Fz,ae func20 Gv (by kernel_rfl) (by kernel_rfl),call20⟩

def iK (xa:Tq1) (xb:Tq6):Option lT :=
 (gC xa).bind fun t1=>cond (!t1) (some ((0,0,[],[],[],[],[],2))) ((gv xa).bind fun (i2,i3,l4,l5,l6,l7,l8)=>(kb (xb.1,xb.2.1,xb.2.2.1,xb.2.2.2) i2 i3 l4 l5 l6 l7 l8).bind fun (t9,i10,l11,l12,l13,l14,l15)=>cond (!t9) (some ((0,0,[],[],[],[],[],7))) ((d8 (i2,i10,l11,l12,l13,l14,l15)).bind fun (i16,i17,i18,i19)=>cond (!decide (i16=0)) (some ((0,0,[],[],[],[],[],i16))) (some ((i2,i10,l11,l12,l13,l14,l15,0)))))
def Gs:Hn Tryz.prog := .cl zJ [] (.tw 10 .nil (.cl zL [] (.mc 16 0 18 (.cl Gq [] (.tw 16 .nil (.per 33 34 (.per 39 40 (.cl zT [31,35,37] (.tw 22 (.mix [([0,1,2],3)] [4] [] [4] .nil) .nil)))))))))
def FU:Spec:=⟨8,⟨[(0,.dat Yq1),(1,.dat (.cons Yq2 (.cons Yq2 Yq7)))],[]⟩,[⟨[(0,.tup [.agg [.dat Yq2,.dat Yq2,.own 84 Yq7,.dat (.sl Yq8),.own 95 Yq3,.own 55 Yq4,.dat (.sl (.cons (.sl Yq6) (.one Yq5)))],.dat Yq2])],[]⟩],fun x=>iK x.1 x.2⟩
def yW:OkSpec Tryz.prog:=⟨FU,ae func8 Gs (by kernel_rfl) (by kernel_rfl),call8⟩

def u6 (xa:Int):Option ba :=
 cond (decide (xa=1)) (some (([98,108,97,110,107]:List UInt8))) (cond (decide (xa=2)) (some (([100,114,111,112]:List UInt8))) (cond (decide (xa=3)) (some (([116,119,105,99,101]:List UInt8))) (cond (decide (xa=4)) (some (([115,119,97,112]:List UInt8))) (cond (decide (xa=5)) (some (([114,101,103,105,111,110]:List UInt8))) (cond (decide (xa=6)) (some (([108,111,110,101]:List UInt8))) (cond (decide (xa=7)) (some (([100,101,99,108,97,114,101]:List UInt8))) (cond (decide (xa=8)) (some (([117,110,100,101,99,108,97,114,101]:List UInt8))) (some (([63]:List UInt8))))))))))
def Fx:Hn Tryz.prog := .tw 4 .nil (.tw 6 .nil (.tw 8 .nil (.tw 10 .nil (.tw 12 .nil (.tw 14 .nil (.tw 16 .nil (.tw 18 .nil .nil)))))))
def Gu:Spec:=⟨15,⟨[kdI 0],[]⟩,[⟨[(0,.dat .str)],[]⟩],fun x=>u6 x⟩
def FH:OkSpec Tryz.prog:=⟨Gu,ae func15 Fx (by kernel_rfl) (by kernel_rfl),call15⟩
def Af (xa:ba):Int->Option (Int⊕(Unit⊕(Int×Bool))):=fun i96=>cond (decide (i96<=8)) ((u6 i96).bind fun s1=>cond (decide (s1=xa)) (some (.inr ((.inr ((i96,true)))))) (some (.inl (IntKind.wrap .i64 (i96 + 1))))) (some (.inr ((.inl ()))))
def nj (xa:ba):Option (Int×Bool) :=
 (loop (Af xa) 1).bind fun o=>match o with | .inr r=>some r | .inl ()=>some ((0,false))
def Gi:Hn Tryz.prog := .jx [] ⟨[],[]⟩ [] (.lp ⟨[kdI 4],[]⟩ (.tw 6 (.cl FH [] (.tw 12 .nil .nil)) .nil)) .nil
def F2:Spec:=⟨13,⟨[(0,.dat .str)],[]⟩,[⟨[(0,.tup [.dat Yq2,.dat .bool])],[]⟩],fun x=>nj x⟩
def FK:OkSpec Tryz.prog:=⟨F2,ae func13 Gi (by kernel_rfl) (by kernel_rfl),call13⟩

def iE  : Option Bool :=
 (iK ((1,1,[],([[]]:List Tq3),[],[],([(([(4,0,0,0,false)]:List Tq4),(3,0,0,[],[],[]))]:List Tq2))) (1,0,0,0)).bind fun (i1,i2,l3,l4,l5,l6,l7,i9)=>(nj ([108,111,110,101]:List UInt8)).bind fun (i10,t11)=>(cond ((decide (i9=0))&&(decide ((l7.length:Int)=1))) ((aa l7 0).bind fun x12=>(aa x12.1 0).bind fun x13=>some (decide (x13.1=0))) (some (false))).bind fun t14=>(cond (t14) ((aa (([(([(4,0,0,0,false)]:List Tq4),(3,0,0,[],[],[]))]:List Tq2)) 0).bind fun x15=>(aa x15.1 0).bind fun x16=>some (decide (x16.1=4))) (some (false))).bind fun t17=>some ((t17&&(decide (i10=6)))&&t11)
def Ax:Hn Tryz.prog := .per 2 3 (.per 0 1 (.per 4 5 (.cl yW [] (.cl FK [] (.gp 4 (.wt 32 (.gj 9 ⟨[kdB 42],[]⟩ [] (.two 32 .nil .nil) (.wt 43 (.gj 9 ⟨[kdB 53],[]⟩ [] (.two 43 .nil .nil) (.wt 54 (.gp 2 (.wt 58 (.gp 1 .nil)))))))))))))
def uL:Spec:=⟨6,⟨[],[]⟩,[⟨[kdB 0],[]⟩],fun x=>iE⟩
theorem Am:cP Tryz.prog uL:=ae func6 Ax (by kernel_rfl) (by kernel_rfl)
def qG:OkSpec Tryz.prog:=⟨uL,Am,call6⟩
def mX (xa:Tq1):Int->Option (Int⊕(Unit⊕Tq6)):=fun i1=>cond (decide (i1 < (xa.2.2.1.length:Int))) ((aa xa.2.2.1 i1).bind fun x2=>cond ((((decide (x2.1 < 0))||(decide (xa.1<=x2.1)))||(decide (x2.2 < 0)))||(decide (xa.1<=x2.2))) (some (.inr ((.inr ((7,1,i1,0)))))) (some (.inl (IntKind.wrap .i64 (i1 + 1))))) (some (.inr ((.inl ()))))
def qJ (xa:Tq1):Option Tq6 :=
 cond ((decide (xa.1 < 1))||(decide (xa.2.1 < xa.1))) (some ((7,0,0,0))) (cond (decide (65536 < xa.2.1)) (some ((6,0,0,0))) (cond (decide (65536 < (xa.2.2.1.length:Int))) (some ((6,1,0,0))) ((loop (mX xa) 0).bind fun o=>match o with | .inr r=>some r | .inl ()=>some ((0,0,0,0)))))
def mP (xa:Tq3) (xb:Int):Int->Option (Int⊕(Unit⊕Int)):=fun i1=>cond (decide (i1 < (xa.length:Int))) ((aa xa i1).bind fun x2=>(cond (decide (x2.1 < 0)) (some (true)) ((aa xa i1).bind fun x3=>some (decide (xb<=x3.1)))).bind fun t4=>cond (t4) (some (.inr ((.inr (7))))) (some (.inl (IntKind.wrap .i64 (i1 + 1))))) (some (.inr ((.inl ()))))
def iI (xa:Tq3) (xb:Int):Option Int :=
 cond (decide (16 < (xa.length:Int))) (some (6)) ((loop (mP xa xb) 0).bind fun o=>match o with | .inr r=>some r | .inl ()=>some (0))
def qu (xa:Tq3) (xb:Tq3):Int->Option (Int⊕(Unit⊕Bool)):=fun i1=>cond (decide (i1 < (xa.length:Int))) ((aa xa i1).bind fun x2=>(aa xb i1).bind fun x3=>cond (!(x2.2 == x3.2)) (some (.inr ((.inr (false))))) (some (.inl (IntKind.wrap .i64 (i1 + 1))))) (some (.inr ((.inl ()))))
def fa (xa:Tq3) (xb:Tq3):Option Bool :=
 cond (!decide ((xa.length:Int)=(xb.length:Int))) (some (false)) ((loop (qu xa xb) 0).bind fun o=>match o with | .inr r=>some r | .inl ()=>some (true))
def FT:Hn Tryz.prog := .tw 12 .nil (.jx [] ⟨[],[]⟩ [] (.lp ⟨[kdI 5],[]⟩ (.tw 17 (.mix [] [0,1,2,3,4,5,6,7,8,9,10,11,12] [] [] (.tw 32 .nil .nil)) .nil)) .nil)
def F3:Spec:=⟨49,⟨[(0,.dat Yq8),(1,.dat Yq8)],[]⟩,[⟨[kdB 0],[]⟩],fun x=>fa x.1 x.2⟩
def Ge:OkSpec Tryz.prog:=⟨F3,ae func49 FT (by kernel_rfl) (by kernel_rfl),call49⟩
def mR (xa:Tq5):Int->Option (Int⊕(Unit⊕Int)):=fun i1=>cond (decide (i1 < (xa.2.1.length:Int))) ((aa xa.2.1 i1).bind fun x2=>cond ((((decide (x2.1 < 0))||(decide (xa.1<=x2.1)))||(decide (x2.2 < 0)))||(decide (xa.1<=x2.2))) (some (.inr ((.inr (7))))) (some (.inl (IntKind.wrap .i64 (i1 + 1))))) (some (.inr ((.inl ()))))
def mN (xa:Tq5):Int->Option (Int⊕(Unit⊕Int)):=fun i1=>cond (decide (i1 < (xa.2.2.1.length:Int))) ((aa xa.2.2.1 i1).bind fun x2=>(iI x2 xa.1).bind fun i3=>cond (!decide (i3=0)) (some (.inr ((.inr (i3))))) (some (.inl (IntKind.wrap .i64 (i1 + 1))))) (some (.inr ((.inl ()))))
def iG (xa:Tq5):Option Int :=
 cond (decide (xa.1 < 0)) (some (7)) (cond (((decide (16 < xa.1))||(decide (16 < (xa.2.1.length:Int))))||(decide (16 < (xa.2.2.1.length:Int)))) (some (6)) ((loop (mR xa) 0).bind fun o=>match o with | .inr r=>some r | .inl ()=>(loop (mN xa) 0).bind fun o=>match o with | .inr r=>some r | .inl ()=>(iI xa.2.2.2 xa.1).bind fun i1=>some (i1)))
def mL (xa:Tq1):Int->Option (Int⊕(Unit⊕Tq6)):=fun i1=>cond (decide (i1 < (xa.2.2.2.1.length:Int))) ((aa xa.2.2.2.1 i1).bind fun x2=>(iI x2 xa.2.1).bind fun i3=>cond (!decide (i3=0)) (some (.inr ((.inr ((i3,2,i1,0)))))) (some (.inl (IntKind.wrap .i64 (i1 + 1))))) (some (.inr ((.inl ()))))
def mQ (xa:Tq1):Int->Option (Int⊕(Unit⊕Tq6)):=fun i1=>cond (decide (i1 < (xa.2.2.2.2.2.1.length:Int))) ((aa xa.2.2.2.2.2.1 i1).bind fun x2=>(iG (x2.1,x2.2.1,x2.2.2.1,x2.2.2.2)).bind fun i3=>cond (!decide (i3=0)) (some (.inr ((.inr ((i3,4,i1,0)))))) (some (.inl (IntKind.wrap .i64 (i1 + 1))))) (some (.inr ((.inl ()))))
def qE (xa:Tq1):Option Tq6 :=
 cond (decide ((xa.2.2.2.1.length:Int)=0)) (some ((14,2,0,0))) (cond (decide (65536 < (xa.2.2.2.1.length:Int))) (some ((6,2,0,0))) ((loop (mL xa) 0).bind fun o=>match o with | .inr r=>some r | .inl ()=>(iI xa.2.2.2.2.1 xa.1).bind fun i1=>cond (!decide (i1=0)) (some ((i1,3,0,0))) ((aa xa.2.2.2.1 0).bind fun x2=>(fa x2 xa.2.2.2.2.1).bind fun t3=>cond (!t3) (some ((8,3,0,0))) (cond (decide (65536 < (xa.2.2.2.2.2.1.length:Int))) (some ((6,4,0,0))) ((loop (mQ xa) 0).bind fun o=>match o with | .inr r=>some r | .inl ()=>some ((0,0,0,0)))))))
def iQ (xa:Int):Option Bool :=
 some ((((decide (xa=1))||(decide (xa=2)))||(decide (xa=3)))||(decide (xa=5)))
def iP (xa:Int):Option Bool :=
 some ((decide (1<=xa))&&(decide (xa<=4)))
def iC (xa:Int):Option Bool :=
 some ((decide (xa=2))||(decide (xa=3)))
def kG (xa:Tq4):Option Bool :=
 (cond ((decide (0<=xa.1))&&(decide (xa.1<=5))) ((iQ xa.1).bind fun t97=>some (t97||(decide (xa.2.1=0)))) (some (false))).bind fun t93=>(cond (t93) ((iP xa.1).bind fun t1=>some (t1||(decide (xa.2.2.1=0)))) (some (false))).bind fun t2=>(cond (t2) ((iC xa.1).bind fun t3=>some (t3||((decide (xa.2.2.2.1=0))&&(!xa.2.2.2.2)))) (some (false))).bind fun t4=>some (t4)
def mE (xb:Tq3) (xc:Tq3) (xd:Int) (xe:Int):Tq9->Option (Tq9⊕(List Tq4)):=fun (l1,i2)=>cond (decide (i2 < (xb.length:Int))) ((aa xb i2).bind fun x3=>(aa xc i2).bind fun x4=>(app l1 (([(x3.1,x4.1,xd,IntKind.wrap .i64 (xe + i2),false)]:List Tq4))).bind fun z5=>(aa xc i2).bind fun x6=>cond (x6.2) ((aa xc i2).bind fun x7=>(aa xb i2).bind fun x8=>(app z5 (([(x7.1,x8.1,xd,IntKind.wrap .i64 (xe + i2),true)]:List Tq4))).bind fun z9=>some (.inl ((z9,IntKind.wrap .i64 (i2 + 1))))) (some (.inl ((z5,IntKind.wrap .i64 (i2 + 1)))))) (some (.inr (l1)))
def iv (xb:Tq3) (xc:Tq3) (xd:Int) (xe:Int) (qxa:(List Tq4)):Option ((List Tq4)) :=
 (loop (mE xb xc xd xe) (qxa,0)).bind fun l1=>some (l1)
def iO (xa:Tq3) (xb:Tq3) (xc:Int) (xd:Int):Option (Tq9) :=
 (fa xa xb).bind fun t34=>cond (!t34) (some (([],8))) ((iv xa xb xc xd (([]:List Tq4))).bind fun l45=>some ((l45,0)))
def qz (xa:Tq3) (xc:Bool):(Tq3×Int)->Option ((Tq3×Int)⊕Tq3):=fun (l1,i2)=>cond (decide (i2 < (xa.length:Int))) ((aa xa i2).bind fun x3=>(aa xa i2).bind fun x4=>cond (x4.2) ((app l1 (([(x3.1,true)]:List (Int×Bool)))).bind fun z5=>some (.inl ((z5,IntKind.wrap .i64 (i2 + 1))))) ((app l1 (([(x3.1,xc)]:List (Int×Bool)))).bind fun z6=>some (.inl ((z6,IntKind.wrap .i64 (i2 + 1)))))) (some (.inr (l1)))
def qP (xa:Tq3) (xb:Int) (xc:Bool):Option (Tq3) :=
 (loop (qz xa xc) ((([(xb,false)]:List (Int×Bool)),0))).bind fun l1=>some (l1)
def qI (xa:Tq3) (xb:Tq3) (xc:Int) (xd:Bool):Option (Tq9) :=
 (qP xa xc xd).bind fun l1=>(fa l1 xb).bind fun t2=>cond (!t2) (some (([],8))) ((aa xb 0).bind fun x3=>(subL xb 1 (xb.length:Int)).bind fun y4=>(iv xa y4 1 1 (([(xc,x3.1,2,0,false)]:List Tq4))).bind fun l5=>some ((l5,0)))
def iy (xa:Tq3) (xd:Bool):Int->Option (Int⊕(Unit⊕Tq9)):=fun i1=>cond (decide (i1 < (xa.length:Int))) ((cond (xd) ((aa xa i1).bind fun x2=>some (!x2.2)) (some (false))).bind fun t3=>cond (t3) (some (.inr ((.inr (([],8)))))) (some (.inl (IntKind.wrap .i64 (i1 + 1))))) (some (.inr ((.inl ()))))
def qD (xa:Tq3) (xb:Tq3) (xc:Int) (xd:Bool):Option (Tq9) :=
 (cond (decide ((xa.length:Int)=0)) (some (true)) ((fa xa xb).bind fun t1=>some (!t1))).bind fun t2=>(cond (t2) (some (true)) ((aa xa 0).bind fun x3=>some (x3.2))).bind fun t4=>cond (t4) (some (([],8))) ((loop (iy xa xd) 1).bind fun o=>match o with | .inr r=>some r | .inl ()=>(aa xa 0).bind fun x5=>(aa xb 0).bind fun x6=>(subL xa 1 (xa.length:Int)).bind fun y7=>(subL xb 1 (xb.length:Int)).bind fun y8=>(iv y7 y8 1 1 (([(x5.1,xc,3,0,false),(xc,x6.1,2,0,false)]:List Tq4))).bind fun l9=>some ((l9,0)))
def cy (xa:Tq4) (xb:(List Tq3)) (xc:Int):Option (Tq9) :=
 (kG (xa.1,xa.2.1,xa.2.2.1,xa.2.2.2.1,xa.2.2.2.2)).bind fun t1=>cond (!t1) (some (([],3))) ((iQ xa.1).bind fun t2=>(cond (t2&&((decide (xa.2.1 < 0))||(decide ((xb.length:Int)<=xa.2.1)))) (some (true)) ((iP xa.1).bind fun t3=>some (t3&&((decide (xa.2.2.1 < 0))||(decide ((xb.length:Int)<=xa.2.2.1)))))).bind fun t4=>(cond (t4) (some (true)) ((iC xa.1).bind fun t5=>some (t5&&((decide (xa.2.2.2.1 < 0))||(decide (xc<=xa.2.2.2.1)))))).bind fun t6=>cond (t6) (some (([],7))) (cond (decide (xa.1=1)) ((aa xb xa.2.2.1).bind fun x7=>(aa xb xa.2.1).bind fun x8=>(iO x7 x8 1 0).bind fun (l9,i10)=>some ((l9,i10))) (cond (decide (xa.1=2)) ((aa xb xa.2.2.1).bind fun x11=>(aa xb xa.2.1).bind fun x12=>(qI x11 x12 xa.2.2.2.1 xa.2.2.2.2).bind fun (l13,i14)=>some ((l13,i14))) (cond (decide (xa.1=3)) ((aa xb xa.2.2.1).bind fun x15=>(aa xb xa.2.1).bind fun x16=>(qD x15 x16 xa.2.2.2.1 xa.2.2.2.2).bind fun (l17,i18)=>some ((l17,i18))) (some (([],0)))))))
def gt (xa:Tq8):Option Int :=
 cond ((decide (xa.1 < 1))||(decide (4 < xa.1))) (some (3)) (cond (((((decide (xa.1=1))||(decide (xa.1=4)))&&(!decide ((xa.2.2.2.1.length:Int)=1)))||((decide (xa.1=2))&&(decide ((xa.2.2.2.1.length:Int)=0))))||((decide (xa.1=3))&&(!decide ((xa.2.2.2.1.length:Int)=0)))) (some (3)) (cond ((!decide (xa.1=4))&&(((!decide (xa.2.1=0))||(!decide (xa.2.2.1=0)))||(!decide ((xa.2.2.2.2.2.length:Int)=0)))) (some (3)) (cond (((decide (xa.1=1))||(decide (xa.1=3)))&&(!decide ((xa.2.2.2.2.1.length:Int)=0))) (some (3)) (cond (((decide (16 < (xa.2.2.2.1.length:Int)))||(decide (16 < (xa.2.2.2.2.1.length:Int))))||(decide (16 < (xa.2.2.2.2.2.length:Int)))) (some (6)) (some (0))))))
def mH (xa:(List Int)) (xb:Int):Int->Option (Int⊕(Unit⊕Bool)):=fun i1=>cond (decide (i1 < (xa.length:Int))) ((aa xa i1).bind fun x2=>(cond (decide (x2 < 0)) (some (true)) ((aa xa i1).bind fun x3=>some (decide (xb<=x3)))).bind fun t4=>cond (t4) (some (.inr ((.inr (false))))) (some (.inl (IntKind.wrap .i64 (i1 + 1))))) (some (.inr ((.inl ()))))
def dx (xa:(List Int)) (xb:Int):Option Bool :=
 (loop (mH xa xb) 0).bind fun o=>match o with | .inr r=>some r | .inl ()=>some (true)
def kh (xa:Tq3) (xb:(List Int)):(Tq3×Int)->Option ((Tq3×Int)⊕(Tq3⊕(Tq3×Int))):=fun (l1,i2)=>cond (decide (i2 < (xa.length:Int))) ((aa xa i2).bind fun x3=>cond ((decide (x3.1 < 0))||(decide ((xb.length:Int)<=x3.1))) (some (.inr ((.inr (([],7)))))) ((aa xb x3.1).bind fun x4=>(aa xa i2).bind fun x5=>(app l1 (([(x4,x5.2)]:List (Int×Bool)))).bind fun z6=>some (.inl ((z6,IntKind.wrap .i64 (i2 + 1)))))) (some (.inr (.inl l1)))
def m6 (xa:Tq3) (xb:(List Int)):Option ((Tq3×Int)) :=
 (loop (kh xa xb) ((([]:List (Int×Bool)),0))).bind fun o=>match o with | .inr r=>some r | .inl l1=>some ((l1,0))
def mT (xa:Tq5) (xb:(List Int)):Tq9->Option (Tq9⊕(List Tq4)):=fun (l1,i2)=>cond (decide (i2 < (xa.2.1.length:Int))) ((aa xa.2.1 i2).bind fun x3=>(aa xb x3.1).bind fun x4=>(aa xa.2.1 i2).bind fun x5=>(aa xb x5.2).bind fun x6=>(app l1 (([(x4,x6,4,i2,false)]:List Tq4))).bind fun z7=>some (.inl ((z7,IntKind.wrap .i64 (i2 + 1))))) (some (.inr (l1)))
def kp (xa:Tq5) (xb:(List Int)) (xc:(List Tq3)):Tq9->Option (Tq9⊕((List Tq4)⊕Tq9)):=fun (l1,i2)=>cond (decide (i2 < (xa.2.2.1.length:Int))) ((aa xa.2.2.1 i2).bind fun x3=>(m6 x3 xb).bind fun (l4,i5)=>(aa xc i2).bind fun x6=>(iO x6 l4 5 (IntKind.wrap .i64 (16 * i2))).bind fun (l7,i8)=>cond (!decide (i8=0)) (some (.inr ((.inr (([],i8)))))) ((app l1 l7).bind fun z9=>some (.inl ((z9,IntKind.wrap .i64 (i2 + 1)))))) (some (.inr (.inl l1)))
def kJ (xa:Tq5) (xb:(List Int)) (xc:(List Tq3)) (xd:Tq3):Option (Tq9) :=
 (iG (xa.1,xa.2.1,xa.2.2.1,xa.2.2.2)).bind fun i1=>cond (!decide (i1=0)) (some (([],i1))) (cond ((!decide ((xb.length:Int)=xa.1))||(!decide ((xc.length:Int)=(xa.2.2.1.length:Int)))) (some (([],2))) ((loop (mT xa xb) ((([]:List Tq4),0))).bind fun l2=>(loop (kp xa xb xc) (l2,0)).bind fun o=>match o with | .inr r=>some r | .inl l3=>(m6 xa.2.2.2 xb).bind fun (l4,i5)=>(iO l4 xd 6 0).bind fun (l6,i7)=>cond (!decide (i7=0)) (some (([],i7))) ((app l3 l6).bind fun z8=>some ((z8,0)))))
def ix (xa:Tq8) (xb:jK):((List Tq3)×Int)->Option (((List Tq3)×Int)⊕(List Tq3)):=fun (l1,i2)=>cond (decide (i2 < (xa.2.2.2.2.1.length:Int))) ((aa xa.2.2.2.2.1 i2).bind fun x3=>(aa xb.2.2.1 x3).bind fun x4=>(app l1 (([x4]:List Tq3))).bind fun z5=>some (.inl ((z5,IntKind.wrap .i64 (i2 + 1))))) (some (.inr (l1)))
def cz (xa:Tq8) (xb:jK):Option (Tq9) :=
 (gt (xa.1,xa.2.1,xa.2.2.1,xa.2.2.2.1,xa.2.2.2.2.1,xa.2.2.2.2.2)).bind fun i1=>cond (!decide (i1=0)) (some (([],i1))) ((dx xa.2.2.2.1 xb.1).bind fun t2=>(cond (!t2) (some (true)) ((dx xa.2.2.2.2.1 (xb.2.2.1.length:Int)).bind fun t3=>some (!t3))).bind fun t4=>(cond (t4) (some (true)) ((dx xa.2.2.2.2.2 xb.2.1).bind fun t5=>some (!t5))).bind fun t6=>cond (t6) (some (([],7))) ((cond (decide (xa.1=4)) ((dx ([xa.2.2.1]:List Int) (xb.2.2.1.length:Int)).bind fun t7=>(cond (!t7) (some (true)) ((dx ([xa.2.1]:List Int) (xb.2.2.2.2.length:Int)).bind fun t8=>some (!t8))).bind fun t9=>some (t9)) (some (false))).bind fun t10=>cond (t10) (some (([],7))) (cond ((decide (xa.1=3))&&(decide ((xb.2.2.1.length:Int)=0))) (some (([],14))) (cond (decide (xa.1=3)) ((aa xb.2.2.1 0).bind fun x11=>(iO x11 xb.2.2.2.1 7 0).bind fun (l12,i13)=>some ((l12,i13))) (cond (decide (xa.1=4)) ((loop (ix xa xb) ((([]:List Tq3),0))).bind fun l14=>(aa xb.2.2.2.2 xa.2.1).bind fun x15=>(aa xb.2.2.1 xa.2.2.1).bind fun x16=>(kJ (x15.1,x15.2.1,x15.2.2.1,x15.2.2.2) xa.2.2.2.2.2 l14 x16).bind fun (l17,i18)=>some ((l17,i18))) (some (([],0))))))))
end
section
open Go.RowKit _root_.Go.Proofs.Tryz
def uG (xa:Tq1):(Int×Int)->Option ((Int×Int)⊕(Unit⊕Tq6)):=fun (i1,i2)=>cond (decide (i2 < (xa.2.2.2.2.2.2.length:Int))) ((aa xa.2.2.2.2.2.2 i2).bind fun x3=>cond (decide (65536 < (IntKind.wrap .i64 (i1 + (x3.1.length:Int))))) (some (.inr ((.inr ((6,5,i2,0)))))) (some (.inl ((IntKind.wrap .i64 (i1 + (x3.1.length:Int)),IntKind.wrap .i64 (i2 + 1)))))) (some (.inr ((.inl ()))))
def mJ (xa:Tq1) (i1:Int) (x2:Tq2):Int->Option (Int⊕(Unit⊕(Int⊕(Unit⊕Tq6)))):=fun i3=>cond (decide (i3 < (x2.1.length:Int))) ((aa x2.1 i3).bind fun x4=>(cy (x4.1,x4.2.1,x4.2.2.1,x4.2.2.2.1,x4.2.2.2.2) xa.2.2.2.1 xa.2.1).bind fun (l5,i6)=>cond (!decide (i6=0)) (some (.inr ((.inr (.inr ((.inr ((i6,6,i1,i3))))))))) (some (.inl (IntKind.wrap .i64 (i3 + 1))))) (some (.inr ((.inl ()))))
def mI (xa:Tq1):Int->Option (Int⊕(Unit⊕Tq6)):=fun i1=>cond (decide (i1 < (xa.2.2.2.2.2.2.length:Int))) ((aa xa.2.2.2.2.2.2 i1).bind fun x2=>(loop (mJ xa i1 x2) 0).bind fun o=>match o with | .inr r=>some r | .inl ()=>(aa xa.2.2.2.2.2.2 i1).bind fun x3=>(cz (x3.2.1,x3.2.2.1,x3.2.2.2.1,x3.2.2.2.2.1,x3.2.2.2.2.2.1,x3.2.2.2.2.2.2) (((xa.2.2.2.2.2.2.length:Int),xa.2.1,xa.2.2.2.1,xa.2.2.2.2.1,xa.2.2.2.2.2.1))).bind fun (l4,i5)=>cond (!decide (i5=0)) (some (.inr ((.inr ((i5,7,i1,0)))))) (some (.inl (IntKind.wrap .i64 (i1 + 1))))) (some (.inr ((.inl ()))))
def kv (xa:Tq1):Option Tq6 :=
 cond (decide ((xa.2.2.2.2.2.2.length:Int)=0)) (some ((14,5,0,0))) (cond (decide (65536 < (xa.2.2.2.2.2.2.length:Int))) (some ((6,5,0,0))) ((loop (uG xa) (0,0)).bind fun o=>match o with | .inr r=>some r | .inl ()=>(loop (mI xa) 0).bind fun o=>match o with | .inr r=>some r | .inl ()=>some ((0,0,0,0))))
def iJ (xa:Tq1):Option Tq6 :=
 (qJ xa).bind fun (i42,i43,i44,i45)=>cond (!decide (i42=0)) (some ((i42,i43,i44,i45))) ((qE xa).bind fun (i53,i54,i55,i56)=>cond (!decide (i53=0)) (some ((i53,i54,i55,i56))) ((kv xa).bind fun (i63,i65,i66,i67)=>some ((i63,i65,i66,i67))))
def iU (xa:Tq1):Option Bool :=
 (iJ xa).bind fun (i15,i17,i18,i19)=>some (decide (i15=0))
def mO (xa:(List Tq4)) (xb:Tq6):Tq9->Option (Tq9⊕(List Tq4)):=fun (l1,i2)=>cond (decide (i2 < (xa.length:Int))) (cond ((decide (xb.1=4))&&(decide (i2=xb.2.2.1))) ((aa xa (IntKind.wrap .i64 (i2 + 1))).bind fun x3=>(app l1 (([(x3.1,x3.2.1,x3.2.2.1,x3.2.2.2.1,x3.2.2.2.2)]:List Tq4))).bind fun z4=>some (.inl ((z4,IntKind.wrap .i64 (i2 + 1))))) (cond ((decide (xb.1=4))&&(decide (i2=(IntKind.wrap .i64 (xb.2.2.1 + 1))))) ((aa xa (IntKind.wrap .i64 (i2 - 1))).bind fun x5=>(app l1 (([(x5.1,x5.2.1,x5.2.2.1,x5.2.2.2.1,x5.2.2.2.2)]:List Tq4))).bind fun z6=>some (.inl ((z6,IntKind.wrap .i64 (i2 + 1))))) (cond (!decide (i2=xb.2.2.1)) ((aa xa i2).bind fun x7=>(app l1 (([(x7.1,x7.2.1,x7.2.2.1,x7.2.2.2.1,x7.2.2.2.2)]:List Tq4))).bind fun z8=>some (.inl ((z8,IntKind.wrap .i64 (i2 + 1))))) (cond (decide (xb.1=1)) ((app l1 (([(0,0,0,0,false)]:List Tq4))).bind fun z9=>some (.inl ((z9,IntKind.wrap .i64 (i2 + 1))))) (cond (decide (xb.1=3)) ((aa xa i2).bind fun x10=>(app l1 (([(x10.1,x10.2.1,x10.2.2.1,x10.2.2.2.1,x10.2.2.2.2)]:List Tq4))).bind fun z11=>(aa xa i2).bind fun x12=>(app z11 (([(x12.1,x12.2.1,x12.2.2.1,x12.2.2.2.1,x12.2.2.2.2)]:List Tq4))).bind fun z13=>some (.inl ((z13,IntKind.wrap .i64 (i2 + 1))))) (some (.inl ((l1,IntKind.wrap .i64 (i2 + 1)))))))))) (some (.inr (l1)))
def iF (xa:(List Tq4)) (xb:Tq6):Option (((List Tq4)×Bool)) :=
 cond (((decide (xb.2.2.1 < 0))||(decide ((xa.length:Int)<=xb.2.2.1)))||((decide (xb.1=4))&&(decide (xb.2.2.1=(IntKind.wrap .i64 ((xa.length:Int) - 1)))))) (some (([],false))) ((loop (mO xa xb) ((([]:List Tq4),0))).bind fun l1=>some ((l1,true)))
def ko (xa:(List Tq3)) (xb:Tq6) (i1:Int):(Int×Tq3)->Option ((Int×Tq3)⊕Tq3):=fun (i2,l3)=>(aa xa i1).bind fun x4=>cond (decide (i2 < (x4.length:Int))) ((aa xa i1).bind fun x5=>(aa x5 i2).bind fun x6=>(cond ((decide (i1=xb.2.1))&&(decide (i2=xb.2.2.1))) (some (xb.2.2.2)) (some (x6.1)):Option Int).bind fun i7=>(app l3 (([(i7,x6.2)]:List (Int×Bool)))).bind fun z8=>some (.inl ((IntKind.wrap .i64 (i2 + 1),z8)))) (some (.inr (l3)))
def mW (xa:(List Tq3)) (xb:Tq6):((List Tq3)×Int)->Option (((List Tq3)×Int)⊕(List Tq3)):=fun (l1,i2)=>cond (decide (i2 < (xa.length:Int))) ((loop (ko xa xb i2) (0,[])).bind fun l3=>(app l1 (([l3]:List Tq3))).bind fun z4=>some (.inl ((z4,IntKind.wrap .i64 (i2 + 1))))) (some (.inr (l1)))
def nd (xa:(List Tq3)) (xb:Tq6):Option (((List Tq3)×Bool)) :=
 cond (decide (xb.2.1 < 0)) (some (([],false))) (cond (decide ((xa.length:Int)<=xb.2.1)) (some (([],false))) (cond (decide (xb.2.2.1 < 0)) (some (([],false))) ((aa xa xb.2.1).bind fun x1=>cond (decide ((x1.length:Int)<=xb.2.2.1)) (some (([],false))) ((loop (mW xa xb) ((([]:List Tq3),0))).bind fun l2=>some ((l2,true))))))
def eY (xa:Tq1) (xb:Tq6):(Tq7×Int)->Option ((Tq7×Int)⊕Tq7):=fun (l1,i2)=>cond (decide (i2 < (xa.2.2.1.length:Int))) (cond ((decide (xb.1=7))||(!decide (i2=xb.2.1))) ((aa xa.2.2.1 i2).bind fun x3=>(app l1 (([(x3.1,x3.2)]:List (Int×Int)))).bind fun z4=>some (.inl ((z4,IntKind.wrap .i64 (i2 + 1))))) (some (.inl ((l1,IntKind.wrap .i64 (i2 + 1)))))) (some (.inr (l1)))
def iB (xa:Tq1) (xb:Tq6):Option ((Int×Int×Tq7×(List Tq3)×Tq3×(List Tq5)×(List Tq2)×Bool)) :=
 cond ((decide (1<=xb.1))&&(decide (xb.1<=4))) (cond ((decide (xb.2.1 < 0))||(decide ((xa.2.2.2.2.2.2.length:Int)<=xb.2.1))) (some ((xa.1,xa.2.1,xa.2.2.1,xa.2.2.2.1,xa.2.2.2.2.1,xa.2.2.2.2.2.1,xa.2.2.2.2.2.2,false))) ((aa xa.2.2.2.2.2.2 xb.2.1).bind fun x1=>(iF x1.1 (xb.1,xb.2.1,xb.2.2.1,xb.2.2.2)).bind fun (l2,t3)=>(app (([]:List Tq2)) xa.2.2.2.2.2.2).bind fun z4=>(aa z4 xb.2.1).bind fun _=>(aa z4 xb.2.1).bind fun x5=>(aT xb.2.1 xb.2.1).bind fun _=>some ((xa.1,xa.2.1,xa.2.2.1,xa.2.2.2.1,xa.2.2.2.2.1,xa.2.2.2.2.2.1,z4.set xb.2.1.toNat ((l2,(x5.2.1,x5.2.2.1,x5.2.2.2.1,x5.2.2.2.2.1,x5.2.2.2.2.2.1,x5.2.2.2.2.2.2))),t3)))) ((cond (decide (xb.1=6)) (some ((IntKind.wrap .i64 (xa.2.1 + 1),xa.2.1))) (some ((xa.2.1,xb.2.2.2))):Option (Int×Int)).bind fun (i6,i7)=>cond ((decide (xb.1=5))||(decide (xb.1=6))) ((nd xa.2.2.2.1 (xb.1,xb.2.1,xb.2.2.1,i7)).bind fun (l8,t9)=>some ((xa.1,i6,xa.2.2.1,l8,xa.2.2.2.2.1,xa.2.2.2.2.2.1,xa.2.2.2.2.2.2,t9))) (cond ((!decide (xb.1=7))&&(((!decide (xb.1=8))||(decide (xb.2.1 < 0)))||(decide ((xa.2.2.1.length:Int)<=xb.2.1)))) (some ((xa.1,i6,xa.2.2.1,xa.2.2.2.1,xa.2.2.2.2.1,xa.2.2.2.2.2.1,xa.2.2.2.2.2.2,false))) ((loop (eY xa xb) ((([]:List (Int×Int)),0))).bind fun l10=>(cond (decide (xb.1=7)) ((app l10 (([(xb.2.1,xb.2.2.1)]:List (Int×Int)))).bind fun z11=>some (z11)) (some (l10)):Option (Tq7)).bind fun l12=>some ((xa.1,i6,l12,xa.2.2.2.1,xa.2.2.2.2.1,xa.2.2.2.2.2.1,xa.2.2.2.2.2.2,true)))))
def m8 (xa:Tq1) (xb:Tq6):Option lT :=
 (iU xa).bind fun t81=>cond (!t81) (some ((0,0,[],[],[],[],[],2))) ((iB xa (xb.1,xb.2.1,xb.2.2.1,xb.2.2.2)).bind fun (i88,i89,l90,l91,l92,l93,l94,t95)=>cond (!t95) (some ((0,0,[],[],[],[],[],7))) ((iJ (i88,i89,l90,l91,l92,l93,l94)).bind fun (i1,i2,i3,i4)=>cond (!decide (i1=0)) (some ((0,0,[],[],[],[],[],i1))) (some ((i88,i89,l90,l91,l92,l93,l94,0)))))
def qq (xa:Tq7) (xb:Tq7):Int->Option (Int⊕(Unit⊕Bool)):=fun i1=>cond (decide (i1 < (xa.length:Int))) ((aa xa i1).bind fun x2=>(aa xb i1).bind fun x3=>cond (!((decide (x2.1=x3.1))&&((decide (x2.2=x3.2))))) (some (.inr ((.inr (false))))) (some (.inl (IntKind.wrap .i64 (i1 + 1))))) (some (.inr ((.inl ()))))
def kr (xa:Tq7) (xb:Tq7):Option Bool :=
 cond (!decide ((xa.length:Int)=(xb.length:Int))) (some (false)) ((loop (qq xa xb) 0).bind fun o=>match o with | .inr r=>some r | .inl ()=>some (true))
def Ft:Hn Tryz.prog := .tw 10 .nil (.jx [] ⟨[],[]⟩ [] (.lp ⟨[kdI 5],[]⟩ (.tw 14 (.mix [] [0,1,2,3,4,5,6,7,8] [] [] (.tw 25 .nil .nil)) .nil)) .nil)
def FS:Spec:=⟨25,⟨[(0,.dat (.sl Yq7)),(1,.dat (.sl Yq7))],[]⟩,[⟨[kdB 0],[]⟩],fun x=>kr x.1 x.2⟩
def zn:OkSpec Tryz.prog:=⟨FS,ae func25 Ft (by kernel_rfl) (by kernel_rfl),call25⟩
def mS (xa:Tq3) (xb:Tq3):Int->Option (Int⊕(Unit⊕Bool)):=fun i1=>cond (decide (i1 < (xa.length:Int))) ((aa xa i1).bind fun x2=>(aa xb i1).bind fun x3=>cond (!decide (x2.1=x3.1)) (some (.inr ((.inr (false))))) (some (.inl (IntKind.wrap .i64 (i1 + 1))))) (some (.inr ((.inl ()))))
def iL (xa:Tq3) (xb:Tq3):Option Bool :=
 (fa xa xb).bind fun t1=>cond (!t1) (some (false)) ((loop (mS xa xb) 0).bind fun o=>match o with | .inr r=>some r | .inl ()=>some (true))
def FP:Hn Tryz.prog := .cl Ge [] (.tw 9 .nil (.jx [] ⟨[],[]⟩ [] (.lp ⟨[kdI 5],[]⟩ (.tw 14 (.mix [] [0,1,2,3,4,5,6,7,8,9,10,11,12] [] [] (.tw 29 .nil .nil)) .nil)) .nil))
def FO:Spec:=⟨27,⟨[(0,.dat Yq8),(1,.dat Yq8)],[]⟩,[⟨[kdB 0],[]⟩],fun x=>iL x.1 x.2⟩
def th:OkSpec Tryz.prog:=⟨FO,ae func27 FP (by kernel_rfl) (by kernel_rfl),call27⟩
def qt (xa:(List Tq3)) (xb:(List Tq3)):Int->Option (Int⊕(Unit⊕Bool)):=fun i1=>cond (decide (i1 < (xa.length:Int))) ((aa xa i1).bind fun x2=>(aa xb i1).bind fun x3=>(iL x2 x3).bind fun t4=>cond (!t4) (some (.inr ((.inr (false))))) (some (.inl (IntKind.wrap .i64 (i1 + 1))))) (some (.inr ((.inl ()))))
def kx (xa:(List Tq3)) (xb:(List Tq3)):Option Bool :=
 cond (!decide ((xa.length:Int)=(xb.length:Int))) (some (false)) ((loop (qt xa xb) 0).bind fun o=>match o with | .inr r=>some r | .inl ()=>some (true))
def F1:Hn Tryz.prog := .tw 10 .nil (.jx [] ⟨[],[]⟩ [] (.lp ⟨[kdI 5],[]⟩ (.tw 14 (.mix [] [0,1,2,3,4,5,6,7] [8,9] [] (.cl th [] (.tw 26 .nil .nil))) .nil)) .nil)
def FI:Spec:=⟨26,⟨[(0,.dat (.sl Yq8)),(1,.dat (.sl Yq8))],[]⟩,[⟨[kdB 0],[]⟩],fun x=>kx x.1 x.2⟩
def y9:OkSpec Tryz.prog:=⟨FI,ae func26 F1 (by kernel_rfl) (by kernel_rfl),call26⟩

def qK (xa:Tq5) (xb:Tq5):Option Bool :=
 (cond (decide (xa.1=xb.1)) ((kr xa.2.1 xb.2.1).bind fun t62=>some (t62)) (some (false))).bind fun t58=>(cond (t58) ((kx xa.2.2.1 xb.2.2.1).bind fun t77=>some (t77)) (some (false))).bind fun t73=>(cond (t73) ((iL xa.2.2.2 xb.2.2.2).bind fun t92=>some (t92)) (some (false))).bind fun t88=>some (t88)
def Gn:Hn Tryz.prog := .gj 5 ⟨[kdB 16],[]⟩ [] (.two 10 (.cl zn [] .nil) .nil) (.wt 17 (.gj 5 ⟨[kdB 23],[]⟩ [] (.two 17 (.cl y9 [] .nil) .nil) (.wt 24 (.gj 5 ⟨[kdB 30],[]⟩ [] (.two 24 (.cl th [] .nil) .nil) .nil))))
def Gm:Spec:=⟨28,⟨[(0,.dat Yq4),(1,.dat Yq4)],[]⟩,[⟨[kdB 0],[]⟩],fun x=>qK x.1 x.2⟩
def Gh:OkSpec Tryz.prog:=⟨Gm,ae func28 Gn (by kernel_rfl) (by kernel_rfl),call28⟩
def mV (xa:(List Int)) (xb:(List Int)):Int->Option (Int⊕(Unit⊕Bool)):=fun i1=>cond (decide (i1 < (xa.length:Int))) ((aa xa i1).bind fun x2=>(aa xb i1).bind fun x3=>cond (!decide (x2=x3)) (some (.inr ((.inr (false))))) (some (.inl (IntKind.wrap .i64 (i1 + 1))))) (some (.inr ((.inl ()))))
def gq (xa:(List Int)) (xb:(List Int)):Option Bool :=
 cond (!decide ((xa.length:Int)=(xb.length:Int))) (some (false)) ((loop (mV xa xb) 0).bind fun o=>match o with | .inr r=>some r | .inl ()=>some (true))
def Gp:Hn Tryz.prog := .tw 10 .nil (.jx [] ⟨[],[]⟩ [] (.lp ⟨[kdI 5],[]⟩ (.tw 14 (.mix [] [0,1,2,3,4,5,6,7,8] [] [] (.tw 25 .nil .nil)) .nil)) .nil)
def FD:Spec:=⟨50,⟨[(0,.dat (.sl Yq2)),(1,.dat (.sl Yq2))],[]⟩,[⟨[kdB 0],[]⟩],fun x=>gq x.1 x.2⟩
def tI:OkSpec Tryz.prog:=⟨FD,ae func50 Gp (by kernel_rfl) (by kernel_rfl),call50⟩

def qM (xa:Tq8) (xb:Tq8):Option Bool :=
 (cond (((decide (xa.1=xb.1))&&(decide (xa.2.1=xb.2.1)))&&(decide (xa.2.2.1=xb.2.2.1))) ((gq xa.2.2.2.1 xb.2.2.2.1).bind fun t70=>some (t70)) (some (false))).bind fun t66=>(cond (t66) ((gq xa.2.2.2.2.1 xb.2.2.2.2.1).bind fun t85=>some (t85)) (some (false))).bind fun t81=>(cond (t81) ((gq xa.2.2.2.2.2 xb.2.2.2.2.2).bind fun t1=>some (t1)) (some (false))).bind fun t96=>some (t96)
def FA:Hn Tryz.prog := .gp 5 (.wt 17 (.gp 5 (.wt 24 (.gj 5 ⟨[kdB 30],[]⟩ [] (.two 24 (.cl tI [] .nil) .nil) (.wt 31 (.gj 5 ⟨[kdB 37],[]⟩ [] (.two 31 (.cl tI [] .nil) .nil) (.wt 38 (.gj 5 ⟨[kdB 44],[]⟩ [] (.two 38 (.cl tI [] .nil) .nil) .nil))))))))
def F0:Spec:=⟨29,⟨[(0,.dat Yq5),(1,.dat Yq5)],[]⟩,[⟨[kdB 0],[]⟩],fun x=>qM x.1 x.2⟩
def FL:OkSpec Tryz.prog:=⟨F0,ae func29 FA (by kernel_rfl) (by kernel_rfl),call29⟩
def qy (xa:Tq1) (xb:Tq1):Int->Option (Int⊕(Unit⊕Bool)):=fun i1=>cond (decide (i1 < (xa.2.2.2.2.2.1.length:Int))) ((aa xa.2.2.2.2.2.1 i1).bind fun x2=>(aa xb.2.2.2.2.2.1 i1).bind fun x3=>(qK (x2.1,x2.2.1,x2.2.2.1,x2.2.2.2) (x3.1,x3.2.1,x3.2.2.1,x3.2.2.2)).bind fun t4=>cond (!t4) (some (.inr ((.inr (false))))) (some (.inl (IntKind.wrap .i64 (i1 + 1))))) (some (.inr ((.inl ()))))
def qw (x1:Tq2) (x2:Tq2):Int->Option (Int⊕(Unit⊕(Int⊕(Unit⊕Bool)))):=fun i3=>cond (decide (i3 < (x1.1.length:Int))) ((aa x1.1 i3).bind fun x4=>(aa x2.1 i3).bind fun x5=>cond (!((decide (x4.1=x5.1))&&((decide (x4.2.1=x5.2.1))&&((decide (x4.2.2.1=x5.2.2.1))&&((decide (x4.2.2.2.1=x5.2.2.2.1))&&(x4.2.2.2.2 == x5.2.2.2.2)))))) (some (.inr ((.inr (.inr ((.inr (false)))))))) (some (.inl (IntKind.wrap .i64 (i3 + 1))))) (some (.inr ((.inl ()))))
def qv (xa:Tq1) (xb:Tq1):Int->Option (Int⊕(Unit⊕Bool)):=fun i1=>cond (decide (i1 < (xa.2.2.2.2.2.2.length:Int))) ((aa xa.2.2.2.2.2.2 i1).bind fun x2=>(aa xb.2.2.2.2.2.2 i1).bind fun x3=>cond (!decide ((x2.1.length:Int)=(x3.1.length:Int))) (some (.inr ((.inr (false))))) ((aa xa.2.2.2.2.2.2 i1).bind fun x4=>(aa xb.2.2.2.2.2.2 i1).bind fun x5=>(qM (x4.2.1,x4.2.2.1,x4.2.2.2.1,x4.2.2.2.2.1,x4.2.2.2.2.2.1,x4.2.2.2.2.2.2) (x5.2.1,x5.2.2.1,x5.2.2.2.1,x5.2.2.2.2.1,x5.2.2.2.2.2.1,x5.2.2.2.2.2.2)).bind fun t6=>cond (!t6) (some (.inr ((.inr (false))))) ((loop (qw x2 x3) 0).bind fun o=>match o with | .inr r=>some r | .inl ()=>some (.inl (IntKind.wrap .i64 (i1 + 1)))))) (some (.inr ((.inl ()))))
def gx (xa:Tq1) (xb:Tq1):Option Bool :=
 (cond ((!decide (xa.1=xb.1))||(!decide (xa.2.1=xb.2.1))) (some (true)) ((kr xa.2.2.1 xb.2.2.1).bind fun t1=>some (!t1))).bind fun t2=>(cond (t2) (some (true)) ((kx xa.2.2.2.1 xb.2.2.2.1).bind fun t3=>some (!t3))).bind fun t4=>(cond (t4) (some (true)) ((iL xa.2.2.2.2.1 xb.2.2.2.2.1).bind fun t5=>some (!t5))).bind fun t6=>cond ((t6||(!decide ((xa.2.2.2.2.2.1.length:Int)=(xb.2.2.2.2.2.1.length:Int))))||(!decide ((xa.2.2.2.2.2.2.length:Int)=(xb.2.2.2.2.2.2.length:Int)))) (some (false)) ((loop (qy xa xb) 0).bind fun o=>match o with | .inr r=>some r | .inl ()=>(loop (qv xa xb) 0).bind fun o=>match o with | .inr r=>some r | .inl ()=>some (true))
def Fq:Hn Tryz.prog := .gp 5 (.wt 22 (.gj 6 ⟨[kdB 29],[]⟩ [] (.two 22 .nil (.cl zn [] .nil)) (.wt 30 (.gj 6 ⟨[kdB 37],[]⟩ [] (.two 30 .nil (.cl y9 [] .nil)) (.wt 38 (.gj 6 ⟨[kdB 45],[]⟩ [] (.two 38 .nil (.cl th [] .nil)) (.wt 46 (.gp 7 (.wt 55 (.gp 7 (.tw 63 .nil (.jx [] ⟨[],[]⟩ [] (.lp ⟨[kdI 5],[]⟩ (.tw 68 (.mix [] [0,1,2,3,4,5,6,7,8,9] [10,11] [] (.cl Gh [] (.tw 82 .nil .nil))) .nil)) (.jx [] ⟨[],[]⟩ [] (.lp ⟨[kdI 6],[]⟩ (.tw 87 (.mix [] [0,1,2,3,4,5,6,7,8,9,10,11,12,13] [] [] (.mix [] [0,1,2,3,4,5,6,7,8,9,10,11,12,13,14,15,16,17] [18,19,20] [] (.two 107 .nil (.cl FL [] (.tw 122 .nil (.jx [] ⟨[],[]⟩ [] (.lp ⟨[kdI 9],[]⟩ (.tw 126 (.mix [] [0,1,2,3,4,5,6,7,8] [] [] (.tw 137 .nil .nil)) .nil)) .nil)))))) .nil)) .nil)))))))))))))
def Gc:Spec:=⟨10,⟨[(0,.dat Yq1),(1,.dat Yq1)],[]⟩,[⟨[kdB 0],[]⟩],fun x=>gx x.1 x.2⟩
def tK:OkSpec Tryz.prog:=⟨Gc,ae func10 Fq (by kernel_rfl) (by kernel_rfl),call10⟩
def gg (xb:(List Tq6)):pS->Option (pS⊕uA):=fun (i1,i2,i3,i4,l5,l6,l7,l8,l9)=>cond (decide (i2 < (xb.length:Int))) ((aa xb i2).bind fun x10=>(iK (i3,i4,l5,l6,l7,l8,l9) (x10.1,x10.2.1,x10.2.2.1,x10.2.2.2)).bind fun (i11,i12,l13,l14,l15,l16,l17,i18)=>cond (!decide (i18=0)) (some (.inl ((IntKind.wrap .i64 (i1 + 1),IntKind.wrap .i64 (i2 + 1),i3,i4,l5,l6,l7,l8,l9)))) (some (.inl ((i1,IntKind.wrap .i64 (i2 + 1),i11,i12,l13,l14,l15,l16,l17))))) (some (.inr (((i1,i3,i4,l5,l6,l7,l8,l9)))))
def gF (xa:Tq1) (xb:(List Tq6)):Option lT :=
 (gC xa).bind fun t1=>cond (!t1) (some ((0,0,[],[],[],[],[],(xb.length:Int)))) ((gv xa).bind fun (i2,i3,l4,l5,l6,l7,l8)=>(loop (gg xb) (0,0,i2,i3,l4,l5,l6,l7,l8)).bind fun (i9,i10,i11,l12,l13,l14,l15,l16)=>some ((i10,i11,l12,l13,l14,l15,l16,i9)))
def Gj:Hn Tryz.prog := .cl zJ [] (.tw 14 .nil (.cl zL [] (.per 6 7 (.per 12 13 (.jn [] ⟨[kdI 7,(19,.any)],[bkC 14 30 [.dat Yq2,.dat Yq2,.dat (.sl Yq7),.dat (.sl Yq8),.dat (.sl Yq3),.dat (.sl Yq4),.dat (.sl (.cons (.sl Yq6) (.one Yq5)))]]⟩ [14,10,8,4,0] (.per 4 5 (.per 8 9 (.per 10 11 (.lp ⟨[kdI 7,kdI 22],[bkC 14 30 [.dat Yq2,.dat Yq2,.dat (.sl Yq7),.dat (.sl Yq8),.dat (.sl Yq3),.dat (.sl Yq4),.dat (.sl (.cons (.sl Yq6) (.one Yq5)))]]⟩ (.tw 23 (.cl yW [] (.tw 33 .nil (.per 21 22 (.per 23 24 (.per 25 26 .nil))))) .nil))))) .nil)))))
def FC:Spec:=⟨11,⟨[(0,.dat Yq1),(1,.dat (.sl (.cons Yq2 (.cons Yq2 Yq7))))],[]⟩,[⟨[(0,.tup [.agg [.dat Yq2,.dat Yq2,.dat (.sl Yq7),.dat (.sl Yq8),.dat (.sl Yq3),.dat (.sl Yq4),.dat (.sl (.cons (.sl Yq6) (.one Yq5)))],.dat Yq2])],[]⟩],fun x=>gF x.1 x.2⟩
def tD:OkSpec Tryz.prog:=⟨FC,ae func11 Gj (by kernel_rfl) (by kernel_rfl),call11⟩
def ga (xb:(List Tq6)):pS->Option (pS⊕uA):=fun (i1,i2,i3,i4,l5,l6,l7,l8,l9)=>cond (decide (i2 < (xb.length:Int))) (((aa xb i2).bind fun x10=>((m8 (i3,i4,l5,l6,l7,l8,l9) (x10.1,x10.2.1,x10.2.2.1,x10.2.2.2)).bind fun (i11,i12,l13,l14,l15,l16,l17,i18)=>some ((i18,i11,i12,l13,l14,l15,l16,l17))).bind fun x19=>((m8 (i3,i4,l5,l6,l7,l8,l9) (x10.1,x10.2.1,x10.2.2.1,x10.2.2.2)).bind fun (i20,i21,l22,l23,l24,l25,l26,i27)=>some ((i27,i20,i21,l22,l23,l24,l25,l26))).bind fun y28=>agr x19 y28 (some x19):Option (uA)).bind fun (i29,i30,i31,l32,l33,l34,l35,l36)=>cond (decide (i29=0)) (some (.inl ((i1,IntKind.wrap .i64 (i2 + 1),i30,i31,l32,l33,l34,l35,l36)))) (some (.inl ((IntKind.wrap .i64 (i1 + 1),IntKind.wrap .i64 (i2 + 1),i3,i4,l5,l6,l7,l8,l9))))) (some (.inr (((i1,i3,i4,l5,l6,l7,l8,l9)))))
def uV (xa:Tq1) (xb:(List Tq6)):Option lT :=
 (iU xa).bind fun t1=>cond (!t1) (some ((0,0,[],[],[],[],[],(xb.length:Int)))) ((loop (ga xb) (0,0,xa.1,xa.2.1,xa.2.2.1,xa.2.2.2.1,xa.2.2.2.2.1,xa.2.2.2.2.2.1,xa.2.2.2.2.2.2)).bind fun (i2,i3,i4,l5,l6,l7,l8,l9)=>some ((i3,i4,l5,l6,l7,l8,l9,i2)))
def qr (xa:Tq1) (xb:Int) (xc:Int):Option Bool :=
 (gl xa).bind fun t1=>cond (!t1) ((iE).bind fun t2=>some (t2)) ((gF xa (([(4,xb,xc,0),(4,xb,xc,0)]:List Tq6))).bind fun (i3,i4,l5,l6,l7,l8,l9,i10)=>(gF xa (([(3,xb,xc,0),(2,xb,xc,0)]:List Tq6))).bind fun (i11,i12,l13,l14,l15,l16,l17,i18)=>(gF xa (([(7,0,0,0),(8,(xa.2.2.1.length:Int),0,0)]:List Tq6))).bind fun (i19,i20,l21,l22,l23,l24,l25,i26)=>cond (!decide (i26=0)) ((cond (((decide (i10=2))&&(decide (i18=2)))&&(decide (i26=2))) ((iE).bind fun t27=>some (t27)) (some (false))).bind fun t28=>some (t28)) ((gx (i3,i4,l5,l6,l7,l8,l9) xa).bind fun t29=>(cond (t29&&((decide (i10=0))||(decide (i10=2)))) ((gx (i11,i12,l13,l14,l15,l16,l17) xa).bind fun t30=>some (t30)) (some (false))).bind fun t31=>(cond (t31&&((decide (i18=0))||(decide (i18=2)))) ((gx (i19,i20,l21,l22,l23,l24,l25) xa).bind fun t32=>some (t32)) (some (false))).bind fun t33=>(cond (t33) ((iE).bind fun t34=>some (t34)) (some (false))).bind fun t35=>some (t35)))
def Ae:Hn Tryz.prog := .cl oQ2 [] (.tw 16 (.cl qG [] .nil) (.per 5 6 (.cl tD [] (.per 10 11 (.cl tD [] (.per 15 16 (.cl tD [] (.tw 53 (.wt 56 (.gp 2 (.wt 60 (.gp 2 (.wt 64 (.gj 1 ⟨[kdB 66],[]⟩ [] (.two 64 (.cl qG [] .nil) .nil) .nil)))))) (.cl tK [] (.gp 6 (.wt 78 (.gj 3 ⟨[kdB 82],[]⟩ [] (.two 78 (.cl tK [] .nil) .nil) (.wt 83 (.gp 6 (.wt 91 (.gj 3 ⟨[kdB 95],[]⟩ [] (.two 91 (.cl tK [] .nil) .nil) (.wt 96 (.gj 1 ⟨[kdB 98],[]⟩ [] (.two 96 (.cl qG [] .nil) .nil) .nil))))))))))))))))))
def uE:Spec:=⟨4,⟨[(0,.dat Yq1),kdI 1,kdI 2],[]⟩,[⟨[kdB 0],[]⟩],fun x=>qr x.1 x.2.1 x.2.2⟩
theorem Ac:cP Tryz.prog uE:=ae func4 Ae (by kernel_rfl) (by kernel_rfl)
end
section
section
variable {σ β:Type} {body:σ->Option (σ⊕β)}
theorem bq (st:Nat->σ) (n:Nat) {b:β} (h:∀ k,k < n->body (st k)=some (.inl (st (k + 1)))) (he:body (st n)=some (.inr b)):loop body (st 0)=some b:=by
 have:∀ m k,k + m=n->loop body (st k)=some b:=by
   intro m
   induction m with
   | zero => intro k hk; have : k = n := by omega
             subst this; exact b9 he
   | succ m ih=>intro k hk; rw [dE (h k (by omega))]; exact ih (k + 1) (by omega)
 exact this n 0 (by omega)
theorem yU (p:Nat->Prop):∀ n,(∃ k,k < n/\p k/\∀ j,j < k->¬ p j)\/∀ j,j < n->¬ p j
 | 0 => .inr (fun j hj=>by omega)
 | n + 1=>by
   rcases yU p n with ⟨k,h1,h2,h3⟩ | h
   . exact .inl ⟨k,by omega,h2,h3⟩
   . by_cases hp:p n
     . exact .inl ⟨n,by omega,hp,h⟩
     . exact .inr (fun j hj=>if e:j=n then e ▸ hp else h j (by omega))
theorem gM (p:Nat->Prop) (st:Nat->σ) (n:Nat) (hit:Nat->β) (e:β) (hgo:∀ k,k < n->¬ p k->body (st k)=some (.inl (st (k + 1)))) (hhit:∀ k,k < n->p k->body (st k)=some (.inr (hit k))) (hend:body (st n)=some (.inr e)) :
   (∃ k,k < n/\p k/\(∀ j,j < k->¬ p j)/\loop body (st 0)=some (hit k))\/((∀ j,j < n->¬ p j)/\loop body (st 0)=some e):=by
 rcases yU p n with ⟨k,h1,h2,h3⟩ | h
 . exact .inl ⟨k,h1,h2,h3,bq st k (fun j hj=>hgo j (by omega) (h3 j hj)) (hhit k h1 h2)⟩
 . exact .inr ⟨h,bq st n (fun k hk=>hgo k hk (h k hk)) hend⟩
open Classical in
theorem Dp (p:Nat->Prop) (st:Nat->σ) (n:Nat) (b e:β) (hgo:∀ k,k < n->¬ p k->body (st k)=some (.inl (st (k + 1)))) (hhit:∀ k,k < n->p k->body (st k)=some (.inr b)) (hend:body (st n)=some (.inr e)) :
   loop body (st 0)=some (if ∃ k,k < n/\p k then b else e):=by
 rcases gM p st n (fun _=>b) e hgo hhit hend with ⟨k,h1,h2,h3,h4⟩ | ⟨h1,h2⟩
 . rw [if_pos ⟨k,h1,h2⟩]; exact h4
 . rw [if_neg (fun ⟨k,h3,h4⟩=>h1 k h3 h4)]; exact h2
end
theorem w64 {x:Int} (h1 : -9223372036854775808<=x) (h2:x<=9223372036854775807):IntKind.wrap .i64 x=x:=by
 rw [IntWalk.i64_left,IntWalk.wrap64_in _ ⟨h1,h2⟩]
theorem ak {k n:Nat} (h:k < n) (hn:n<=9223372036854775807):IntKind.wrap .i64 ((k:Int) + 1)=((k + 1:Nat):Int):=by
 rw [w64 (by omega) (by omega)]; rfl
theorem ah {α:Type} {l:List α} {k:Nat} (h:k < l.length):aa l (k:Int)=some l[k]:=xW rfl h
theorem BX {α γ:Type} (xa:List α) (f:γ->α->γ) (c0:γ) (hn:xa.length<=9223372036854775807) {body:γ×Int->Option ((γ×Int)⊕γ)}
   (hb:∀ k x,xa[k]? = some x->body ((xa.take k).foldl f c0,(k:Int))=some (.inl (f ((xa.take k).foldl f c0) x,IntKind.wrap .i64 ((k:Int) + 1)))) (he:body (xa.foldl f c0,(xa.length:Int))=some (.inr (xa.foldl f c0))):loop body (c0,0)=some (xa.foldl f c0):=by
 have h:=bq (body:=body) (fun k:Nat=>((xa.take k).foldl f c0,(k:Int))) xa.length (b:=xa.foldl f c0) ?_ ?_
 . simpa using h
 . intro k hk;rw [hb k xa[k] (by simp [hk]),ak hk hn]
   congr 3
   rw [Y3 hk,au0]; rfl
 . simpa using he
theorem vw {α γ:Type} (g:α->γ) (xa:List α) (c:List γ):xa.foldl (fun c x=>c++[g x]) c=c++xa.map g:=by
 induction xa generalizing c with
 | nil=>simp
 | cons x xa ih=>simp [ih]
theorem xr {α γ:Type} (xa:List α) (g:α->γ) (c0:List γ) (hn:c0.length + xa.length<=1073741824) {body:List γ×Int->Option ((List γ×Int)⊕List γ)}
   (hb:∀ (c:List γ) (i:Int),body (c,i)=cond (decide (i < ((xa.length:Nat):Int))) ((aa xa i).bind fun x=>(app c [g x]).bind fun z=>some (.inl (z,IntKind.wrap .i64 (i + 1)))) (some (.inr c))):loop body (c0,0)=some (c0++xa.map g):=by
 rw [<- vw];refine BX xa (fun c x=>c++[g x]) c0 (by omega) (fun k x hx=>?_) ?_
 . have hk:=(V1.1 hx).1;rw [hb,vw];have hx':xa[k]=x:=by rw [R0 hk] at hx; exact X3 hx
   have ha:=ar (a:=c0++(xa.take k).map g) (b:=[g x]) (by simp; omega);simp only [M0,ah hk,hx',ha,X8.2 hk,decide_true,cond_true]
 . rw [hb]; simp
end
section
theorem ij {α:Type} {l:List α} {i:Int} (h0:0<=i) (h1:i < (l.length:Nat)):aa l i=some (l[i.toNat]'(by omega)):=by
 unfold aa; rw [if_pos h0]; simp
theorem zb {α:Type} {l:List α} {k:Nat} (h:k + 1 < l.length):aa l ((k:Int) + 1)=some l[k + 1]:=xW rfl h
theorem dlt {k n:Nat} (h:k < n):decide ((k:Int) < (n:Int))=true:=by simp; omega
theorem dge {k n:Nat} (h:¬ k < n):decide ((k:Int) < (n:Int))=false:=by simp; omega
theorem xR {α:Type} [DecidableEq α] (a b:α):(a == b)=decide (a=b):=Z5 a b
section
variable {α β γ σ:Type}
theorem BK {body:σ->Option (σ⊕β)} (n:Nat) (st:Nat->σ) (stop:Nat->Option β) (e:β) (h:∀ k,k < n->body (st k)=some (match stop k with | none => .inl (st (k + 1)) | some b => .inr b)) (he:body (st n)=some (.inr e)) :
   loop body (st 0)=some (((T3 n).findSome? stop).getD e):=by
 rcases gM (fun k=>(stop k).isSome=true) st n (fun k=>(stop k).getD e) e (fun k hk hp=>by
     rw [h k hk]; cases hs:stop k with
     | none=>rfl
     | some b=>simp [hs] at hp) (fun k hk hp=>by
     rw [h k hk]; cases hs:stop k with
     | none=>simp [hs] at hp
     | some b=>rfl) he with ⟨k,h1,h2,h3,h4⟩ | ⟨h1,h2⟩
 . rw [h4];obtain ⟨b,hb⟩:=R9.1 h2;have:(T3 n).findSome? stop=some b:=by
     rw [List.findSome?_eq_some_iff];refine ⟨T3 k,k,(List.range' (k + 1) (n - k - 1)),?_,hb,fun a ha=>?_⟩
     . rw [ah0,ah0,<- List.range'_succ (s:=k) (n:=n - k - 1)];rw [show n - k - 1 + 1=n - k by omega];have:=List.range'_append_1 (s:=0) (m:=k) (n:=n - k);rw [O2,show k + (n - k)=n by omega] at this;exact this.symm
     . have:=h3 a (L8.1 ha);cases hs:stop a with
       | none=>rfl
       | some b=>simp [hs] at this
   rw [this,hb]
 . rw [h2];have:(T3 n).findSome? stop=none:=by
     rw [List.findSome?_eq_none_iff];intro a ha;have:=h1 a (L8.1 ha);cases hs:stop a with
     | none=>rfl
     | some b=>simp [hs] at this
   rw [this]; rfl
theorem bv {body:Int->Option (Int⊕β)} (xa:List α) (t:α->Bool) (hit:Nat->β) (e:β) (hb:∀ (k:Nat) (h:k < xa.length),body (k:Int)=some (if t xa[k] then .inr (hit k) else .inl ((k + 1:Nat):Int))) (he:body (xa.length:Int)=some (.inr e)) :
   loop body 0=some (match xa.findIdx? t with | some k=>hit k | none=>e):=by
 rcases gM (fun k=>∃ h:k < xa.length,t xa[k]=true) (fun k:Nat=>(k:Int)) xa.length hit e (fun k hk hp=>by
     rw [hb k hk,if_neg (fun h=>hp ⟨hk,h⟩)]) (fun k hk ⟨_,hp⟩=>by rw [hb k hk,if_pos hp]) he with ⟨k,h1,⟨_,h2⟩,h3,h4⟩ | ⟨h1,h2⟩
 . rw [show ((0:Int))=((0:Nat):Int) from rfl,h4];have:xa.findIdx? t=some k:=by
     rw [S1];exact ⟨h1,h2,fun j hj=>fun hc=>h3 j hj ⟨by omega,by simpa using hc⟩⟩
   rw [this]
 . rw [show ((0:Int))=((0:Nat):Int) from rfl,h2];have:xa.findIdx? t=none:=by
     rw [T1];intro x hx;obtain ⟨k,hk,rfl⟩:=W3 hx;cases hc:t xa[k] with
     | false=>rfl
     | true=>exact absurd ⟨hk,hc⟩ (h1 k hk)
   rw [this]
theorem gI {body:Int->Option (Int⊕β)} (xa:List α) (t:α->Bool) (hit e:β) (hb:∀ (k:Nat) (h:k < xa.length),body (k:Int)=some (if t xa[k] then .inr hit else .inl ((k + 1:Nat):Int))) (he:body (xa.length:Int)=some (.inr e)) :
   loop body 0=some (if xa.any t then hit else e):=by
 rw [bv xa t (fun _=>hit) e hb he];cases h:xa.findIdx? t with
 | none =>
   have:xa.any t=false:=by
     rw [V3]; intro x hx; have:=T1.1 h x hx; simp [this]
   rw [this]; rfl
 | some k =>
   obtain ⟨hk,h1,_⟩:=S1.1 h;have:xa.any t=true:=L6.2 ⟨_,S0 hk,h1⟩;rw [this]; rfl
theorem kV {δ:Type} {body:(γ×Int)->Option ((γ×Int)⊕δ)} (xa:List α) (acc:Nat->γ) (out:δ) (hb:∀ (k:Nat) (h:k < xa.length),body (acc k,(k:Int))=some (.inl (acc (k + 1),((k + 1:Nat):Int)))) (he:body (acc xa.length,(xa.length:Int))=some (.inr out)) :
   loop body (acc 0,0)=some out:=bq (fun k=>(acc k,(k:Int))) xa.length hb he
theorem q9 [DecidableEq α] {body:Int->Option (Int⊕β)} (xa xb:List α) (hit e:β) (hl:xa.length=xb.length) (hb:∀ (k:Nat) (h:k < xa.length),body (k:Int)=some (if xa[k]=(xb[k]'(by omega)) then .inl ((k + 1:Nat):Int) else .inr hit)) (he:body (xa.length:Int)=some (.inr e)) :
   loop body 0=some (if xa=xb then e else hit):=by
 rw [bv (T3 xa.length) (fun k=>decide (xa[k]?≠xb[k]?)) (fun _=>hit) e (fun k h=>by
     simp at h;rw [hb k h];have h2:k < xb.length:=by omega
     by_cases hq:xa[k]=xb[k] <;> simp [h,h2,hq]) (by simpa using he)]
 by_cases hq:xa=xb
 . subst hq;have:(T3 xa.length).findIdx? (fun k=>decide (xa[k]?≠xa[k]?))=none:=by rw [T1]; simp
   rw [this]; simp
 . cases h:(T3 xa.length).findIdx? (fun k=>decide (xa[k]?≠xb[k]?)) with
   | some k=>simp [hq]
   | none =>
     exfalso; apply hq;rw [T1] at h;apply bA0;intro k;by_cases hk:k < xa.length
     . simpa using h k (L8.2 hk)
     . rw [Q3 (by omega),Q3 (by omega)]
theorem bz {l:List α} {k:Nat} (h:k < l.length):l.take (k + 1)=l.take k++[l[k]]:=Y3 h
theorem ic {a b:Nat} (h:a=b):(!decide ((a:Int)=(b:Int)))=false:=by simp [h]
theorem pp {a b:Nat} (h:¬ a=b):(!decide ((a:Int)=(b:Int)))=true:=by simp; omega
end
theorem ib {α:Type} {l:List α} (h:1<=l.length):subL l 1 ((l.length:Nat):Int)=some (l.drop 1):=by
 rw [sB (by omega) (by omega) (by omega)]; simp
end
open Go.RowKit
namespace Lb
def u8 (n:Int):UInt8:=az0 n.toNat
theorem k9 (n:Int) (h0:0<=n) (h1:n < 256):((u8 n).toNat:Int)=n:=by
 have:(u8 n).toNat=n.toNat % 256:=by simp [u8]
 omega
theorem yP (n:Int) (h0:0<=n):u8 (n % 256)=u8 n:=by
 apply ay0.1;have a:(u8 (n % 256)).toNat=(n % 256).toNat % 256:=by simp [u8]
 have b:(u8 n).toNat=n.toNat % 256:=by simp [u8]
 omega
def ax (n:Int):Nat:=if n<=0 then 0 else if n < 256 then 1 else if n < 65536 then 2 else if n < 16777216 then 3 else 4
theorem Cj (m:Int) (h0:0 < m) (h1:m<=4294967295):ax m=ax (m / 256) + 1:=by
 unfold ax;have:0<=m / 256/\(m / 256) * 256<=m/\m < (m / 256) * 256 + 256:=by omega
 repeat (first | rw [if_pos (by omega)] | rw [if_neg (by omega)])
 split
 . repeat (first | rw [if_pos (by omega)] | rw [if_neg (by omega)])
 . split
   . repeat (first | rw [if_pos (by omega)] | rw [if_neg (by omega)])
   . split
     . repeat (first | rw [if_pos (by omega)] | rw [if_neg (by omega)])
     . repeat (first | rw [if_pos (by omega)] | rw [if_neg (by omega)])
theorem li (m:Int):ax m<=4:=by unfold ax; repeat (split <;> try omega)
theorem sh (m:Int) (h:0 < m):1<=ax m:=by unfold ax; rw [if_neg (by omega)]; repeat (split <;> try omega)
def low:Nat->Int->List UInt8
 | 0,_=>[]
 | j + 1,n=>u8 (n / 256 ^ j % 256) :: low j n
theorem nE (j:Nat) (n:Int):(low j n).length=j:=by induction j <;> simp_all [low]
theorem se:∀ (j:Nat) (n:Int),0<=n->low (j + 1) n=low j (n / 256)++[u8 (n % 256)]
 | 0,n,h=>by simp [low]
 | j + 1,n,h=>by
   have ih:=se j n h;show u8 (n / 256 ^ (j + 1) % 256) :: low (j + 1) n=u8 (n / 256 / 256 ^ j % 256) :: low j (n / 256)++[u8 (n % 256)];rw [ih,Int.ediv_ediv_of_nonneg (by omega:(0:Int)<=256)];have:(256:Int) * 256 ^ j=256 ^ (j + 1):=by rw [bd0,Int.mul_comm]
   rw [this]; rfl
def valid (n:Int):Bool:=decide (0<=n)&&decide (n<=4294967295)
def put (n:Int):List UInt8:=if n < 0\/4294967295 < n then [] else if n < 248 then [u8 n] else u8 (247 + ax n) :: low (ax n) n
def size (n:Int):Int:=if n < 0\/4294967295 < n then 0 else if n < 248 then 1 else 1 + ax n
theorem kU (n:Int):((put n).length:Int)=size n:=by
 unfold put size;split
 . rfl
 . split
   . rfl
   . simp [nE]; omega
def val:List UInt8->Int
 | l=>l.foldl (fun n c=>n * 256 + c.toNat) 0
theorem nW (l:List UInt8) (c:UInt8):val (l++[c])=val l * 256 + c.toNat:=by simp [val]
theorem tf:∀ (l:List UInt8),0<=val l/\val l < 256 ^ l.length:=by
 intro l;refine xq (P:=fun l=>0<=val l/\val l < 256 ^ l.length) ?_ (fun l c ih=>?_) l
 . simp [val]
 . rw [nW];have hc:(c.toNat:Int) < 256:=by have:=c.toNat_lt; omega
   simp only [P0,bc0,bd0];omega
theorem EH:∀ l:List UInt8,low l.length (val l)=l:=by
 intro l;refine xq (P:=fun l=>low l.length (val l)=l) ?_ (fun l c ih=>?_) l
 . rfl
 . have hb:=tf l;have hc:(c.toNat:Int) < 256:=by have:=c.toNat_lt; omega
   rw [nW,P0,bc0,se _ _ (by omega)];have e1:(val l * 256 + c.toNat) / 256=val l:=by omega
   have e2:(val l * 256 + c.toNat) % 256=c.toNat:=by omega
   rw [e1,e2,ih];have:u8 (c.toNat:Int)=c:=by apply ay0.1; have:=k9 c.toNat (by omega) hc; omega
   rw [this]
theorem xJ:∀ (j:Nat) (n:Int),0<=n->n < 256 ^ j->val (low j n)=n
 | 0,n,h0,h1=>by simp at h1; simp [low,val]; omega
 | j + 1,n,h0,h1=>by
   rw [bd0] at h1;rw [se j n h0,nW,xJ j (n / 256) (by omega) (by omega),k9 _ (by omega) (by omega)];omega
theorem AS (n:Int) (h0:0<=n) (h1:n<=4294967295):n < 256 ^ ax n:=by
 unfold ax;split
 . simp; omega
 . split
   . simp; omega
   . split
     . simp; omega
     . split <;> simp <;> omega
theorem Bs (n:Int) (j:Nat) (h:n < 256 ^ j) (hj:j<=4):ax n<=j:=by
 unfold ax
 rcases j with _ | _ | _ | _ | _ | j
 case succ.succ.succ.succ.succ=>omega
 all_goals (simp at h; repeat (split <;> try omega))
def take (l:List UInt8):Int×Int×Int :=
 match l with
 | []=>(0,0,4)
 | c :: r =>
   if c.toNat < 248 then (c.toNat,1,0)
   else if 251 < c.toNat then (0,0,3)
   else if r.length < c.toNat - 247 then (0,0,4)
   else if val (r.take (c.toNat - 247)) < 248\/ax (val (r.take (c.toNat - 247))) < c.toNat - 247 then (0,0,3)
   else (val (r.take (c.toNat - 247)),1 + ((c.toNat - 247:Nat):Int),0)
theorem ze (c:UInt8):u8 c.toNat=c:=by
 apply ay0.1;have:=k9 c.toNat (by omega) (by have:=c.toNat_lt; omega);omega
theorem DD (c:UInt8) (r:List UInt8) (hc:248<=c.toNat) (hc':c.toNat<=251) (hr:c.toNat - 247<=r.length) :
   (put (val (r.take (c.toNat - 247)))=c :: r.take (c.toNat - 247))↔¬ (val (r.take (c.toNat - 247)) < 248\/ax (val (r.take (c.toNat - 247))) < c.toNat - 247):=by
 have hl:(r.take (c.toNat - 247)).length=c.toNat - 247:=by rw [Z0]; omega
 generalize hk:c.toNat - 247=k at *;have hb:=tf (r.take k);have hlow:=EH (r.take k);rw [hl] at hb hlow;generalize hd:r.take k=d at *;have hk4:k<=4:=by omega
 have hbd:val d<=4294967295:=by
   have:(256:Int) ^ k<=256 ^ 4:=by rcases k with _ | _ | _ | _ | _ | k <;> first | omega | decide
   have e4:(256:Int) ^ 4=4294967296:=by decide
   omega
 have hdg:=Bs (val d) k hb.2 hk4;constructor
 . intro e;unfold put at e;rw [if_neg (by omega)] at e;split at e
   . have:=congrArg M1 e; simp [hl] at this; omega
   . rename_i h1;have h2:=(List.cons.inj e).2;have h3:=congrArg M1 h2;rw [nE,hl] at h3;omega
 . intro h;unfold put;rw [if_neg (by omega),if_neg (by omega)];have e:ax (val d)=k:=by omega
   rw [e,hlow];have:(247 + (k:Int))=c.toNat:=by omega
   rw [this,ze]
theorem nS (n:Int) (h:put n≠[]) (s:List UInt8):take (put n++s)=(n,size n,0):=by
 unfold put at h ⊢;unfold size;split at h
 . exact absurd rfl h
 . rename_i hv;rw [if_neg hv,if_neg hv];by_cases h1:n < 248
   . rw [if_pos h1,if_pos h1];have:=k9 n (by omega) (by omega);unfold take;simp only [Z9];rw [if_pos (by omega),this]
   . rw [if_neg h1,if_neg h1];have hd:=li n;have hp:=sh n (by omega);have hu:=k9 (247 + ax n) (by omega) (by omega);have hn:(u8 (247 + ax n)).toNat - 247=ax n:=by omega
     unfold take;simp only [L4];rw [hn,if_neg (by omega),if_neg (by omega),if_neg (by simp [nE])];have e:(low (ax n) n++s).take (ax n)=low (ax n) n:=by
       have:=aI0 (l₁:=low (ax n) n) (l₂:=s); rwa [nE] at this
     rw [e,xJ _ _ (by omega) (AS n (by omega) (by omega)),if_neg (by omega)]
theorem Du (l:List UInt8) (h:(take l).2.2=0):1<=(take l).2.1/\(take l).2.1<=l.length/\put (take l).1=l.take (take l).2.1.toNat:=by
 unfold take at h ⊢
 match l with
 | []=>simp at h
 | c :: r =>
   simp only at h ⊢;by_cases h1:c.toNat < 248
   . simp only [if_pos h1];refine ⟨by omega,by simp; omega,?_⟩;unfold put;rw [if_neg (by omega),if_pos (by omega),ze]; rfl
   . simp only [if_neg h1] at h ⊢;by_cases h2:251 < c.toNat
     . simp [if_pos h2] at h
     . simp only [if_neg h2] at h ⊢;by_cases h3:r.length < c.toNat - 247
       . simp [if_pos h3] at h
       . simp only [if_neg h3] at h ⊢;by_cases h4:val (r.take (c.toNat - 247)) < 248\/ax (val (r.take (c.toNat - 247))) < c.toNat - 247
         . simp [if_pos h4] at h
         . simp only [if_neg h4];refine ⟨by omega,by simp; omega,?_⟩;rw [(DD c r (by omega) (by omega) (by omega)).2 h4];have:(1 + ((c.toNat - 247:Nat):Int)).toNat=(c.toNat - 247) + 1:=by omega
           rw [this,al0]
theorem aR (n:Int):(put n).length<=5:=by
 have h1:=kU n;have h2:=li n;unfold size at h1;split at h1
 . omega
 . split at h1 <;> omega
theorem qL (m:List Int):(m.flatMap put).length<=m.length * 5:=by
 induction m with
 | nil=>simp
 | cons a r ih =>
   have:=aR a;simp only [O3,P0,X1];omega
theorem AO (l:List Int) (k:Nat) (h:k < l.length):(l.take (k + 1)).flatMap put=(l.take k).flatMap put++put (l.getD k 0):=by
 rw [Y3 h,N3];simp [R1,R0 h]
theorem dK (n:Int):put n=[]↔(n < 0\/4294967295 < n):=by
 unfold put;split
 . simp [*]
 . split <;> simp [*]
end Lb
set_option linter.unnecessarySimpa false
set_option linter.unusedSimpArgs false
section
open Go.RowKit Lb
theorem zY:(2:Int) ^ (min (V6 8) (IntKind.bits .i64))=256:=by decide
theorem DE (n:Int) (h:0<=n):aU0 n ((2:Int) ^ (min (V6 8) (IntKind.bits .i64)))=n / 256:=by rw [zY,aH0 _ (by omega)]
theorem Gk (a b:Nat) (ha:a < 1099511627776) (hb:b < 256):IntKind.wrap .i64 ((S3 (IntKind.bits .i64) (IntKind.wrap .i64 ((a:Int) * 2 ^ (min (V6 8) (IntKind.bits .i64)))) ||| S3 (IntKind.bits .i64) (IntKind.wrap .i64 (b:Int))).toNat:Int)=(a:Int) * 256 + b:=by
 rw [zY,w64 (x:=(a:Int) * 256) (by omega) (by omega),w64 (x:=(b:Int)) (by omega) (by omega)];have h:IntKind.wrap .i64 ((S3 64 ((a * 256:Nat):Int) ||| S3 64 (b:Int)).toNat:Int)=((a * 256 ||| b:Nat):Int):=Fe (a * 256) b (by omega) (by omega);have e:((a * 256:Nat):Int)=(a:Int) * 256:=by omega
 rw [e] at h;show IntKind.wrap .i64 ((S3 64 _ ||| S3 64 _).toNat:Int)=_;rw [h];clear h;have e2:a * 256 ||| b=a * 256 + b:=by
   have:=Nat.shiftLeft_add_eq_or_of_lt (i:=8) (b:=b) hb a;rw [Nat.shiftLeft_eq] at this;exact this.symm
 rw [e2,Int.natCast_add,e]
theorem sQ (s:List UInt8) (n:Int) (h0:0<=n) (hs:s.length<=1000000):wrB s (IntKind.wrap .u8 n)=some (s++[u8 n]):=by
 unfold wrB;have e:IntKind.wrap .u8 n=n % 256:=IntKind.wrap_u8' n;rw [e,if_pos (by omega),ar (by simp; omega)];have:=yP n h0;unfold u8 at this;rw [this]; rfl
theorem wx {n:Int} (h:0<=n) (h2:n<=4294967295):put n=if n < 248 then [u8 n] else u8 (247 + ax n) :: low (ax n) n:=by
 unfold put; rw [if_neg (by omega)]
theorem BS {m:Int} (h:ax m=0):m<=0:=by
 rcases Int.lt_or_le 0 m with h' | h'
 . have:=sh m h'; omega
 . exact h'
theorem nR (c:UInt8):IntKind.wrap .i64 ((c.toNat:Nat):Int)=(c.toNat:Int):=by
 have:=c.toNat_lt;exact w64 (by omega) (by omega)
theorem qS (n:Int) (h:n<=4294967295):iN n=some (ax n:Int):=by
 have key:∀ (k:Nat) (m:Int) (c:Nat),ax m=k->m<=4294967295->c + k<=100->loop mU (m,(c:Int))=some ((c + k:Nat):Int):=by
   intro k
   induction k with
   | zero =>
     intro m c hk _ _;have:=BS hk;exact b9 (by unfold mU; simp only [decide_eq_false (show ¬ 0 < m by omega),cond_false]; rfl)
   | succ k ih =>
     intro m c hk hm hc;have hp:0 < m:=by
       rcases Int.lt_or_le 0 m with h' | h'
       . exact h'
       . unfold ax at hk; rw [if_pos h'] at hk; omega
     have hs:=Cj m hp hm;have hw:IntKind.wrap .i64 ((c:Int) + 1)=((c + 1:Nat):Int):=ak (n:=200) (by omega) (by omega);rw [dE (s':=(m / 256,((c + 1:Nat):Int))),ih (m / 256) (c + 1) (by omega) (by omega) (by omega)]
     . congr 1; omega
     . unfold mU;simp only [hp,decide_true,cond_true,DE m (by omega),hw]
 unfold iN;have h4:=li n;have:=key (ax n) n 0 rfl h (by omega);rw [show ((0:Int))=((0:Nat):Int) from rfl,this];simp
theorem Bf (n:Int):nq n=some (size n):=by
 unfold nq size;by_cases h:n < 0\/4294967295 < n
 . rw [if_pos h];have:(decide (n < 0)||decide (4294967295 < n))=true:=by simpa using h
   rw [this]; rfl
 . rw [if_neg h];have:(decide (n < 0)||decide (4294967295 < n))=false:=by simp; omega
   rw [this,cond_false];by_cases h2:n < 248
   . simp [h2]
   . have h4:=li n;rw [qS n (by omega)];simp only [h2,decide_false,cond_false,M0,if_false];rw [w64 (by omega) (by omega)]
theorem AL (x:Int) (h:0<=x):∀ (j:Nat),j<=7->∀ s:List UInt8,s.length + j<=1000000->loop (ne x) (8 * ((j:Int) - 1),s)=some (s++low j x):=by
 intro j
 induction j with
 | zero=>intro _ s _; exact b9 (by simp [ne,low])
 | succ j ih =>
   intro hj s hs;rw [dE (s':=(8 * ((j:Int) - 1),s++[u8 (x / 256 ^ j)])),ih (by omega) _ (by simp; omega)]
   . simp only [low,O0,Z9];have:=yP (x / 256 ^ j) (bO0 h (af0 (bo0 (by omega))));rw [this]
   . have e1:(8 * (((j + 1:Nat):Int) - 1))=((8 * j:Nat):Int):=by omega
     unfold ne;rw [e1];have e2:(2:Int) ^ (min (V6 ((8 * j:Nat):Int)) (IntKind.bits .i64))=256 ^ j:=by
       have hb:IntKind.bits .i64=64:=rfl;rw [O1,hb,T4 (by omega),show (256:Int)=2 ^ 8 by decide,<- Int.pow_mul]
     have e3:aU0 x (256 ^ j)=x / 256 ^ j:=aH0 _ (af0 (bo0 (by omega)));have e4:IntKind.wrap .i64 (((8 * j:Nat):Int) - 8)=8 * ((j:Int) - 1):=by rw [w64 (by omega) (by omega)]; omega
     have e5:decide (0<=((8 * j:Nat):Int))=true:=by simp; omega
     simp only [e5,cond_true,E1 (show 0<=((8 * j:Nat):Int) by omega),M0,e2,e3,e4];rw [sQ _ _ (bO0 h (af0 (bo0 (by omega)))) (by omega)];rfl
theorem gL (l:List Int) (hl:l.length<=100000):da l=some (l.flatMap put):=by
 have key:=bq (body:=kF l) (fun k:Nat=>((k:Int),(l.take k).flatMap put)) l.length (b:=l.flatMap put) ?_ ?_
 . unfold da;simp only [N6,M5] at key;have key':loop (kF l) (0,([]:List UInt8))=some (l.flatMap put):=key;rw [key']; rfl
 . intro k hk;have hlen:=qL (l.take k);simp only [Z0] at hlen;have e:=AO l k hk;have hgd:l.getD k 0=l[k]:=by simp [R1,hk]
   rw [hgd] at e;have hs:((l.take k).flatMap put).length<=500000:=by omega
   unfold kF;simp only [dlt hk,cond_true,ah hk,M0,Bf,ak hk (by omega:l.length<=9223372036854775807),e];generalize (l.take k).flatMap put=S at *;generalize hx:l[k]=x;have h4:=li x;by_cases h0:x < 0\/4294967295 < x
   . have a1:size x=0:=by unfold size; rw [if_pos h0]
     have a2:put x=[]:=(dK x).2 h0;simp [a1,a2]
   . by_cases h1:x < 248
     . have a1:size x=1:=by unfold size; rw [if_neg h0,if_pos h1]
       have a2:put x=[u8 x]:=by rw [wx (by omega) (by omega),if_pos h1]
       rw [a1,a2];simp only [show (decide ((1:Int)=0))=false from rfl,cond_false,decide_true,cond_true];rw [sQ _ _ (by omega) (by omega)]; rfl
     . have a1:size x=1 + ax x:=by unfold size; rw [if_neg h0,if_neg h1]
       have a2:put x=u8 (247 + ax x) :: low (ax x) x:=by rw [wx (by omega) (by omega),if_neg h1]
       have hp:=sh x (by omega);rw [a1,a2];have c1:decide ((1:Int) + ax x=0)=false:=by simp; omega
       have c2:decide ((1:Int) + ax x=1)=false:=by simp; omega
       have c3:IntKind.wrap .i64 ((IntKind.wrap .i64 (247 + (1 + (ax x:Int)))) - 1)=247 + ax x:=by
         rw [w64 (x:=247 + (1 + (ax x:Int))) (by omega) (by omega),w64 (by omega) (by omega)]; omega
       have c4:IntKind.wrap .i64 (8 * (IntKind.wrap .i64 ((1 + (ax x:Int)) - 2)))=8 * ((ax x:Int) - 1):=by
         rw [w64 (x:=(1 + (ax x:Int)) - 2) (by omega) (by omega),w64 (by omega) (by omega)]; omega
       rw [c1,c2,cond_false,cond_false,c3,c4,sQ _ _ (by omega) (by omega),M0,AL x (by omega) _ (by omega) _ (by simp; omega)];simp
 . simp [kF]
theorem CI (r:List UInt8) (k:Nat) (h:k < r.length):val (r.take (k + 1))=val (r.take k) * 256 + r[k].toNat:=by
 rw [bz h,nW]
theorem wa (r:List UInt8) (k:Nat) (h:k<=4):0<=val (r.take k)/\val (r.take k)<=4294967295:=by
 have hb:=tf (r.take k);have hl:(r.take k).length<=4:=by simp; omega
 generalize (r.take k).length=m at *;have:(256:Int) ^ m<=256 ^ 4:=by rcases m with _ | _ | _ | _ | _ | m <;> first | omega | decide
 have e4:(256:Int) ^ 4=4294967296:=by decide
 omega
theorem gH (l:List UInt8) (hl:l.length<=1073741824):ek l=some (take l):=by
 unfold ek take
 match l with
 | []=>rfl
 | c :: r =>
   have hne:decide (c :: r=([]:List UInt8))=false:=by simp
   have hc:=c.toNat_lt;simp only [hne,cond_false,show aa (c :: r) 0=some c from rfl,M0,nR];by_cases h1:c.toNat < 248
   . have:decide ((c.toNat:Int) < 248)=true:=by simp; omega
     rw [this,if_pos h1]; rfl
   . have e1 : decide ((c.toNat : Int) < 248) = false := by simp; omega
     have e2:IntKind.wrap .i64 ((c.toNat:Int) - 247)=((c.toNat - 247:Nat):Int):=by rw [w64 (by omega) (by omega)]; omega
     rw [e1,if_neg h1,cond_false,qS _ (by omega),M0,e2];have ed:ax 4294967295=4:=by decide
     rw [ed];generalize hk:c.toNat - 247=k;by_cases h2:251 < c.toNat
     . have:decide (((4:Nat):Int) < (k:Int))=true:=by simp; omega
       rw [this,if_pos h2]; rfl
     . have:decide (((4:Nat):Int) < (k:Int))=false:=by simp; omega
       rw [this,if_neg h2,cond_false];by_cases h3:r.length < k
       . have:decide ((((c :: r).length:Nat):Int)<=(k:Int))=true:=by simp; omega
         rw [this,if_pos h3]; rfl
       . have:decide ((((c :: r).length:Nat):Int)<=(k:Int))=false:=by simp; omega
         rw [this,if_neg h3,cond_false];have hloop:loop (kE (c :: r) c) (0,1)=some (val (r.take k)):=by
           have:=bq (body:=kE (c :: r) c) (fun j:Nat=>(val (r.take j),((j + 1:Nat):Int))) k (b:=val (r.take k)) ?_ ?_
           . simpa [val] using this
           . intro j hj;have hjr:j < r.length:=by omega
             have hjl:j + 1 < (c :: r).length:=by simp; omega
             have hv:=wa r j (by omega);have hx:=(r[j]).toNat_lt;have d1:decide (((j + 1:Nat):Int)<=(k:Int))=true:=by simp; omega
             have d2:(c :: r)[j + 1]=r[j]:=rfl;have d3:((j + 1:Nat):Int) + 1=((j + 1 + 1:Nat):Int):=by omega
             obtain ⟨a,ha⟩:=X0 hv.1;have d4:=Gk a r[j].toNat (by omega) (by omega);unfold kE;simp only [nR,e2,hk,d1,cond_true];rw [ah hjl,M0,d2,CI r j hjr,ha];rw [nR] at d4;rw [d4,w64 (x:=((j + 1:Nat):Int) + 1) (by omega) (by omega),d3]
           . unfold kE;have d1:decide (((k + 1:Nat):Int)<=(k:Int))=false:=by simp; omega
             simp only [nR,e2,hk,d1,cond_false]
         rw [hloop,M0];have hv:=wa r k (by omega);have e5:IntKind.wrap .i64 (1 + (k:Int))=1 + (k:Int):=w64 (by omega) (by omega);rw [e5,qS _ hv.2];by_cases h4:val (r.take k) < 248
         . simp [h4]
         . by_cases h5:ax (val (r.take k)) < k
           . have:decide (((ax (val (r.take k)):Nat):Int) < (k:Int))=true:=by simp; omega
             simp [h4,h5]
           . have:decide (((ax (val (r.take k)):Nat):Int) < (k:Int))=false:=by simp; omega
             simp [h4,h5]
theorem c9 (l:List UInt8):(∃ (n:Int) (k:Nat),take l=(n,(k:Int),0)/\0<=n/\n<=4294967295/\1<=k/\k<=l.length/\put n=l.take k)\/(∃ e,take l=(0,0,e)/\e≠0):=by
 by_cases h:(take l).2.2=0
 . obtain ⟨h1,h2,h3⟩:=Du l h;refine .inl ⟨(take l).1,(take l).2.1.toNat,?_,?_,?_,by omega,by omega,h3⟩
   . generalize take l=t at *;obtain ⟨a,b,c⟩:=t;dsimp only at *;rw [h,bn0 (by omega)]
   all_goals
     have hne:¬ put (take l).1=[]:=by
       intro h0; rw [h0] at h3;have:=congrArg M1 h3;simp at this; omega
     have hb:¬ ((take l).1 < 0\/4294967295 < (take l).1):=fun q=>hne ((dK (take l).1).2 q)
     omega
 . refine .inr ⟨(take l).2.2,?_,h⟩;have:(take l).2.2=0\/take l=(0,0,(take l).2.2):=by
     unfold take;split
     . exact .inr rfl
     . split
       . exact .inl rfl
       . split
         . exact .inr rfl
         . split
           . exact .inr rfl
           . split
             . exact .inr rfl
             . exact .inl rfl
   rcases this with h' | h'
   . exact absurd h' h
   . exact h'
def aO:List Bool->List UInt8->Int×List Int×Nat
 | [],_=>(0,[],0)
 | false :: hs,s=>((aO hs s).1,0 :: (aO hs s).2.1,(aO hs s).2.2)
 | true :: hs,s=>if (take s).2.2≠0 then ((take s).2.2,[],0) else ((aO hs (s.drop (take s).2.1.toNat)).1,(take s).1 :: (aO hs (s.drop (take s).2.1.toNat)).2.1,(take s).2.1.toNat + (aO hs (s.drop (take s).2.1.toNat)).2.2)
def bJ:List Bool->List Int->List UInt8
 | true :: hs,n :: ns=>put n++bJ hs ns
 | false :: hs,_ :: ns=>bJ hs ns
 | _,_=>[]
theorem wV:∀ (hs:List Bool) (ns:List Int) (s:List UInt8),hs.length=ns.length->(∀ k (h1:k < hs.length) (h2:k < ns.length),(hs[k]=true->put ns[k]≠[])/\(hs[k]=false->ns[k]=0))->aO hs (bJ hs ns++s)=(0,ns,(bJ hs ns).length)
 | [],[],s,_,_=>rfl
 | [],_ :: _,_,h,_=>by simp at h
 | _ :: _,[],_,h,_=>by simp at h
 | b :: hs,n :: ns,s,h,hp=>by
   have ih:=fun s=>wV hs ns s (by simpa using h) (fun k h1 h2=>hp (k + 1) (by simpa using h1) (by simpa using h2))
   have h0:=hp 0 (by simp) (by simp);simp only [S8] at h0;cases b with
   | false=>rw [h0.2 rfl]; simp only [aO,bJ,ih]
   | true =>
     have ht:=nS n (h0.1 rfl) (bJ hs ns++s);have hl:=kU n;simp only [aO,bJ,O0,ht,ne_eq,not_true_eq_false,if_false];have e:(size n).toNat=(put n).length:=by omega
     rw [e,P5,ih,P0]
theorem r7:∀ (hs:List Bool) (s:List UInt8),(aO hs s).1=0->(aO hs s).2.2<=s.length/\bJ hs (aO hs s).2.1=s.take (aO hs s).2.2/\(aO hs s).2.1.length=hs.length/\∀ k (h1:k < hs.length) (h2:k < (aO hs s).2.1.length),(0<=(aO hs s).2.1[k]/\(aO hs s).2.1[k]<=4294967295)/\(hs[k]=false->(aO hs s).2.1[k]=0)
 | [],s,_=>by simp [aO,bJ]
 | false :: hs,s,h=>by
   obtain ⟨h1,h2,h3,h4⟩:=r7 hs s h;refine ⟨h1,h2,by simp [aO,h3],fun k k1 k2=>?_⟩;cases k with
   | zero=>simp [aO]
   | succ k=>exact h4 k (by simpa using k1) (by simpa [aO] using k2)
 | true :: hs,s,h=>by
   rcases c9 s with ⟨n,m,ht,n0,n1,m0,m1,hp⟩ | ⟨e,ht,he⟩
   . simp only [aO,ht,ne_eq,not_true_eq_false,if_false,O1] at h ⊢;obtain ⟨h1,h2,h3,h4⟩:=r7 hs (s.drop m) h;simp only [U0] at h1;refine ⟨by omega,?_,by simp [h3],fun k k1 k2=>?_⟩
     . simp only [bJ,hp,h2,K7]
     . cases k with
       | zero=>exact ⟨⟨n0,n1⟩,fun h=>by simp at h⟩
       | succ k=>exact h4 k (by simpa using k1) (by simpa using k2)
   . simp [aO,ht,he] at h
end
section
open Go.RowKit Lb
abbrev Ps (α:Type):=List UInt8->Int⊕(α×Nat)
section
variable {α β γ δ σ ρ:Type}
def aF (x:α):Ps α:=fun _ => .inr (x,0)
def tC (e:Int):Ps α:=fun _ => .inl e
def pb (p:Ps α) (q:α->Ps β):Ps β:=fun s =>
 match p s with
 | .inl e => .inl e
 | .inr (x,m)=>match q x (s.drop m) with
   | .inl e => .inl e
   | .inr (y,k) => .inr (y,m + k)
def bw:Ps Int:=fun s=>if (take s).2.2=0 then .inr ((take s).1,(take s).2.1.toNat) else .inl (take s).2.2
def bK (p:Ps α):Nat->Ps (List α)
 | 0=>aF []
 | n + 1=>pb p fun x=>pb (bK p n) fun xs=>aF (x :: xs)
def dn (most:Int):Ps Int:=pb bw fun n=>if most < n then tC 6 else aF n
def aK (most:Int) (p:Ps α):Ps (List α):=pb (dn most) fun n=>bK p n.toNat
def pC (f:α->β) (p:Ps α):Ps β:=pb p fun x=>aF (f x)
theorem bF {p:Ps α} {q:α->Ps β} {s:List UInt8} {y:β} {k:Nat} (h:pb p q s = .inr (y,k)):∃ x m j,p s = .inr (x,m)/\q x (s.drop m) = .inr (y,j)/\k=m + j:=by
 unfold pb at h;cases h1:p s with
 | inl e=>rw [h1] at h; cases h
 | inr xm =>
   obtain ⟨x,m⟩:=xm;rw [h1] at h;dsimp only at h;cases h2:q x (s.drop m) with
   | inl e=>rw [h2] at h; cases h
   | inr yj =>
     obtain ⟨y',j⟩:=yj;rw [h2] at h;cases h;exact ⟨x,m,j,rfl,h2,rfl⟩
theorem fA {p:Ps α} {q:α->Ps β} {s:List UInt8} {e:Int} (h:pb p q s = .inl e):p s = .inl e\/∃ x m,p s = .inr (x,m)/\q x (s.drop m) = .inl e:=by
 unfold pb at h;cases h1:p s with
 | inl e=>rw [h1] at h; cases h; exact .inl rfl
 | inr xm =>
   obtain ⟨x,m⟩:=xm;rw [h1] at h;dsimp only at h;cases h2:q x (s.drop m) with
   | inl e=>rw [h2] at h; cases h; exact .inr ⟨x,m,rfl,h2⟩
   | inr yj=>rw [h2] at h; cases h
def eQ (m:Nat):Int⊕(α×Nat)->Int⊕(α×Nat)
 | .inl e => .inl e
 | .inr (y,k) => .inr (y,m + k)
theorem bG {p:Ps α} {q:α->Ps β} {s:List UInt8} {x:α} {m:Nat} (h:p s = .inr (x,m)):pb p q s=eQ m (q x (s.drop m)):=by
 unfold pb; rw [h]; rfl
theorem fB {p:Ps α} {q:α->Ps β} {s:List UInt8} {e:Int} (h:p s = .inl e):pb p q s = .inl e:=by unfold pb; rw [h]
structure Sane (p:Ps α):Prop where
 err:∀ s e,p s = .inl e->e≠0
 len:∀ s x m,p s = .inr (x,m)->m<=s.length
theorem Sane.ret (x:α):Sane (aF x):=⟨fun s e h=>(by cases h),fun s y m h=>(by cases h; omega)⟩
theorem Sane.fail {e:Int} (h:e≠0):Sane (tC e:Ps α):=⟨fun s e' h'=>(by cases h'; exact h),fun s y m h=>(by cases h)⟩
theorem Sane.pb {p:Ps α} {q:α->Ps β} (hp:Sane p) (hq:∀ x,Sane (q x)):Sane (pb p q) :=
 ⟨fun s e h=>by
   rcases fA h with h | ⟨x,m,h1,h2⟩
   . exact hp.err s e h
   . exact (hq x).err _ e h2,
 fun s y k h=>by
   obtain ⟨x,m,j,h1,h2,rfl⟩:=bF h;have:=hp.len s x m h1;have h3:=(hq x).len _ y j h2;rw [U0] at h3; omega⟩
theorem cL {s:List UInt8} {n:Int} {m:Nat} (h:bw s = .inr (n,m)):take s=(n,(m:Int),0)/\0<=n/\n<=4294967295/\1<=m/\m<=s.length/\put n=s.take m:=by
 unfold bw at h;split at h
 . rename_i h0;simp only [an0,W5] at h;obtain ⟨rfl,rfl⟩:=h
   rcases c9 s with ⟨n,k,h1,h2,h3,h4,h5,h6⟩ | ⟨e,h1,h2⟩
   . rw [h1]; simp only [O1]; exact ⟨trivial,h2,h3,h4,h5,h6⟩
   . rw [h1] at h0; exact absurd h0 h2
 . cases h
theorem dG {s:List UInt8} {e:Int} (h:bw s = .inl e):take s=(0,0,e)/\e≠0:=by
 unfold bw at h;split at h
 . cases h
 . rename_i h0;cases h
   rcases c9 s with ⟨n,k,h1,h2,h3,h4,h5,h6⟩ | ⟨e,h1,h2⟩
   . rw [h1] at h0; exact absurd rfl h0
   . rw [h1]; exact ⟨rfl,h2⟩
theorem Sane.num:Sane bw:=⟨fun s e h=>(dG h).2,fun s x m h=>(cL h).2.2.2.2.1⟩
theorem Sane.map {f:α->β} {p:Ps α} (hp:Sane p):Sane (pC f p):=hp.pb (fun x=>Sane.ret _)
theorem Sane.count (most:Int):Sane (dn most):=Sane.num.pb (fun n=>by split; exact Sane.fail (by decide); exact Sane.ret _)
theorem Sane.many {p:Ps α} (hp:Sane p):∀ n,Sane (bK p n)
 | 0=>Sane.ret _
 | n + 1=>hp.pb (fun x=>(Sane.many hp n).pb (fun xs=>Sane.ret _))
theorem Sane.list {p:Ps α} (most:Int) (hp:Sane p):Sane (aK most p):=(Sane.count most).pb (fun n=>Sane.many hp _)
theorem kT {most:Int} {s:List UInt8} {n:Int} {m:Nat} (h:dn most s = .inr (n,m)):bw s = .inr (n,m)/\n<=most:=by
 obtain ⟨x,a,j,h1,h2,rfl⟩:=bF h;split at h2
 . cases h2
 . cases h2; exact ⟨h1,by omega⟩
structure Cod (p:Ps α) (w:α->List UInt8) (ok:α->Prop):Prop where
 back:∀ s x m,p s = .inr (x,m)->ok x/\s.take m=w x
 to:∀ x T,ok x->p (w x++T) = .inr (x,(w x).length)
theorem Cod.num:Cod bw put (fun n=>0<=n/\n<=4294967295) :=
 ⟨fun s n m h=>by obtain ⟨_,h0,h1,_,_,h2⟩:=cL h; exact ⟨⟨h0,h1⟩,h2.symm⟩,
 fun n T ⟨h0,h1⟩=>by
   have hp:put n≠[]:=fun h=>by have:=(dK n).1 h; omega
   have:=kU n;unfold bw;rw [nS n hp T];simp only [if_true,an0,W5,true_and];omega⟩
theorem Cod.many {p:Ps α} {w:α->List UInt8} {ok:α->Prop} (hp:Cod p w ok):∀ n,Cod (bK p n) (fun l=>l.flatMap w) (fun l=>l.length=n/\∀ x∈l,ok x)
 | 0=>⟨fun s l m h=>by cases h; simp,fun l T h=>by obtain rfl:=V0.1 h.1; rfl⟩
 | n + 1=>by
   have ih:=Cod.many hp n;refine ⟨fun s l m h=>?_,fun l T h=>?_⟩
   . obtain ⟨x,a,j,h1,h2,rfl⟩:=bF h;obtain ⟨xs,b,j',h3,h4,rfl⟩:=bF h2;cases h4;obtain ⟨o1,t1⟩:=hp.back _ _ _ h1;obtain ⟨⟨o2,o3⟩,t2⟩:=ih.back _ _ _ h3;refine ⟨⟨by simp [o2],fun y hy=>?_⟩,?_⟩
     . rcases U2.1 hy with rfl | hy
       . exact o1
       . exact o3 y hy
     . rw [Z3,K7,t1,t2]; rfl
   . match l,h with
     | x :: l,⟨h1,h2⟩ =>
       show pb p _ _=_;simp only [O3,O0];rw [bG (hp.to x _ (h2 x (by simp))),P5];have:=ih.to l T ⟨by simpa using h1,fun y hy=>h2 y (by simp [hy])⟩;rw [bG this];simp [aF,eQ]
theorem Cod.list {p:Ps α} {w:α->List UInt8} {ok:α->Prop} {most:Int} (hm:most<=4294967295) (hp:Cod p w ok):Cod (aK most p) (fun l=>put (l.length:Int)++l.flatMap w) (fun l=>(l.length:Int)<=most/\∀ x∈l,ok x):=by
 refine ⟨fun s l m h=>?_,fun l T ⟨h1,h2⟩=>?_⟩
 . obtain ⟨n,a,j,h1,h2,rfl⟩:=bF h;obtain ⟨h3,h4⟩:=kT h1;obtain ⟨_,n0,n1,_,_,hp1⟩:=cL h3;obtain ⟨⟨o1,o2⟩,t⟩:=(hp.many n.toNat).back _ _ _ h2;have e:(l.length:Int)=n:=by omega
   refine ⟨⟨by omega,o2⟩,?_⟩;rw [K7,t,e,hp1]
 . have hn:=Cod.num.to (l.length:Int) (l.flatMap w++T) ⟨by omega,by omega⟩;have hc:dn most (put (l.length:Int)++(l.flatMap w++T)) = .inr ((l.length:Int),(put (l.length:Int)).length):=by
     unfold dn; rw [bG hn];rw [if_neg (by omega)]; simp [aF,eQ]
   unfold aK;rw [O0,bG hc,P5];have:=(hp.many l.length).to l T ⟨rfl,h2⟩;rw [O1,this];simp [eQ]
theorem Cod.pair {p:Ps α} {w:α->List UInt8} {ok:α->Prop} {q:α->Ps β} {v:α->β->List UInt8} {ok':α->β->Prop} (hp:Cod p w ok) (hq:∀ x,ok x->Cod (q x) (v x) (ok' x)) :
   Cod (pb p fun x=>pb (q x) fun y=>aF (x,y)) (fun z=>w z.1++v z.1 z.2) (fun z=>ok z.1/\ok' z.1 z.2):=by
 refine ⟨fun s z m h=>?_,fun z T ⟨h1,h2⟩=>?_⟩
 . obtain ⟨x,a,j,h1,h2,rfl⟩:=bF h;obtain ⟨y,b,j',h3,h4,rfl⟩:=bF h2;cases h4;obtain ⟨o1,t1⟩:=hp.back _ _ _ h1;obtain ⟨o2,t2⟩:=(hq x o1).back _ _ _ h3;exact ⟨⟨o1,o2⟩,by rw [Z3,K7,t1,t2]⟩
 . obtain ⟨x,y⟩:=z;dsimp only at *;rw [O0,bG (hp.to x _ h1),P5,bG ((hq x h1).to y T h2)];simp [aF,eQ]
theorem Cod.map {p:Ps α} {w:α->List UInt8} {ok:α->Prop} (f:α->β) (g:β->α) (hp:Cod p w ok) (hg:∀ x,ok x->g (f x)=x):Cod (pC f p) (fun y=>w (g y)) (fun y=>ok (g y)/\f (g y)=y):=by
 refine ⟨fun s y m h=>?_,fun y T ⟨h1,h2⟩=>?_⟩
 . obtain ⟨x,a,j,h1,h2,rfl⟩:=bF h;cases h2;obtain ⟨o1,t1⟩:=hp.back _ _ _ h1;exact ⟨⟨by rw [hg x o1]; exact o1,by rw [hg x o1]⟩,by rw [Z3,hg x o1]; exact t1⟩
 . unfold pC;rw [bG (hp.to _ T h1)];simp [aF,eQ,h2]
theorem Cod.imp {p:Ps α} {w w':α->List UInt8} {ok ok':α->Prop} (hp:Cod p w ok) (h:∀ x,ok x↔ok' x) (hw:∀ x,ok x->w x=w' x):Cod p w' ok' :=
 ⟨fun s x m h1=>by obtain ⟨h2,h3⟩:=hp.back s x m h1; exact ⟨(h x).1 h2,by rw [h3,hw x h2]⟩,fun x T h1=>by have:=(h x).2 h1; rw [<- hw x this]; exact hp.to x T this⟩
def Goes (m:Option γ) (ok:α->Nat->γ) (E:Int->γ->Prop):Int⊕(α×Nat)->Prop
 | .inr (x,j)=>m=some (ok x j)
 | .inl e=>∃ g,m=some g/\E e g
theorem Goes.bind {m:Option γ} {f:γ->Option δ} {p:Ps α} {q:α->Ps β} {s:List UInt8} {okp:α->Nat->γ} {okq:β->Nat->δ} {Ep:Int->γ->Prop} {Eq:Int->δ->Prop}
   (h:Goes m okp Ep (p s)) (h1:∀ x j,p s = .inr (x,j)->Goes (f (okp x j)) (fun y i=>okq y (j + i)) Eq (q x (s.drop j))) (h2:∀ e g,p s = .inl e->Ep e g->∃ d,f g=some d/\Eq e d) :
   Goes (m.bind f) okq Eq (pb p q s):=by
 cases hs:p s with
 | inl e =>
   rw [hs] at h;obtain ⟨g,rfl,hg⟩:=h;rw [fB hs];exact h2 e g hs hg
 | inr xm =>
   obtain ⟨x,j⟩:=xm;rw [hs] at h;obtain rfl:m=_:=h;rw [bG hs,M0];have h3:=h1 x j hs;cases h4:q x (s.drop j) with
   | inl e=>rw [h4] at h3; exact h3
   | inr yk=>rw [h4] at h3; exact h3
theorem Goes.map {m:Option γ} {f:γ->Option δ} {ok:α->Nat->γ} {ok':α->Nat->δ} {E:Int->γ->Prop} {E':Int->δ->Prop} {r:Int⊕(α×Nat)} (h:Goes m ok E r)
   (h1:∀ x j,r = .inr (x,j)->f (ok x j)=some (ok' x j)) (h2:∀ e g,r = .inl e->E e g->∃ d,f g=some d/\E' e d):Goes (m.bind f) ok' E' r:=by
 cases r with
 | inl e=>obtain ⟨g,rfl,hg⟩:=h; exact h2 e g rfl hg
 | inr x=>obtain ⟨x,j⟩:=x; obtain rfl:m=_:=h; exact h1 x j rfl
theorem Goes.of {m:Option γ} {ok ok':α->Nat->γ} {E:Int->γ->Prop} {r:Int⊕(α×Nat)} (h:Goes m ok E r) (k:∀ x j,ok x j=ok' x j):Goes m ok' E r:=by
 cases r with
 | inl e=>exact h
 | inr x=>obtain ⟨x,j⟩:=x; exact (show m=_ from h).trans (by rw [k])
theorem rG {p:Ps α} (hp:Sane p) (hpos:∀ s x m,p s = .inr (x,m)->1<=m) (s:List UInt8) {body:σ->Option (σ⊕ρ)} (n:Nat) (st:List α->Nat->σ) (fin:List α->Nat->ρ) (E:Int->ρ->Prop)
   (hgo:∀ acc k,acc.length < n->acc.length<=k->k<=s.length->(∀ x m,p (s.drop k) = .inr (x,m)->body (st acc k)=some (.inl (st (acc++[x]) (k + m)))) /\
     (∀ e,p (s.drop k) = .inl e->∃ r,E e r/\(body (st acc k)=some (.inr r)\/∃ s',body (st acc k)=some (.inl s')/\body s'=some (.inr r))))
   (hend:∀ acc k,acc.length=n->k<=s.length->body (st acc k)=some (.inr (fin acc k))) {k0:Nat} (hk0:k0<=s.length) :
   Goes (loop body (st [] k0)) (fun xs j=>fin xs (k0 + j)) E (bK p n (s.drop k0)):=by
 have gen:∀ (m:Nat) (acc:List α) (k:Nat),acc.length + m=n->acc.length<=k->k<=s.length->Goes (loop body (st acc k)) (fun xs j=>fin (acc++xs) (k + j)) E (bK p m (s.drop k)):=by
   intro m
   induction m with
   | zero =>
     intro acc k h1 h2 h3;show loop body (st acc k)=some _;rw [b9 (hend acc k (by omega) h3)]; simp
   | succ m ih =>
     intro acc k h1 h2 h3;obtain ⟨g1,g2⟩:=hgo acc k (by omega) h2 h3;cases hs:p (s.drop k) with
     | inl e =>
       obtain ⟨r,hr,h4⟩:=g2 e hs;have:bK p (m + 1) (s.drop k) = .inl e:=fB hs;rw [this];refine ⟨r,?_,hr⟩
       rcases h4 with h4 | ⟨s',h4,h5⟩
       . exact b9 h4
       . rw [dE h4]; exact b9 h5
     | inr xm =>
       obtain ⟨x,a⟩:=xm;rw [dE (g1 x a hs)];have e1:=hp.len _ _ _ hs;have e2:=hpos _ _ _ hs;rw [U0] at e1;have h6:=ih (acc++[x]) (k + a) (by simp; omega) (by simp; omega) (by omega);have e3:bK p (m + 1) (s.drop k)=(match bK p m (s.drop (k + a)) with | .inl e => .inl e | .inr (xs,j) => .inr (x :: xs,a + j)):=by
         show pb p _ _=_;rw [bG hs,K4];cases h7:bK p m (s.drop (k + a)) with
         | inl e=>rw [fB h7]; rfl
         | inr xj=>obtain ⟨xs,j⟩:=xj; rw [bG h7]; simp [aF,eQ]
       rw [e3];cases h7:bK p m (s.drop (k + a)) with
       | inl e=>rw [h7] at h6; exact h6
       | inr xj =>
         obtain ⟨xs,j⟩:=xj;rw [h7] at h6;have h6':loop body (st (acc++[x]) (k + a))=some (fin (acc++[x]++xs) (k + a + j)):=h6;show loop body _=some (fin (acc++x :: xs) (k + (a + j)));rw [h6'];simp [W2]
 have:=gen n [] k0 (by simp) (by simp) hk0;simpa using this
end
theorem lg (l:List UInt8) (k:Nat) (h:k<=l.length):subL l (k:Int) ((l.length:Nat):Int)=some (l.drop k):=by
 rw [sB (by omega) (by omega) (by omega)]; simp
theorem la (s:List UInt8) (x:Int) (m:Nat) (h:bw s = .inr (x,m)):1<=m:=(cL h).2.2.2.1
theorem jz {α β:Type} {p:Ps α} {q:α->Ps β} (hp:∀ s x m,p s = .inr (x,m)->1<=m) (s:List UInt8) (y:β) (k:Nat) (h:pb p q s = .inr (y,k)):1<=k:=by
 obtain ⟨x,m,j,h1,h2,rfl⟩:=bF h;have:=hp _ _ _ h1; omega
end
abbrev St:=Int×Bool
def shp (xa xb:List St):Bool:=decide (xa.map (·.2)=xb.map (·.2))
theorem vl (xa xb:List St) {body:Int->Option (Int⊕(Unit⊕Bool))} (hl:xa.length=xb.length) (hb:∀ (k:Nat) (h:k < xa.length),body (k:Int)=some (if xa[k].2=(xb[k]'(by omega)).2 then .inl ((k + 1:Nat):Int) else .inr (.inr false))) (he:body (xa.length:Int)=some (.inr (.inl ()))) :
   loop body 0=some (if shp xa xb then .inl () else .inr false):=by
 have:=q9 (body:=body) (xa.map (·.2)) (xb.map (·.2)) (.inr false) (.inl ()) (by simp [hl]) (fun k h=>by simpa using hb k (by simpa using h)) (by simpa using he);rw [this]; unfold shp;by_cases h:xa.map (·.2)=xb.map (·.2) <;> simp [h]
theorem sy {xa xb:List St} (h:¬ xa.length=xb.length):shp xa xb=false:=by
 unfold shp; simp only [decide_eq_false_iff_not];intro e; exact h (by simpa using congrArg M1 e)
theorem lh {xa xb:List St} (h:shp xa xb=true):xa.length=xb.length:=by
 unfold shp at h; simpa using congrArg M1 (of_decide_eq_true h)
theorem gU (xa xb:List St):shp xa xb=shp xb xa:=by unfold shp; simp only [eq_comm]
theorem sX (xa:List St) (n:Int):gz xa n=some (decide ((xa.length:Int)<=n)):=rfl
theorem kN (xa xb:List St) (hn:xa.length<=1073741824):fa xa xb=some (shp xa xb):=by
 unfold fa;by_cases hl:xa.length=xb.length
 . rw [ic hl,cond_false,vl xa xb hl ?_ ?_]
   . cases shp xa xb <;> rfl
   . intro k h; unfold qu;have h2:k < xb.length:=by omega
     by_cases q:xa[k].2=xb[k].2 <;> simp [ah h,ah h2,h,q,ak h (by omega),xR]
   . simp [qu]
 . rw [pp hl,cond_true,sy hl]
theorem gE (xa xb:List St) (hn:xa.length<=1073741824):dz xa xb=some (shp xa xb):=by
 unfold dz ma;by_cases hl:xa.length=xb.length
 . rw [ic hl,cond_false,vl xa xb hl ?_ ?_]
   . cases shp xa xb <;> rfl
   . intro k h; unfold pT qB;have h2:k < xb.length:=by omega
     by_cases q:xa[k].2=xb[k].2 <;> simp [ah h,ah h2,h,q,ak h (by omega),xR]
   . simp [pT]
 . rw [pp hl,cond_true,sy hl]; rfl
theorem BP (xa:List St) (n:Int) (m:Bool) (hn:xa.length<=1000000000):nD xa n m=some ((n,false) :: xa.map fun x=>(x.1,x.2||m)):=by
 unfold nD;have:=xr xa (fun x:St=>(x.1,x.2||m)) [(n,false)] (by simp; omega) (body:=uQ xa m) (fun c i=>rfl);rw [this]; rfl
theorem B5 (xa:List St) (n:Int) (m:Bool) (hn:xa.length<=1000000000):qP xa n m=some ((n,false) :: xa.map fun x=>(x.1,x.2||m)):=by
 unfold qP;have:=xr xa (fun x:St=>(x.1,x.2||m)) [(n,false)] (by simp; omega) (body:=qz xa m) (fun c i=>by
   unfold qz;cases hg:aa xa i with
   | none=>simp [hg]
   | some x=>cases h2:x.2 <;> simp [hg,h2])
 rw [this]; rfl
theorem vG {α:Type} (xa:List α) (t:α->Bool):(∃ k,xa.findIdx? t=some k/\xa.any t=true)\/(xa.findIdx? t=none/\xa.any t=false):=by
 cases h:xa.findIdx? t with
 | none =>
   refine .inr ⟨rfl,?_⟩;rw [V3]; intro x hx; have:=T1.1 h x hx; simp [this]
 | some k =>
   obtain ⟨hk,h1,_⟩:=S1.1 h;exact .inl ⟨k,rfl,L6.2 ⟨_,S0 hk,h1⟩⟩
def rin (n:Int) (xa:List St):Bool:=xa.any fun x=>decide (x.1 < 0)||decide (n<=x.1)
def rck (n:Int) (xa:List St):Int:=if 16 < xa.length then 6 else if rin n xa then 7 else 0
def sbs (xb:List Int) (x:St):St:=(xb.getD x.1.toNat 0,x.2)
theorem Cd {n:Int} {xa:List St} (h:rin n xa=false) {k:Nat} {x:St} (hx:xa[k]? = some x):0<=x.1/\x.1 < n:=by
 unfold rin at h;have:=V3.1 h x (K8 hx);simp at this; omega
theorem n6 {xb:List Int} {i:Int} (h:0<=i) (h2:i < (xb.length:Nat)):aa xb i=some (xb.getD i.toNat 0):=by
 unfold aa; rw [if_pos h];have:i.toNat < xb.length:=by omega
 simp [this]
theorem uX (xa:List St) (n:Int) (hn:xa.length<=1073741824):kI xa n=some (!rin n xa):=by
 unfold kI pX pY;rw [bv (body:=mb xa n) xa (fun x=>decide (x.1 < 0)||decide (n<=x.1)) (fun k => .inr (k:Int)) (.inl ()) ?_ ?_]
 . rcases vG xa (fun x=>decide (x.1 < 0)||decide (n<=x.1)) with ⟨k,h1,h2⟩ | ⟨h1,h2⟩
   . rw [h1]; unfold rin; simp [h2]
   . rw [h1]; unfold rin; simp [h2]
 . intro k hk;unfold mb qp;simp only [dlt hk,cond_true,ah hk,M0,ak hk (by omega:xa.length<=9223372036854775807)];cases (decide (xa[k].1 < 0)||decide (n<=xa[k].1)) <;> rfl
 . simp [mb]
theorem nw (xa:List St) (n:Int) (hn:xa.length<=1073741824):dA xa n=some (rck n xa):=by
 unfold dA rck;rw [uX xa n hn];by_cases h:16 < xa.length
 . rw [decide_eq_true (by omega),if_pos h]; rfl
 . rw [decide_eq_false (by omega),if_neg h,cond_false];cases rin n xa <;> rfl
theorem nv (xa:List St) (n:Int):iI xa n=some (rck n xa):=by
 unfold iI rck;by_cases h:16 < xa.length
 . rw [decide_eq_true (by omega),if_pos h]; rfl
 . rw [decide_eq_false (by omega),if_neg h,cond_false];rw [gI (body:=mP xa n) xa (fun x=>decide (x.1 < 0)||decide (n<=x.1)) (.inr 7) (.inl ()) ?_ ?_]
   . unfold rin; cases (xa.any fun x=>decide (x.1 < 0)||decide (n<=x.1)) <;> rfl
   . intro k hk;unfold mP;by_cases q:xa[k].1 < 0 <;> by_cases q2:n<=xa[k].1 <;> simp [hk,ah hk,ak hk (by omega:xa.length<=9223372036854775807),q,q2]
   . simp [mP]
theorem AW (xa:List St) (hn:xa.length<=1073741824):ni xa=some xa:=by
 unfold ni qd;rw [Ev]
 . rw [ar (by simpa using hn)]; simp
 . rintro rfl; rw [ar (by simp)]; rfl
theorem vp (xa:List St) (xb:List Int) (hn:xa.length<=1073741824):kL xa xb=some (if rin xb.length xa then ([],7) else (xa.map (sbs xb),0)):=by
 unfold kL;rw [uX xa _ hn,M0,AW xa hn];cases h:rin xb.length xa with
 | true=>simp
 | false =>
   simp only [Q6,Y0,cond_false,M0,N2,if_false];have hl:=bq (body:=kw xb xa) (fun k:Nat=>((xa.take k).map (sbs xb)++xa.drop k,(k:Int))) xa.length (b:=xa.map (sbs xb)) ?_ ?_
   . simp only [N6,Y5,M4,X2] at hl;have hl':loop (kw xb xa) (xa,0)=some (xa.map (sbs xb)):=hl;rw [hl']; rfl
   . intro k hk;have hg:aa ((xa.take k).map (sbs xb)++xa.drop k) (k:Int)=some xa[k]:=by
       rw [ah (by simp; omega)];rw [List.getElem_append_right (by simp; omega)];simp [by0,T4 (Nat.le_of_lt hk)]
     have hr:=Cd h (k:=k) (x:=xa[k]) (by simp [hk]);unfold kw;dsimp only;rw [hg];simp only [M0,n6 hr.1 hr.2,X8.2 hk,decide_true,cond_true,ak hk (by omega:xa.length<=9223372036854775807),O1]
     congr 3
     rw [Y3 hk,N8 hk,ab0 _ _ (by simp; omega)];rw [Z7,Z0,T4 (Nat.le_of_lt hk),V8,List.set_cons_zero,Z2,O0];rfl
   . simp [kw]
theorem qZ (xa:List St) (xb:List Int) (hn:xa.length<=1073741824):m6 xa xb=some (if rin xb.length xa then ([],7) else (xa.map (sbs xb),0)):=by
 unfold m6;have hl:=gM (body:=kh xa xb)
   (fun k=>∃ x,xa[k]? = some x/\(x.1 < 0\/(xb.length:Int)<=x.1)) (fun k:Nat=>((xa.take k).map (sbs xb),(k:Int))) xa.length (fun _ => .inr ([],7)) (.inl (xa.map (sbs xb))) ?_ ?_ ?_
 . simp only [N6,Y5] at hl
   rcases hl with ⟨k,h1,⟨x,h2,h2'⟩,_,h3⟩ | ⟨h1,h3⟩
   . have:rin xb.length xa=true:=L6.2 ⟨x,K8 h2,by simpa using h2'⟩;rw [this]; erw [h3]; rfl
   . have:rin xb.length xa=false:=by
       cases hh:rin xb.length xa with
       | false=>rfl
       | true =>
         obtain ⟨x,h4,h5⟩:=L6.1 hh;obtain ⟨k,h6,rfl⟩:=W3 h4;exact absurd ⟨xa[k],by simp [h6],by simpa using h5⟩ (h1 k h6)
     rw [this]; erw [h3]; rfl
 . intro k hk hp;have hx:¬ (xa[k].1 < 0\/(xb.length:Int)<=xa[k].1):=fun h=>hp ⟨_,by simp [hk],h⟩
   have h1:((decide (xa[k].1 < 0))||(decide (((xb.length:Nat):Int)<=xa[k].1)))=false:=by simp; omega
   have ha:=ar (a:=(xa.take k).map (sbs xb)) (b:=[sbs xb xa[k]]) (by simp; omega);have h5:aa xb xa[k].1=some (xb.getD xa[k].1.toNat 0):=n6 (by omega) (by omega);unfold kh;dsimp only;simp only [M0,ah hk,h1,cond_false,h5,X8.2 hk,decide_true,cond_true,ak hk (by omega:xa.length<=9223372036854775807)];rw [show app ((xa.take k).map (sbs xb)) [(xb.getD xa[k].1.toNat 0,xa[k].2)]=_ from ha,Y3 hk,Z2];rfl
 . rintro k hk ⟨x,h1,h2⟩;have hx:xa[k]=x:=by rw [R0 hk] at h1; exact X3 h1
   have h1:((decide (xa[k].1 < 0))||(decide (((xb.length:Nat):Int)<=xa[k].1)))=true:=by rw [hx]; simpa using h2
   unfold kh;dsimp only;simp only [M0,ah hk,h1,cond_true,X8.2 hk,decide_true]
 . simp [kh]
section
open Go.RowKit Lb
abbrev Sgt:=Int×List (Int×Int)×List (List St)×List St
def pd:Ps St:=pC (fun n=>(n / 2,decide (n % 2=1))) bw
def bC:Ps (List St):=aK 16 pd
def ov:Ps (Int×Int):=pb bw fun a=>pb bw fun b=>aF (a,b)
def dJ (most:Int):Ps (List (Int×Int)):=aK most ov
def oB:Ps (List (List St)):=aK 16 bC
def b8:Ps Sgt:=pb bw fun n=>pb (dJ 16) fun B=>pb oB fun A=>pb bC fun R=>aF (n,B,A,R)
theorem Sane.slot:Sane pd:=Sane.num.map
theorem Sane.type:Sane bC:=Sane.slot.list 16
theorem Sane.bound:Sane ov:=Sane.num.pb fun _=>Sane.num.pb fun _=>Sane.ret _
theorem Sane.bounds (most:Int):Sane (dJ most):=Sane.bound.list most
theorem Sane.types:Sane oB:=Sane.type.list 16
theorem Sane.sig:Sane b8:=Sane.num.pb fun _=>(Sane.bounds 16).pb fun _=>Sane.types.pb fun _=>Sane.type.pb fun _=>Sane.ret _
theorem CV:∀ (s:List UInt8) (x:St) (m:Nat),pd s = .inr (x,m)->1<=m:=fun s x m h=>jz (p:=bw) (q:=fun n=>aF (n / 2,decide (n % 2=1))) la s x m h
theorem BM:∀ (s:List UInt8) (x:Int×Int) (m:Nat),ov s = .inr (x,m)->1<=m:=fun s x m h=>jz la s x m h
theorem rT {α:Type} {p:Ps α} {most:Int}:∀ (s:List UInt8) (x:List α) (m:Nat),aK most p s = .inr (x,m)->1<=m:=fun s x m h=>jz (jz la) s x m h
theorem rL:∀ (s:List UInt8) (x:List St) (m:Nat),bC s = .inr (x,m)->1<=m:=fun s x m h=>rT s x m h
theorem GF {n:Int} (h0:0<=n) (h1:n<=4294967295):(IntKind.wrap .i64 (ag0 n 2),decide ((ar0 n 2)=1))=(n / 2,decide (n % 2=1)):=by
 rw [M9 h0,aG0 h0,w64 (by omega) (by omega)]
theorem jy (s:List UInt8) (k:Nat) (h:k<=s.length) (hl:s.length<=1073741824):Goes (cX s (k:Int)) (fun n j=>(n,(0:Int),((k + j:Nat):Int))) (fun e g=>g.2.1=e) (bw (s.drop k)):=by
 unfold cX;rw [lg s k h,M0,gH _ (by simp; omega),M0];cases hs:bw (s.drop k) with
 | inl e=>obtain ⟨h1,_⟩:=dG hs; rw [h1]; exact ⟨_,rfl,rfl⟩
 | inr x =>
   obtain ⟨n,m⟩:=x;obtain ⟨h1,_,_,_,h2,_⟩:=cL hs;rw [U0] at h2;rw [h1];show some _=some _;rw [w64 (by omega) (by omega)]; rfl
theorem sC (most:Int) (s:List UInt8) (k:Nat) (h:k<=s.length) (hl:s.length<=1073741824):Goes (iq most s (k:Int)) (fun n j=>(n,(0:Int),((k + j:Nat):Int))) (fun e g=>g.2.1=e) (dn most (s.drop k)):=by
 unfold iq;refine Goes.bind (jy s k h hl) (fun n j hs=>?_) (fun e g hs hg=>?_)
 . dsimp only;by_cases q:most < n
   . rw [if_pos q]; simp only [decide_true,q,M7,cond_true]; exact ⟨_,rfl,rfl⟩
   . rw [if_neg q]; simp [q,Goes,aF]
 . obtain ⟨a,b,c⟩:=g;obtain rfl:b=e:=hg;have:=(dG hs).2;refine ⟨(a,b,c),?_,rfl⟩;simp [this]
theorem sL (s:List UInt8) (k:Nat) (h:k<=s.length) (hl:s.length<=1073741824):Goes (eX s (k:Int)) (fun l j=>(l,(0:Int),((k + j:Nat):Int))) (fun e g=>g.2.1=e/\g.1.length<=1000000) (bC (s.drop k)):=by
 unfold eX;refine Goes.bind (sC 16 s k h hl) (fun n j hs=>?_) (fun e g hs hg=>?_)
 . obtain ⟨h1,h2⟩:=kT hs;obtain ⟨_,n0,n1,_,m1,_⟩:=cL h1;rw [U0] at m1;rw [K4];have hl:=rG Sane.slot CV s (body:=eW s n) n.toNat (fun acc k=>((0:Int),((acc.length:Nat):Int),(k:Int),acc)) (fun acc k=>((0:Int),(k:Int),acc)) (fun e r=>r.1=e/\r.2.2.length<=1000000) ?_ ?_ (k0:=k + j) (by omega)
   . refine Goes.map hl (fun l i hl'=>?_) (fun e g hl' hg=>⟨_,rfl,hg⟩);simp [W2]
   . intro acc k' a1 a2 a3;have hn:=jy s k' a3 hl;have hb:∀ g:Int×Int×Int,cX s (k':Int)=some g->eW s n ((0:Int),((acc.length:Nat):Int),(k':Int),acc)=some (.inl (g.2.1,((acc.length + 1:Nat):Int),g.2.2,acc++[(IntKind.wrap .i64 (ag0 g.1 2),decide ((ar0 g.1 2)=1))])):=by
       intro g hg;unfold eW;dsimp only;rw [decide_eq_true (by omega),show decide ((0:Int)=0)=true from rfl,M7,cond_true,hg,M0];rw [ar (by simp; omega),M0,w64 (by omega) (by omega)];rfl
     refine ⟨fun x m hx=>?_,fun e he=>?_⟩
     . obtain ⟨n',m',j',b1,b2,rfl⟩:=bF (p:=bw) (q:=fun n=>aF (n / 2,decide (n % 2=1))) hx;cases b2;rw [b1] at hn;rw [hb _ hn];obtain ⟨_,c0,c1,_⟩:=cL b1;rw [GF c0 c1];simp
     . rcases fA (p:=bw) (q:=fun n=>aF (n / 2,decide (n % 2=1))) he with he | ⟨_,_,_,he⟩
       . rw [he] at hn;obtain ⟨g,g1,g2⟩:=hn;obtain rfl:g.2.1=e:=g2;refine ⟨(g.2.1,g.2.2,acc++[(IntKind.wrap .i64 (ag0 g.1 2),decide ((ar0 g.1 2)=1))]),⟨rfl,by simp; omega⟩,.inr ⟨_,hb g g1,?_⟩⟩;have:=(dG he).2;unfold eW;simp [this]
       . cases he
   . intro acc k' a1 a2;unfold eW;dsimp only;rw [decide_eq_false (by omega)];rfl
 . obtain ⟨a,b,c⟩:=g;obtain rfl:b=e:=hg;have:=(Sane.count 16).err _ _ hs;have hl:=b9 (body:=eW s a) (s:=(b,0,c,[])) (b:=(b,c,[])) (by unfold eW; simp [this]);dsimp only;rw [hl];exact ⟨_,rfl,rfl,by simp⟩
theorem we (most:Int) (s:List UInt8) (k:Nat) (h:k<=s.length) (hl:s.length<=1000000):Goes (ip most s (k:Int)) (fun l j=>(l,(0:Int),((k + j:Nat):Int))) (fun e g=>g.2.1=e) (dJ most (s.drop k)):=by
 unfold ip;refine Goes.bind (sC most s k h (by omega)) (fun n j hs=>?_) (fun e g hs hg=>?_)
 . obtain ⟨h1,h2⟩:=kT hs;obtain ⟨_,n0,n1,_,m1,_⟩:=cL h1;rw [U0] at m1;rw [K4];have hl':=rG Sane.bound BM s (body:=d5 s n) n.toNat (fun acc k=>(acc,(0:Int),((acc.length:Nat):Int),(k:Int))) (fun acc k=>(acc,(0:Int),(k:Int))) (fun e r=>r.2.1=e) ?_ ?_ (k0:=k + j) (by omega)
   . refine Goes.map hl' (fun l i hl'=>?_) (fun e g hl' hg=>⟨_,rfl,hg⟩);simp [W2]
   . intro acc k' a1 a2 a3;have hn:=jy s k' a3 (by omega);have hb:∀ g g':Int×Int×Int,cX s (k':Int)=some g->g'=(0,g.2.1,g.2.2)/\g.2.1≠0\/g.2.1=0/\cX s g.2.2=some g'->d5 s n (acc,(0:Int),((acc.length:Nat):Int),(k':Int))=some (.inl (acc++[(g.1,g'.1)],g'.2.1,((acc.length + 1:Nat):Int),g'.2.2)):=by
       intro g g' hg hg';unfold d5;dsimp only;rw [decide_eq_true (by omega),show decide ((0:Int)=0)=true from rfl,M7,cond_true,hg,M0]
       rcases hg' with ⟨rfl,h0⟩ | ⟨h0,h1⟩
       . rw [decide_eq_false h0,cond_false,M0];rw [ar (by simp; omega),M0,w64 (by omega) (by omega)];rfl
       . rw [decide_eq_true h0,cond_true,h1,M0,M0];rw [ar (by simp; omega),M0,w64 (by omega) (by omega)];rfl
     have hbad:∀ g:Int×Int×Int,g.2.1≠0->∀ l c,d5 s n (l,g.2.1,c,g.2.2)=some (.inr (l,g.2.1,g.2.2)):=by
       intro g hg l c;unfold d5;simp [hg]
     refine ⟨fun x m hx=>?_,fun e he=>?_⟩
     . obtain ⟨n',m',j',b1,b2,rfl⟩:=bF hx;obtain ⟨n2,m2,j2,b3,b4,rfl⟩:=bF b2;cases b4;have c1:=(cL b1).2.2.2.2.1;rw [U0] at c1;rw [b1] at hn;have hn2:=jy s (k' + m') (by omega) (by omega);rw [K4] at b3;rw [b3] at hn2;rw [hb _ _ hn (.inr ⟨rfl,hn2⟩)];simp [W2]
     . rcases fA he with he | ⟨n',m',b1,he⟩
       . rw [he] at hn;obtain ⟨g,g1,g2⟩:=hn;obtain rfl:g.2.1=e:=g2;have:=(dG he).2;exact ⟨_,rfl,.inr ⟨_,hb g _ g1 (.inl ⟨rfl,this⟩),hbad (0,g.2.1,g.2.2) this _ _⟩⟩
       . rcases fA he with he | ⟨_,_,_,he⟩
         . have c1:=(cL b1).2.2.2.2.1;rw [U0] at c1;rw [b1] at hn;have hn2:=jy s (k' + m') (by omega) (by omega);rw [K4] at he;rw [he] at hn2;obtain ⟨g,g1,g2⟩:=hn2;obtain rfl:g.2.1=e:=g2;have:=(dG he).2;exact ⟨_,rfl,.inr ⟨_,hb _ g hn (.inr ⟨rfl,g1⟩),hbad g this _ _⟩⟩
         . cases he
   . intro acc k' a1 a2;unfold d5;dsimp only;rw [decide_eq_false (by omega)];rfl
 . obtain ⟨a,b,c⟩:=g;obtain rfl:b=e:=hg;have:=(Sane.count most).err _ _ hs;have hl:=b9 (body:=d5 s a) (s:=([],b,0,c)) (b:=([],b,c)) (by unfold d5; simp [this]);dsimp only;rw [hl];exact ⟨_,rfl,rfl⟩
theorem Db (s:List UInt8) (k:Nat) (h:k<=s.length) (hl:s.length<=1000000):Goes (mC s (k:Int)) (fun l j=>(l,(0:Int),((k + j:Nat):Int))) (fun e g=>g.2.1=e) (oB (s.drop k)):=by
 unfold mC;refine Goes.bind (sC 16 s k h (by omega)) (fun n j hs=>?_) (fun e g hs hg=>?_)
 . obtain ⟨h1,h2⟩:=kT hs;obtain ⟨_,n0,n1,_,m1,_⟩:=cL h1;rw [U0] at m1;rw [K4];have hl':=rG Sane.type rL s (body:=eV s n) n.toNat (fun acc k=>(acc,(0:Int),((acc.length:Nat):Int),(k:Int))) (fun acc k=>(acc,(0:Int),(k:Int))) (fun e r=>r.2.1=e) ?_ ?_ (k0:=k + j) (by omega)
   . refine Goes.map hl' (fun l i hl'=>?_) (fun e g hl' hg=>⟨_,rfl,hg⟩);simp [W2]
   . intro acc k' a1 a2 a3;have hn:=sL s k' a3 (by omega);have hb:∀ g:List St×Int×Int,eX s (k':Int)=some g->eV s n (acc,(0:Int),((acc.length:Nat):Int),(k':Int))=some (.inl (acc++[g.1],g.2.1,((acc.length + 1:Nat):Int),g.2.2)):=by
       intro g hg;unfold eV;dsimp only;rw [decide_eq_true (by omega),show decide ((0:Int)=0)=true from rfl,M7,cond_true,hg,M0];rw [ar (by simp; omega),M0,w64 (by omega) (by omega)];rfl
     refine ⟨fun x m hx=>?_,fun e he=>?_⟩
     . rw [hx] at hn;rw [hb _ hn];simp
     . rw [he] at hn;obtain ⟨g,g1,g2,_⟩:=hn;obtain rfl:g.2.1=e:=g2;have:=Sane.type.err _ _ he;refine ⟨(acc++[g.1],g.2.1,g.2.2),rfl,.inr ⟨_,hb g g1,?_⟩⟩;unfold eV;simp [this]
   . intro acc k' a1 a2;unfold eV;dsimp only;rw [decide_eq_false (by omega)];rfl
 . obtain ⟨a,b,c⟩:=g;obtain rfl:b=e:=hg;have:=(Sane.count 16).err _ _ hs;have hl:=b9 (body:=eV s a) (s:=([],b,0,c)) (b:=([],b,c)) (by unfold eV; simp [this]);dsimp only;rw [hl];exact ⟨_,rfl,rfl⟩
def uf (r:Int⊕(List St×Nat)):List St×Int×Int:=match r with | .inr (t,m)=>(t,(m:Int),0) | .inl e=>([],0,e)
def uy (r:Int⊕(List (Int×Int)×Nat)):List (Int×Int)×Int×Int:=match r with | .inr (t,m)=>(t,(m:Int),0) | .inl e=>([],0,e)
def JF (r:Int⊕(Sgt×Nat)):Int×List (Int×Int)×List (List St)×List St×Int×Int:=match r with | .inr (g,m)=>(g.1,g.2.1,g.2.2.1,g.2.2.2,(m:Int),0) | .inl e=>(0,[],[],[],0,e)
theorem uM (s:List UInt8) (hl:s.length<=1000000):ku s=some (uf (bC s)):=by
 unfold ku;have h:=sL s 0 (by omega) (by omega);rw [X2] at h;cases hs:bC s with
 | inl e =>
   rw [hs] at h;obtain ⟨⟨a,b,c⟩,g1,g2,_⟩:=h;obtain rfl:b=e:=g2;have:=Sane.type.err _ _ hs;rw [show ((0:Nat):Int)=0 from rfl] at g1;rw [g1]; simp [uf,this]
 | inr x =>
   obtain ⟨x,m⟩:=x;rw [hs] at h;have h':eX s 0=some (x,0,((0 + m:Nat):Int)):=h;rw [h']; simp [uf]
theorem uI (s:List UInt8) (most:Int) (hl:s.length<=1000000):mM s most=some (uy (dJ most s)):=by
 unfold mM;have h:=we most s 0 (by omega) (by omega);rw [X2] at h;cases hs:dJ most s with
 | inl e =>
   rw [hs] at h;obtain ⟨⟨a,b,c⟩,g1,g2⟩:=h;obtain rfl:b=e:=g2;have:=(Sane.bounds most).err _ _ hs;rw [show ((0:Nat):Int)=0 from rfl] at g1;rw [g1]; simp [uy,this]
 | inr x =>
   obtain ⟨x,m⟩:=x;rw [hs] at h;have h':ip most s 0=some (x,0,((0 + m:Nat):Int)):=h;rw [h']; simp [uy]
theorem vr (s:List UInt8) (hl:s.length<=1000000):iS s=some (JF (b8 s)):=by
 have key:Goes (iS s) (fun (g:Sgt) j=>(g.1,g.2.1,g.2.2.1,g.2.2.2,(j:Int),(0:Int))) (fun e g=>g=(0,[],[],[],0,e)) (b8 s):=by
   unfold iS qh qi qk qm;have h1:=jy s 0 (by omega) (by omega);rw [X2] at h1;rw [S9];refine Goes.bind h1 (fun n j hs=>?_) (fun e g hs hg=>?_)
   . simp only [M0,decide_true,Y0,cond_false,O2];have e1:=Sane.num.len _ _ _ hs;rw [S9];refine Goes.bind (we 16 s j (by omega) hl) (fun B j2 hs2=>?_) (fun e g hs2 hg=>?_)
     . simp only [M0,decide_true,Y0,cond_false];have e2:=(Sane.bounds 16).len _ _ _ hs2;rw [U0] at e2;rw [S9,K4];refine Goes.bind (Db s (j + j2) (by omega) hl) (fun A j3 hs3=>?_) (fun e g hs3 hg=>?_)
       . simp only [M0,decide_true,Y0,cond_false];have e3:=Sane.types.len _ _ _ hs3;rw [U0] at e3;rw [S9,K4];refine Goes.bind (sL s (j + j2 + j3) (by omega) (by omega)) (fun R j4 hs4=>?_) (fun e g hs4 hg=>?_)
         . simp [Goes,aF,W2]
         . obtain ⟨a,b,c⟩:=g;obtain rfl:b=e:=hg.1;have:=Sane.type.err _ _ hs4;exact ⟨(0,[],[],[],0,b),by simp [this],rfl⟩
       . obtain ⟨a,b,c⟩:=g;obtain rfl:b=e:=hg;have:=Sane.types.err _ _ hs3;exact ⟨(0,[],[],[],0,b),by simp [this],rfl⟩
     . obtain ⟨a,b,c⟩:=g;obtain rfl:b=e:=hg;have:=(Sane.bounds 16).err _ _ hs2;exact ⟨(0,[],[],[],0,b),by simp [this],rfl⟩
   . obtain ⟨a,b,c⟩:=g;obtain rfl:b=e:=hg;have:=(dG hs).2;exact ⟨(0,[],[],[],0,b),by simp [this],rfl⟩
 cases hs:b8 s with
 | inl e=>rw [hs] at key; obtain ⟨g,g1,rfl⟩:=key; rw [g1]; rfl
 | inr x=>obtain ⟨x,m⟩:=x; rw [hs] at key; exact key
end
section
open Go.RowKit Lb
end
section
open Go.RowKit Lb
def jJ (x:St):Int:=2 * x.1 + (if x.2 then 1 else 0)
def oU (x:St):List UInt8:=put (jJ x)
def fC (l:List St):List UInt8:=put (l.length:Int)++l.flatMap oU
def jA (b:Int×Int):List UInt8:=put b.1++put b.2
def co (l:List (Int×Int)):List UInt8:=put (l.length:Int)++l.flatMap jA
def ta (l:List (List St)):List UInt8:=put (l.length:Int)++l.flatMap fC
def jW (g:Sgt):List UInt8:=put g.1++(co g.2.1++(ta g.2.2.1++fC g.2.2.2))
abbrev okN (n:Int):Prop:=0<=n/\n<=4294967295
def pI (x:St):Prop:=0<=x.1/\x.1<=2147483647
def okT (l:List St):Prop:=(l.length:Int)<=16/\∀ x∈l,pI x
def okB (most:Int) (l:List (Int×Int)):Prop:=(l.length:Int)<=most/\∀ b∈l,okN b.1/\okN b.2
def zM (l:List (List St)):Prop:=(l.length:Int)<=16/\∀ x∈l,okT x
def okS (g:Sgt):Prop:=okN g.1/\okB 16 g.2.1/\zM g.2.2.1/\okT g.2.2.2
theorem Cod.slot:Cod pd oU pI:=by
 have h:=Cod.map (fun n=>((n / 2,decide (n % 2=1)):St)) jJ Cod.num (fun n hn=>by
   unfold jJ;by_cases q:n % 2=1
   . simp [q]; omega
   . simp [q]; omega)
 refine h.imp (fun x=>?_) (fun x _=>rfl);obtain ⟨r,i⟩:=x;unfold jJ pI;cases i with
 | true=>simp; omega
 | false=>simp; omega
theorem Cod.type:Cod bC fC okT:=Cod.list (by decide) Cod.slot
theorem Cod.bound:Cod ov jA (fun b=>okN b.1/\okN b.2):=Cod.pair (q:=fun _=>bw) (v:=fun _=>put) (ok':=fun _=>okN) Cod.num (fun _ _=>Cod.num)
theorem Cod.bounds {most:Int} (h:most<=4294967295):Cod (dJ most) co (okB most):=Cod.list h Cod.bound
theorem Cod.types:Cod oB ta zM:=Cod.list (by decide) Cod.type
theorem Cod.sig:Cod b8 jW okS:=by
 refine ⟨fun s g m h=>?_,fun g T ⟨h1,h2,h3,h4⟩=>?_⟩
 . obtain ⟨n,a,j,h1,h2,rfl⟩:=bF h;obtain ⟨B,b,j2,h3,h4,rfl⟩:=bF h2;obtain ⟨A,c,j3,h5,h6,rfl⟩:=bF h4;obtain ⟨R,d,j4,h7,h8,rfl⟩:=bF h6;cases h8;obtain ⟨o1,t1⟩:=Cod.num.back _ _ _ h1;obtain ⟨o2,t2⟩:=(Cod.bounds (by decide)).back _ _ _ h3;obtain ⟨o3,t3⟩:=Cod.types.back _ _ _ h5;obtain ⟨o4,t4⟩:=Cod.type.back _ _ _ h7;refine ⟨⟨o1,o2,o3,o4⟩,?_⟩;rw [Z3,K7,t1,K7,t2,K7,t3,t4]; rfl
 . obtain ⟨n,B,A,R⟩:=g;dsimp only at *;unfold jW b8;simp only [O0];rw [bG (Cod.num.to n _ h1),P5,bG ((Cod.bounds (by decide)).to B _ h2),P5,bG (Cod.types.to A _ h3),P5,bG (Cod.type.to R _ h4)];simp [aF,eQ]
theorem cC {α:Type} (w:α->List UInt8) (c:Nat):∀ (l:List α),(∀ x∈l,(w x).length<=c)->(l.flatMap w).length<=l.length * c
 | [],_=>by simp
 | x :: l,h=>by
   have h1:=h x (by simp);have h2:=cC w c l (fun y hy=>h y (by simp [hy]));rw [O3,P0,X1,N4]; omega
theorem np (l:List (Int×Int)):(co l).length<=5 + l.length * 10:=by
 have h1:=aR (l.length:Int);have h2:=cC jA 10 l (fun x _=>by have:=aR x.1; have:=aR x.2; unfold jA; rw [P0]; omega);unfold co; rw [P0]; omega
theorem EV {α β:Type} (f:α->β) (w:β->List UInt8) (l:List α):(l.map f).flatMap w=l.flatMap (fun x=>w (f x)):=by
 induction l with
 | nil=>rfl
 | cons x l ih=>simp [ih]
theorem DO {x:St} (h:pI x):(cond x.2 (some (IntKind.wrap .i64 ((IntKind.wrap .i64 (2 * x.1)) + 1))) (some (IntKind.wrap .i64 (2 * x.1))):Option Int)=some (jJ x):=by
 obtain ⟨r,i⟩:=x;obtain ⟨h0,h1⟩:=h;dsimp only at *;rw [w64 (x:=2 * r) (by omega) (by omega),w64 (by omega) (by omega)];cases i <;> simp [jJ]
theorem cQ (a b:List UInt8) (h:a.length + b.length<=1000000):wrS a b=some (a++b):=ar (by omega)
theorem ew (n:Int):cK n=some (put n):=by
 unfold cK; rw [gL _ (by simp)]; simp
theorem sH:∀ l:List (Int×Int),(l.flatMap (fun b=>[b.1,b.2])).length=2 * l.length
 | []=>rfl
 | x :: l=>by have:=sH l; simp only [O3,P0,X1,M3]; omega
theorem xI:∀ l:List (Int×Int),(l.flatMap (fun b=>[b.1,b.2])).flatMap put=l.flatMap jA
 | []=>rfl
 | x :: l=>by have:=xI l; simp only [O3,N3,this]; simp [jA]
theorem uK (l:List (Int×Int)) (hl:l.length<=1000):km l=some (co l):=by
 unfold km;have hloop:=bq (body:=ke l) (fun k:Nat=>([(l.length:Int)]++(l.take k).flatMap (fun b=>[b.1,b.2]),(k:Int))) l.length (b:=[(l.length:Int)]++l.flatMap (fun b=>[b.1,b.2])) ?_ ?_
 . have:loop (ke l) ([(l.length:Int)],0)=some ([(l.length:Int)]++l.flatMap (fun b=>[b.1,b.2])):=by simpa using hloop
   have h2:=sH l;rw [this,M0,gL _ (by rw [P0,h2]; simp; omega)];have h3:=xI l;simp only [M0,N3,h3];simp [co]
 . intro k hk;have h2:((l.take k).flatMap (fun b=>[b.1,b.2])).length<=2 * l.length:=by
     rw [sH]; simp; omega
   unfold ke;dsimp only;rw [dlt hk,cond_true,ah hk,M0,ar (by rw [P0]; simp only [X1,M3]; omega),M0,ak hk (by omega)];rw [bz hk,N3];simp
 . unfold ke;simp
end
abbrev Nd:=Int×Int×Int×Int×Bool
def jT (kind f:Int) (x y:St):List Nd:=(x.1,y.1,kind,f,false) :: if y.2 then [(y.1,x.1,kind,f,true)] else []
def rel (kind f:Int):List St->List St->List Nd
 | x :: xs,y :: ys=>jT kind f x y++rel kind (f + 1) xs ys
 | _,_=>[]
theorem xi (kind:Int) (x y:St):∀ (xs ys:List St) (f:Int),xs.length=ys.length->rel kind f (xs++[x]) (ys++[y])=rel kind f xs ys++jT kind (f + xs.length) x y
 | [],[],f,_=>by simp [rel]
 | [],_ :: _,f,h=>by simp at h
 | _ :: _,[],f,h=>by simp at h
 | a :: xs,b :: ys,f,h=>by
   simp only [L4,rel,xi kind x y xs ys (f + 1) (by simpa using h),O0,X1];rw [show f + 1 + (xs.length:Int)=f + ((xs.length + 1:Nat):Int) by omega]
theorem cB (kind:Int) (xs ys:List St) (f:Int):(rel kind f xs ys).length<=2 * xs.length:=by
 induction xs generalizing ys f with
 | nil=>simp [rel]
 | cons a xs ih=>cases ys with
   | nil=>simp [rel]
   | cons b ys =>
     have:=ih ys (f + 1);cases hb:b.2 <;> simp [rel,jT,hb] <;> omega
theorem iW (xa xb:List St) (kind f:Int) (hl:xa.length=xb.length) (hn:xa.length<=30) (hf : -9223372036854775808<=f) (hf2:f<=1099511627776) (c:List Nd) (hc:c.length<=10) :
   iv xa xb kind f c=some (c++rel kind f xa xb):=by
 unfold iv;have h:=kV (body:=mE xa xb kind f) xa (fun k=>c++rel kind f (xa.take k) (xb.take k)) (c++rel kind f xa xb) ?_ ?_
 . simp only [N6,rel,P1] at h;rw [h]; rfl
 . intro k h;have h2:k < xb.length:=by omega
   have hlen:=cB kind (xa.take k) (xb.take k) f;simp only [Z0] at hlen;have hw:IntKind.wrap .i64 (f + (k:Int))=f + k:=w64 (by omega) (by omega);unfold mE;rw [bz h,bz h2,xi _ _ _ _ _ _ (by simp; omega)];have e:(xa.take k).length=k:=by simp; omega
   rw [e];cases hb:xb[k].2 with
   | true =>
     simp [ah h,ah h2,h,hb,ak h (by omega),hw,jT];rw [ar (by simp; omega)];simp;rw [ar (by simp; omega)];simp
   | false =>
     simp [ah h,ah h2,h,hb,ak h (by omega),hw,jT];rw [ar (by simp; omega)];simp
 . have e:xb.take xa.length=xb:=by rw [hl,T7]
   simp [mE,e]
theorem qN (xa xb:List St) (kind f:Int):kj xa xb kind f=iv xa xb kind f []:=rfl
theorem nC (xa xb:List St) (kind f:Int) (hn:xa.length<=30) (hf : -9223372036854775808<=f) (hf2:f<=1099511627776):gm xa xb kind f=some (if shp xa xb then (rel kind f xa xb,0) else ([],8)):=by
 unfold gm;rw [gE _ _ (by omega),M0];cases hs:shp xa xb with
 | false=>rfl
 | true=>rw [Y0,cond_false,qN,iW xa xb kind f (lh hs) hn hf hf2 [] (by simp)]; simp
theorem fg (xa xb:List St) (kind f:Int) (hn:xa.length<=30) (hf : -9223372036854775808<=f) (hf2:f<=1099511627776):iO xa xb kind f=some (if shp xa xb then (rel kind f xa xb,0) else ([],8)):=by
 unfold iO;rw [kN _ _ (by omega),M0];cases hs:shp xa xb with
 | false=>rfl
 | true=>rw [Y0,cond_false,iW xa xb kind f (lh hs) hn hf hf2 [] (by simp)]; simp
def lo (n:Int) (m:Bool) (xa xb:List St):List Nd×Int :=
 if shp ((n,false) :: xa.map fun x=>(x.1,x.2||m)) xb then ((n,(xb.head?.getD (0,false)).1,2,0,false) :: rel 1 1 xa (xb.drop 1),0) else ([],8)
theorem sS {n:Int} {m:Bool} {xa xb:List St} (h:shp ((n,false) :: xa.map fun x=>(x.1,x.2||m)) xb=true):xb.length=xa.length + 1:=by
 have:=lh h; simp at this; omega
theorem Bh (xa xb:List St) (n:Int) (m:Bool) (hn:xa.length<=30):m7 xa xb n m=some (lo n m xa xb):=by
 unfold m7 lo;rw [BP _ _ _ (by omega),M0,gU];by_cases hb:xb.length<=1000
 . rw [gE _ _ (by omega),M0];cases hs:shp xb ((n,false) :: xa.map fun x=>(x.1,x.2||m)) with
   | false=>rfl
   | true =>
     have hl:=sS (by rw [gU]; exact hs);cases xb with
     | nil=>simp at hl
     | cons y ys =>
       have hl2:xa.length=ys.length:=by simpa using hl.symm
       rw [Y0,cond_false,show aa (y :: ys) 0=some y from rfl,M0,ib (by simp),M0,qN,iW _ _ _ _ (by simpa using hl2) hn (by omega) (by omega) _ (by simp)];have:=cB 1 xa ys 1;simp only [M4,M0,U6,X2];rw [ar (by simp; omega)];simp
 . have hs:shp xb ((n,false) :: xa.map fun x=>(x.1,x.2||m))=false:=sy (by simp; omega);unfold dz ma;rw [pp (by simp; omega),cond_true,hs]; rfl
theorem vJ (xa xb:List St) (n:Int) (m:Bool) (hn:xa.length<=30):qI xa xb n m=some (lo n m xa xb):=by
 unfold qI lo;rw [B5 _ _ _ (by omega),M0,kN _ _ (by simp; omega),M0];cases hs:shp ((n,false) :: xa.map fun x=>(x.1,x.2||m)) xb with
 | false=>rfl
 | true =>
   have hl:=sS hs;cases xb with
   | nil=>simp at hl
   | cons y ys =>
     have hl2:xa.length=ys.length:=by simpa using hl.symm
     rw [Y0,cond_false,show aa (y :: ys) 0=some y from rfl,M0,ib (by simp),M0,iW _ _ _ _ (by simpa using hl2) hn (by omega) (by omega) _ (by simp)];simp
def ag (n:Int) (m:Bool) (xa xb:List St):List Nd×Int :=
 match xa,xb with
 | x :: xs,y :: ys=>if x.2||!shp (x :: xs) (y :: ys)||(m&&xs.any (fun z=>!z.2)) then ([],8) else ((x.1,n,3,0,false) :: (n,y.1,2,0,false) :: rel 1 1 xs ys,0)
 | _,_=>([],8)
theorem E3 (xa xb:List St) (m:Bool) (hn:xa.length<=30):mD xa xb m=some (match xa with | []=>false | x :: xs=>!(x.2||!shp xa xb||(m&&xs.any (fun z=>!z.2)))):=by
 unfold mD;cases xa with
 | nil=>rfl
 | cons x xs =>
   have e0:decide ((((x :: xs).length:Nat):Int)=0)=false:=by simp; omega
   rw [e0,cond_false,show aa (x :: xs) 0=some x from rfl,M0,M0];cases hx:x.2 with
   | true=>simp [hx]
   | false =>
     rw [cond_false,gE _ _ (by omega),M0,M0];cases hs:shp (x :: xs) xb with
     | false=>simp
     | true =>
       rw [Y0,cond_false,ib (by simp),M0];unfold pV pW;rw [bv (List.drop 1 (x :: xs)) (fun z:St=>!z.2) (fun k => .inr (k:Int)) (.inl ()) ?_ ?_]
       . simp only [U6,X2];cases h:xs.findIdx? (fun z:St=>!z.2) with
         | none =>
           have:xs.any (fun z:St=>!z.2)=false:=by
             rw [V3]; intro z hz; have:=T1.1 h z hz; simpa using this
           simp [this,hx]
         | some k =>
           obtain ⟨hk,h1,_⟩:=S1.1 h;have:xs.any (fun z:St=>!z.2)=true:=L6.2 ⟨_,S0 hk,h1⟩;simp [this,hx]
       . intro k h;unfold pU qn;simp only [U6,X2] at h ⊢;have hn':xs.length<=30:=by simp at hn; omega
         cases hz:xs[k].2 <;> simp [ah h,h,ak h (by omega),hz]
       . simp [pU]
theorem AU (xa xb:List St) (n:Int) (m:Bool) (hn:xa.length<=30):m5 xa xb n m=some (ag n m xa xb):=by
 unfold m5;rw [E3 _ _ _ hn,M0];cases xa with
 | nil=>rfl
 | cons x xs =>
   simp only [ag,bf0];by_cases hc:(x.2||!shp (x :: xs) xb||(m&&xs.any (fun z=>!z.2)))=true
   . rw [hc]; cases xb <;> simp_all
   . have hc':(x.2||!shp (x :: xs) xb||(m&&xs.any (fun z=>!z.2)))=false:=by simpa using hc
     have hs:shp (x :: xs) xb=true:=by
       cases q:shp (x :: xs) xb with
       | true=>rfl
       | false=>rw [q] at hc'; simp at hc'
     have hl:=lh hs;cases xb with
     | nil=>simp at hl
     | cons y ys =>
       simp only [hc',cond_false,if_false,show aa (x :: xs) 0=some x from rfl,show aa (y :: ys) 0=some y from rfl,M0,ib (show 1<=(x :: xs).length by simp),ib (show 1<=(y :: ys).length by simp),U6,X2,N2];have hl2:xs.length=ys.length:=by simpa using hl
       rw [qN,iW _ _ _ _ hl2 (by simp at hn; omega) (by omega) (by omega) _ (by simp),M0];have:=cB 1 xs ys 1;simp at hn;rw [ar (by simp; omega)];simp
theorem va (xa xb:List St) (n:Int) (m:Bool) (hn:xa.length<=30):qD xa xb n m=some (ag n m xa xb):=by
 unfold qD;cases xa with
 | nil=>rfl
 | cons x xs =>
   have e0:decide ((((x :: xs).length:Nat):Int)=0)=false:=by simp; omega
   rw [e0,cond_false,kN _ _ (by omega),M0,M0];cases hs:shp (x :: xs) xb with
   | false=>cases xb <;> simp [ag,hs]
   | true =>
     have hl:=lh hs;cases xb with
     | nil=>simp at hl
     | cons y ys =>
       have hl2:xs.length=ys.length:=by simpa using hl
       simp only [Y0,cond_false,show aa (x :: xs) 0=some x from rfl,show aa (y :: ys) 0=some y from rfl,M0];cases hx:x.2 with
       | true=>simp [ag,hx]
       | false =>
         have hn':xs.length<=29:=by simp at hn; omega
         have hloop:loop (iy (x :: xs) m) 1=some (if (m&&xs.any (fun z=>!z.2)) then .inr ([],8) else .inl ()):=by
           have:=Dp (body:=iy (x :: xs) m) (fun k=>(m&&(xs[k]?.any (fun z=>!z.2)))=true) (fun k=>((k + 1:Nat):Int)) xs.length (.inr ([],8)) (.inl ()) ?_ ?_ ?_
           . rw [show ((1:Int))=((0 + 1:Nat):Int) from rfl,this]
             congr 1
             by_cases hq:(m&&xs.any (fun z=>!z.2))=true
             . rw [if_pos hq,if_pos];simp only [Q0] at hq;obtain ⟨z,hz,hz2⟩:=L6.1 hq.2;obtain ⟨k,hk,rfl⟩:=W3 hz;exact ⟨k,hk,by simp [hq.1,hk]; simpa using hz2⟩
             . rw [if_neg hq,if_neg];rintro ⟨k,hk,hk2⟩;apply hq;simp [hk] at hk2;rw [hk2.1,L7];exact L6.2 ⟨_,S0 hk,by simpa using hk2.2⟩
           . intro k hk hp;have h2:k + 1 < (x :: xs).length:=by simp; omega
             simp [hk] at hp;unfold iy;rw [dlt h2,cond_true,ak h2 (by simp; omega)];cases m with
             | false=>simp
             | true=>simp [zb h2,hp rfl]
           . intro k hk hp;have h2:k + 1 < (x :: xs).length:=by simp; omega
             simp [hk] at hp;unfold iy;rw [dlt h2,cond_true];simp [zb h2,hp.1,hp.2]
           . simp [iy]
         rw [hloop];by_cases hq:(m&&xs.any (fun z=>!z.2))=true
         . simp [ag,hx,hs,hq]
         . have hq':(m&&xs.any (fun z=>!z.2))=false:=by simpa using hq
           rw [hq'];simp only [cond_false,M0,if_false,ib (show 1<=(x :: xs).length by simp),ib (show 1<=(y :: ys).length by simp),U6,X2,N2];rw [iW _ _ _ _ hl2 (by omega) (by omega) (by omega) _ (by simp)];simp [ag,hx,hs,hq']
theorem CP (n:Int) (m:Bool) (xa xb:List St) (h:xa.length<=30):(lo n m xa xb).1.length<=100:=by
 unfold lo;have:=cB 1 xa (xb.drop 1) 1;simp at this;split <;> simp; omega
theorem CM (n:Int) (m:Bool) (xa xb:List St) (h:xa.length<=30):(ag n m xa xb).1.length<=100:=by
 unfold ag;split
 . rename_i x xs y ys;have:=cB 1 xs ys 1;simp at h;split <;> simp; omega
 . simp
end
end Go.Proofs.YtcocmnheohgndaaGreat
