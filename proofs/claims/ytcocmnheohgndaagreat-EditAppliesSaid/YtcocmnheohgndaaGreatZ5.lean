/- A part of the proof: what lies ahead of the law. Nothing is claimed here. -/
import Derived.Test.YtcocmnheohgndaaGreatZ4
import Derived.Test.YtcocmnheohgndaaGreatRows
open BitVec renaming ofInt → T3
open Bool renaming and_self → S7, beq_eq_decide_eq → O6, false_eq_true → N2, not_false → V6, not_true → X0
open Int renaming ediv_nonneg → ca0, eq_ofNat_of_zero_le → Y0, fdiv → bd0, fdiv_eq_ediv_of_nonneg → aQ0, le_of_lt → ap0, ofNat_lt → S9, pow_pos → bz0, pow_succ → bo0, tdiv → aq0, tdiv_eq_ediv_of_nonneg → X9, tmod → aB0, tmod_eq_emod_of_nonneg → aP0, toNat → Z6, toNat_natCast → O1, toNat_of_nonneg → by0
open List renaming any_eq_false → W3, any_eq_true → R6, append_assoc → O0, cons_append → N4, drop_drop → M4, drop_eq_getElem_cons → Y8, drop_left → S5, drop_zero → X2, ext_getElem? → bL0, findIdx?_eq_none_iff → U1, findIdx?_eq_some_iff_getElem → R1, flatMap_append → N3, flatMap_cons → P3, flatMap_nil → Q5, foldl_append → aE0, getD → S1, getElem?_eq_getElem → R0, getElem?_eq_none → R3, getElem?_eq_some_iff → T1, getElem_cons_zero → O9, getElem_drop → bJ0, getElem_mem → U0, getElem_of_mem → X3, length → N1, length_append → P0, length_cons → V1, length_drop → T0, length_eq_zero_iff → V0, length_map → U8, length_singleton → bn0, length_take → Z0, map_append → Y2, map_nil → N6, mem_cons → T2, mem_of_getElem? → V8, mem_range → W8, nil_append → O4, range → U3, range_eq_range' → ar0, set_append_right → am0, singleton_append → al0, take_add → Q7, take_left → aR0, take_succ_cons → av0, take_succ_eq_append_getElem → Y3, take_zero → S6
open Nat renaming add_assoc → V2, add_zero → Z3, min_eq_left → U4, sub_self → Z9, zero_add → O2
open Option renaming bind_assoc → af0, bind_some → M0, isSome_iff_exists → ae0
open Option.some renaming inj → P4
open Prod.mk renaming injEq → Y5
open Sum.inr renaming injEq → ax0
open UInt8 renaming ofNat → aJ0, toNat_inj → aI0
namespace Go.Proofs.YtcocmnheohgndaaGreat
noncomputable section
set_option linter.unusedVariables false
set_option maxRecDepth 100000
set_option maxHeartbeats 4000000
section
open Go.RowKit _root_.Go.Proofs.Tryz
abbrev bkO (i:Nat) (o:OT):Bk:=⟨some i,0,[],false,false,some o,false⟩
abbrev bkC (i:Nat) (e:TypeId) (ks:List Kd):Bk:=⟨some i,e,ks,false,false,none,false⟩
abbrev bkN (e:TypeId) (ks:List Kd):Bk:=⟨none,e,ks,false,false,none,false⟩
abbrev bkU (i:Nat):Bk:=⟨some i,0,[],false,true,none,false⟩
abbrev bkM:Bk:=⟨none,0,[],false,true,none,false⟩
abbrev kdI (i:Nat):Nat×Kd:=(i,.dat (.int .i64))
abbrev kdB (i:Nat):Nat×Kd:=(i,.dat .bool)
abbrev Yq1:Tp:=(.cons (.int .i64) (.cons (.int .i64) (.cons (.sl (.cons (.int .i64) (.one (.int .i64)))) (.cons (.sl (.one (.sl (.cons (.int .i64) (.one .bool))))) (.cons (.one (.sl (.cons (.int .i64) (.one .bool)))) (.cons (.sl (.cons (.int .i64) (.cons (.sl (.cons (.int .i64) (.one (.int .i64)))) (.cons (.sl (.one (.sl (.cons (.int .i64) (.one .bool))))) (.one (.one (.sl (.cons (.int .i64) (.one .bool))))))))) (.one (.sl (.cons (.sl (.cons (.int .i64) (.cons (.int .i64) (.cons (.int .i64) (.cons (.int .i64) (.one .bool)))))) (.one (.cons (.int .i64) (.cons (.int .i64) (.cons (.int .i64) (.cons (.sl (.int .i64)) (.cons (.sl (.int .i64)) (.one (.sl (.int .i64))))))))))))))))))
abbrev Tq1:Type:=(Int×Int×(List (Int×Int))×(List (List (Int×Bool)))×(List (Int×Bool))×(List (Int×(List (Int×Int))×(List (List (Int×Bool)))×(List (Int×Bool))))×(List ((List (Int×Int×Int×Int×Bool))×(Int×Int×Int×(List Int)×(List Int)×(List Int)))))
abbrev Yq2:Tp:=(.int .i64)
abbrev Tq2:Type:=((List (Int×Int×Int×Int×Bool))×(Int×Int×Int×(List Int)×(List Int)×(List Int)))
abbrev Yq3:Tp:=(.cons Yq2 (.one .bool))
abbrev Tq3:Type:=(List (Int×Bool))
abbrev Tq4:Type:=(Int×Int×Int×Int×Bool)
abbrev Yq4:Tp:=(.cons Yq2 (.cons (.sl (.cons Yq2 (.one Yq2))) (.cons (.sl (.one (.sl Yq3))) (.one (.one (.sl Yq3))))))
abbrev Yq5:Tp:=(.cons Yq2 (.cons Yq2 (.cons Yq2 (.cons (.sl Yq2) (.cons (.sl Yq2) (.one (.sl Yq2)))))))
abbrev Tq5:Type:=(Int×(List (Int×Int))×(List Tq3)×Tq3)
abbrev Yq6:Tp:=(.cons Yq2 (.cons Yq2 (.cons Yq2 Yq3)))
abbrev Tq6:Type:=(Int×Int×Int×Int)
abbrev Yq7:Tp:=(.cons Yq2 (.one Yq2))
abbrev Yq8:Tp:=(.one (.sl Yq3))
abbrev Tq7:Type:=(List (Int×Int))
abbrev Tq8:Type:=(Int×Int×Int×(List Int)×(List Int)×(List Int))
abbrev Tq9:Type:=((List Tq4)×Int)
abbrev lZ:Type:=(Int×Int×Int×Tq7×(List Tq3)×Tq3×(List Tq5)×(List Tq2))
abbrev pZ:Type:=(Int×Int×Int×Int×Tq7×(List Tq3)×Tq3×(List Tq5)×(List Tq2))
abbrev Yq9:Tp:=(.sl (.cons (.sl Yq6) (.one Yq5)))
abbrev b9:Type:=(Int×List UInt8)
abbrev cg:Tp:=(.cons Yq2 (.cons Yq2 Yq7))
abbrev me:Type:=((Int×Int×Tq7×(List Tq3)×Tq3×(List Tq5)×(List Tq2)×Int))
abbrev aT:Type:=(List UInt8)
abbrev jS:Type:=(Int×Int×(List Tq3)×Tq3×(List Tq5))
abbrev pX:Tp:=(.cons Yq2 (.cons Yq2 (.cons (.sl Yq8) (.cons Yq8 (.one (.sl Yq4))))))
instance nob:BldA:=⟨100,Bld,fun h=>Bld.fresh h,fun _=>True,fun _ _=>trivial⟩
def rh:OkSpec Tryz.prog:=⟨rf,A3 (fun _ _=>rfl),call88⟩
def aY:OkSpec Tryz.prog:=⟨qX,AL (fun _ _=>rfl),call51⟩
def gY:OkSpec Tryz.prog:=⟨rD,BD (fun _ _=>rfl),call58⟩

def gQ (xa:Tq3) (xb:Int):Option Bool :=
 some (decide ((xa.length:Int)<=xb))
def hQ0:Hn Tryz.prog := .nil
def sQ0:Spec:=⟨16,⟨[(0,.dat Yq8),kdI 1],[]⟩,[⟨[kdB 0],[]⟩],fun x=>gQ x.1 x.2⟩
def oQ0:OkSpec Tryz.prog:=⟨sQ0,ae func16 hQ0 (by kernel_rfl) (by kernel_rfl),call16⟩
def uV (xa:Tq5):Int->Option (Int⊕(Unit⊕Bool)):=fun i1=>cond (decide (i1 < (xa.2.2.1.length:Int))) ((aa xa.2.2.1 i1).bind fun x2=>(gQ x2 20).bind fun t3=>cond (!t3) (some (.inr ((.inr (false))))) (some (.inl (IntKind.wrap .i64 (i1 + 1))))) (some (.inr ((.inl ()))))
def fj (xa:Tq5):Option Bool :=
 (cond ((decide (20 < (xa.2.1.length:Int)))||(decide (20 < (xa.2.2.1.length:Int)))) (some (true)) ((gQ xa.2.2.2 20).bind fun t1=>some (!t1))).bind fun t2=>cond (t2) (some (false)) ((loop (uV xa) 0).bind fun o=>match o with | .inr r=>some r | .inl ()=>some (true))
def hQ1:Hn Tryz.prog := .gp 4 (.wt 14 (.gj 4 ⟨[kdB 19],[]⟩ [] (.two 14 .nil (.cl oQ0 [] .nil)) (.tw 19 .nil (.jx [] ⟨[],[]⟩ [] (.lp ⟨[kdI 3],[]⟩ (.tw 24 (.cl oQ0 [] (.tw 33 .nil .nil)) .nil)) .nil))))
def sQ1:Spec:=⟨17,⟨[(0,.dat Yq4)],[]⟩,[⟨[kdB 0],[]⟩],fun x=>fj x⟩
def oQ1:OkSpec Tryz.prog:=⟨sQ1,ae func17 hQ1 (by kernel_rfl) (by kernel_rfl),call17⟩
def uS (xa:Tq1):Int->Option (Int⊕(Unit⊕Bool)):=fun i1=>cond (decide (i1 < (xa.2.2.2.1.length:Int))) ((aa xa.2.2.2.1 i1).bind fun x2=>(gQ x2 20).bind fun t3=>cond (!t3) (some (.inr ((.inr (false))))) (some (.inl (IntKind.wrap .i64 (i1 + 1))))) (some (.inr ((.inl ()))))
def iK (xa:Tq1):Int->Option (Int⊕(Unit⊕Bool)):=fun i1=>cond (decide (i1 < (xa.2.2.2.2.2.1.length:Int))) ((aa xa.2.2.2.2.2.1 i1).bind fun x2=>(fj (x2.1,x2.2.1,x2.2.2.1,x2.2.2.2)).bind fun t3=>cond (!t3) (some (.inr ((.inr (false))))) (some (.inl (IntKind.wrap .i64 (i1 + 1))))) (some (.inr ((.inl ()))))
def gg (xa:Tq1):(Int×Int)->Option ((Int×Int)⊕(Int⊕Bool)):=fun (i1,i2)=>cond (decide (i2 < (xa.2.2.2.2.2.2.length:Int))) ((aa xa.2.2.2.2.2.2 i2).bind fun x3=>(aa xa.2.2.2.2.2.2 i2).bind fun x4=>cond (((decide (20 < (x3.2.2.2.2.1.length:Int)))||(decide (20 < (x3.2.2.2.2.2.1.length:Int))))||(decide (20 < (x3.2.2.2.2.2.2.length:Int)))) (some (.inr ((.inr (false))))) (some (.inl ((IntKind.wrap .i64 (i1 + (x4.1.length:Int)),IntKind.wrap .i64 (i2 + 1)))))) (some (.inr (.inl i1)))
def gF (xa:Tq1):Option Bool :=
 (cond ((((decide (20 < (xa.2.2.1.length:Int)))||(decide (10 < (xa.2.2.2.1.length:Int))))||(decide (4 < (xa.2.2.2.2.2.1.length:Int))))||(decide (8 < (xa.2.2.2.2.2.2.length:Int)))) (some (true)) ((gQ xa.2.2.2.2.1 20).bind fun t1=>some (!t1))).bind fun t2=>cond (t2) (some (false)) ((loop (uS xa) 0).bind fun o=>match o with | .inr r=>some r | .inl ()=>(loop (iK xa) 0).bind fun o=>match o with | .inr r=>some r | .inl ()=>(loop (gg xa) (0,0)).bind fun o=>match o with | .inr r=>some r | .inl i3=>some (decide (i3<=24)))
def hQ2:Hn Tryz.prog := .gp 4 (.wt 18 (.gp 4 (.wt 24 (.gp 4 (.wt 30 (.gj 4 ⟨[kdB 35],[]⟩ [] (.two 30 .nil (.cl oQ0 [] .nil)) (.tw 35 .nil (.jx [] ⟨[],[]⟩ [] (.lp ⟨[kdI 3],[]⟩ (.tw 40 (.cl oQ0 [] (.tw 49 .nil .nil)) .nil)) (.jx [] ⟨[],[]⟩ [] (.lp ⟨[kdI 4],[]⟩ (.tw 54 (.cl oQ1 [] (.tw 63 .nil .nil)) .nil)) (.jx [] ⟨[kdI 5],[]⟩ [] (.lp ⟨[kdI 5,kdI 6],[]⟩ (.tw 68 (.wt 90 (.gp 4 (.wt 96 (.gp 4 (.tw 101 .nil .nil))))) .nil)) .nil))))))))))
def sQ2:Spec:=⟨5,⟨[(0,.dat Yq1)],[]⟩,[⟨[kdB 0],[]⟩],fun x=>gF x⟩
def oQ2:OkSpec Tryz.prog:=⟨sQ2,ae func5 hQ2 (by kernel_rfl) (by kernel_rfl),call5⟩

def bc (xb:Int) (xc:Int):Option Unit :=
 some (())
def hQ3:Hn Tryz.prog := .nil
def sQ3:Spec:=⟨36,⟨[(0,.nilp),kdI 1,kdI 2],[]⟩,[⟨[],[]⟩],fun x=>bc x.1 x.2⟩
def oQ3:OkSpec Tryz.prog:=⟨sQ3,ae func36 hQ3 (by kernel_rfl) (by kernel_rfl),call36⟩

def gm (xa:Tq1):Option Tq6 :=
 cond ((decide (xa.1 < 1))||(decide (xa.2.1 < xa.1))) (some ((7,0,0,0))) (cond (decide (65536 < xa.2.1)) (some ((6,0,0,0))) (some ((0,0,0,0))))
def hQ4:Hn Tryz.prog := .gp 5 (.tw 7 .nil (.tw 19 .nil .nil))
def sQ4:Spec:=⟨37,⟨[(0,.dat Yq1),(1,.nilp)],[]⟩,[⟨[(0,.agg [.dat Yq2,.dat Yq2,.dat Yq2,.dat Yq2])],[]⟩],fun x=>gm x⟩
def oQ4:OkSpec Tryz.prog:=⟨sQ4,ae func37 hQ4 (by kernel_rfl) (by kernel_rfl),call37⟩

def kg (xa:Int) (qa0:Int) (qa1:Int) (qa2:Tq7) (qa3:(List Tq3)) (qa4:Tq3) (qa5:(List Tq5)) (qa6:(List Tq2)):Option Bool :=
 some ((decide (0<=xa))&&(decide (xa < qa0)))
def hQ5:Hn Tryz.prog := .gp 4 .nil
def sQ5:Spec:=⟨76,⟨[kdI 0,(1,.ptr 0 0)],[bkN 30 [.is 1 (.dat Yq2),.is 2 (.dat Yq2),.is 3 (.dat (.sl Yq7)),.is 4 (.dat (.sl Yq8)),.is 5 (.dat (.sl Yq3)),.is 6 (.dat (.sl Yq4)),.is 7 (.dat Yq9)],bkM,bkM,bkM,bkM,bkM,bkM,bkM]⟩,[⟨[kdB 0],[bkC 0 30 [.is 1 (.any),.is 2 (.any),.is 3 (.any),.is 4 (.any),.is 5 (.any),.is 6 (.any),.is 7 (.any)],bkU 1,bkU 2,bkU 3,bkU 4,bkU 5,bkU 6,bkU 7]⟩],fun x=>kg x.1 x.2.1 x.2.2.1 x.2.2.2.1 x.2.2.2.2.1 x.2.2.2.2.2.1 x.2.2.2.2.2.2.1 x.2.2.2.2.2.2.2⟩
def oQ5:OkSpec Tryz.prog:=⟨sQ5,ae func76 hQ5 (by kernel_rfl) (by kernel_rfl),call76⟩
def fY (xa:Tq1):Int->Option (Int⊕(Unit⊕Tq6)):=fun i1=>cond (decide (i1 < (xa.2.2.1.length:Int))) ((aa xa.2.2.1 i1).bind fun x2=>(bc 1 1).bind fun _=>(kg x2.1 xa.1 xa.2.1 xa.2.2.1 xa.2.2.2.1 xa.2.2.2.2.1 xa.2.2.2.2.2.1 xa.2.2.2.2.2.2).bind fun t3=>(cond (!t3) (some (true)) ((kg x2.2 xa.1 xa.2.1 xa.2.2.1 xa.2.2.2.1 xa.2.2.2.2.1 xa.2.2.2.2.2.1 xa.2.2.2.2.2.2).bind fun t4=>some (!t4))).bind fun t5=>cond (t5) (some (.inr ((.inr ((7,1,i1,0)))))) (some (.inl (IntKind.wrap .i64 (i1 + 1))))) (some (.inr ((.inl ()))))
def gf (xa:Tq1):Option Tq6 :=
 cond (decide (65536 < (xa.2.2.1.length:Int))) (some ((6,1,0,0))) ((loop (fY xa) 0).bind fun o=>match o with | .inr r=>some r | .inl ()=>some ((0,0,0,0)))
def hQ6:Hn Tryz.prog := .tw 11 .nil (.jx [] ⟨[],[bkC 2 68 [.lit (.int .i64 0),.lit (.int .i64 0),.lit (.int .i64 0),.lit (.int .i64 0)]]⟩ [2,0] (.mc 0 0 1 (.mc 0 1 1 (.mc 0 2 1 (.mc 0 3 1 (.mc 0 4 1 (.mc 0 5 1 (.mc 0 6 1 (.lp ⟨[kdI 17],[bkC 2 68 [.lit (.int .i64 0),.lit (.int .i64 0),.lit (.int .i64 0),.lit (.int .i64 0)],bkC 0 30 [.is 2 (.any),.is 3 (.any),.is 4 (.any),.is 5 (.any),.is 6 (.any),.is 7 (.any),.is 8 (.any)],bkU 4,bkU 5,bkU 6,bkU 7,bkU 8,bkU 9,bkU 10]⟩ (.tw 18 (.cl oQ3 [] (.cl oQ5 [] (.gj 5 ⟨[kdB 35],[bkC 0 30 [.is 1 (.any),.is 2 (.any),.is 3 (.any),.is 4 (.any),.is 5 (.any),.is 6 (.any),.is 7 (.any)],bkU 4,bkU 5,bkU 6,bkU 7,bkU 8,bkU 9,bkU 10]⟩ [0] (.two 29 .nil (.cl oQ5 [] .nil)) (.tw 35 .nil .nil)))) .nil))))))))) .nil)
def sQ6:Spec:=⟨38,⟨[(0,.dat Yq1),(1,.nilp)],[]⟩,[⟨[(0,.agg [.dat Yq2,.dat Yq2,.dat Yq2,.dat Yq2])],[]⟩],fun x=>gf x⟩
def oQ6:OkSpec Tryz.prog:=⟨sQ6,ae func38 hQ6 (by kernel_rfl) (by kernel_rfl),call38⟩

def qL (xa:(Int×Bool)) (qa0:Int):Option Bool :=
 some ((decide (xa.1 < 0))||(decide (qa0<=xa.1)))
def hQ7:Hn Tryz.prog := .gp 4 .nil
def sQ7:Spec:=⟨137,⟨[(0,.dat Yq3),(1,.ptr 0 0)],[bkN 3 [.is 1 (.dat Yq2)],bkM]⟩,[⟨[kdB 0],[bkC 0 3 [.is 1 (.any)],bkU 1]⟩],fun x=>qL x.1 x.2⟩
def oQ7:OkSpec Tryz.prog:=⟨sQ7,ae func137 hQ7 (by kernel_rfl) (by kernel_rfl),call137⟩
def mr (xa:Tq3) (qa0:Int):Int->Option (Int⊕(Unit⊕Int)):=fun i1=>cond (decide (i1 < (xa.length:Int))) ((aa xa i1).bind fun x2=>(qL (x2.1,x2.2) qa0).bind fun t3=>cond (t3) (some (.inr ((.inr (i1))))) (some (.inl (IntKind.wrap .i64 (i1 + 1))))) (some (.inr ((.inl ()))))
def qt (xa:Tq3) (qa0:Int):Option Int :=
 (loop (mr xa qa0) 0).bind fun o=>match o with | .inr r=>some r | .inl ()=>some ((-1))
def hQ8:Hn Tryz.prog := .jx [] ⟨[],[bkC 0 3 [.is 1 (.any)],bkU 1]⟩ [0] (.lp ⟨[kdI 8],[bkC 0 3 [.is 1 (.any)],bkU 1]⟩ (.tw 9 (.cl oQ7 [] (.tw 16 .nil .nil)) .nil)) .nil
def sQ8:Spec:=⟨150,⟨[(0,.dat (.sl Yq3)),(1,.fn 137 [.ptr 0 0])],[bkN 3 [.is 1 (.dat Yq2)],bkM]⟩,[⟨[kdI 0],[bkC 0 3 [.is 1 (.any)],bkU 1]⟩],fun x=>qt x.1 x.2⟩
def oQ8:OkSpec Tryz.prog:=⟨sQ8,ae func150 hQ8 (by kernel_rfl) (by kernel_rfl),call150⟩

def qr (xa:Tq3) (qa0:Int):Option Bool :=
 (qt xa qa0).bind fun i10=>some (decide (0<=i10))
def hQ9:Hn Tryz.prog := .cl oQ8 [] .nil
def sQ9:Spec:=⟨136,⟨[(0,.dat (.sl Yq3)),(1,.fn 137 [.ptr 0 0])],[bkN 3 [.is 1 (.dat Yq2)],bkM]⟩,[⟨[kdB 0],[bkC 0 3 [.is 1 (.any)],bkU 1]⟩],fun x=>qr x.1 x.2⟩
def oQ9:OkSpec Tryz.prog:=⟨sQ9,ae func136 hQ9 (by kernel_rfl) (by kernel_rfl),call136⟩

def kO (xa:Tq3) (xb:Int):Option Bool :=
 (qr xa xb).bind fun t14=>some (!t14)
def Jj:Hn Tryz.prog := .mc 2 0 3 (.cl oQ9 [] .nil)
def IV:Spec:=⟨111,⟨[(0,.dat Yq8),kdI 1],[]⟩,[⟨[kdB 0],[]⟩],fun x=>kO x.1 x.2⟩
def Ac:OkSpec Tryz.prog:=⟨IV,ae func111 Jj (by kernel_rfl) (by kernel_rfl),call111⟩

def dC (xa:Tq3) (xb:Int):Option Int :=
 cond (decide (16 < (xa.length:Int))) (some (6)) ((kO xa xb).bind fun t15=>cond (!t15) (some (7)) (some (0)))
def Lu:Hn Tryz.prog := .tw 8 .nil (.cl Ac [] (.tw 12 .nil .nil))
def J2:Spec:=⟨77,⟨[(0,.dat Yq8),kdI 1],[]⟩,[⟨[kdI 0],[]⟩],fun x=>dC x.1 x.2⟩
def p9:OkSpec Tryz.prog:=⟨J2,ae func77 Lu (by kernel_rfl) (by kernel_rfl),call77⟩
def fZ (xa:Tq1):Int->Option (Int⊕(Unit⊕Tq6)):=fun i1=>cond (decide (i1 < (xa.2.2.2.1.length:Int))) ((aa xa.2.2.2.1 i1).bind fun x2=>(bc 1 1).bind fun _=>(dC x2 xa.2.1).bind fun i3=>cond (!decide (i3=0)) (some (.inr ((.inr ((i3,2,i1,0)))))) (some (.inl (IntKind.wrap .i64 (i1 + 1))))) (some (.inr ((.inl ()))))
def ge (xa:Tq1):Option Tq6 :=
 cond (decide ((xa.2.2.2.1.length:Int)=0)) (some ((14,2,0,0))) (cond (decide (65536 < (xa.2.2.2.1.length:Int))) (some ((6,2,0,0))) ((loop (fZ xa) 0).bind fun o=>match o with | .inr r=>some r | .inl ()=>some ((0,0,0,0))))
def LO:Hn Tryz.prog := .tw 11 .nil (.tw 16 .nil (.jx [] ⟨[],[bkC 2 68 [.lit (.int .i64 0),.lit (.int .i64 0),.lit (.int .i64 0),.lit (.int .i64 0)]]⟩ [2] (.lp ⟨[kdI 21],[bkC 2 68 [.lit (.int .i64 0),.lit (.int .i64 0),.lit (.int .i64 0),.lit (.int .i64 0)]]⟩ (.tw 22 (.cl oQ3 [] (.cl p9 [] (.tw 33 .nil .nil))) .nil)) .nil))
def IL:Spec:=⟨39,⟨[(0,.dat Yq1),(1,.nilp)],[]⟩,[⟨[(0,.agg [.dat Yq2,.dat Yq2,.dat Yq2,.dat Yq2])],[]⟩],fun x=>ge x⟩
def Jy:OkSpec Tryz.prog:=⟨IL,ae func39 LO (by kernel_rfl) (by kernel_rfl),call39⟩

def qW (xa:(Int×Bool)) (xb:(Int×Bool)):Option Bool :=
 some (xa.2 == xb.2)
def Ig:Hn Tryz.prog := .nil
def JH:Spec:=⟨113,⟨[(0,.dat Yq3),(1,.dat Yq3)],[]⟩,[⟨[kdB 0],[]⟩],fun x=>qW x.1 x.2⟩
def JJ:OkSpec Tryz.prog:=⟨JH,ae func113 Ig (by kernel_rfl) (by kernel_rfl),call113⟩
def qm (xa:Tq3) (xb:Tq3):Int->Option (Int⊕(Unit⊕Bool)):=fun i1=>cond (decide (i1 < (xa.length:Int))) ((aa xa i1).bind fun x2=>(aa xb i1).bind fun x3=>(qW (x2.1,x2.2) (x3.1,x3.2)).bind fun t4=>cond (!t4) (some (.inr ((.inr (false))))) (some (.inl (IntKind.wrap .i64 (i1 + 1))))) (some (.inr ((.inl ()))))
def mq (xa:Tq3) (xb:Tq3):Option Bool :=
 cond (!decide ((xa.length:Int)=(xb.length:Int))) (some (false)) ((loop (qm xa xb) 0).bind fun o=>match o with | .inr r=>some r | .inl ()=>some (true))
def Jr:Hn Tryz.prog := .tw 14 .nil (.jx [] ⟨[],[]⟩ [] (.lp ⟨[kdI 17],[]⟩ (.tw 18 (.cl JJ [] (.tw 30 .nil .nil)) .nil)) .nil)
def Jf:Spec:=⟨112,⟨[(0,.dat (.sl Yq3)),(1,.dat (.sl Yq3)),(2,.fn 113 [])],[]⟩,[⟨[kdB 0],[]⟩],fun x=>mq x.1 x.2⟩
def JX:OkSpec Tryz.prog:=⟨Jf,ae func112 Jr (by kernel_rfl) (by kernel_rfl),call112⟩

def dB (xa:Tq3) (xb:Tq3):Option Bool :=
 (mq xa xb).bind fun t14=>some (t14)
def Jm:Hn Tryz.prog := .cl JX [] .nil
def Ij:Spec:=⟨78,⟨[(0,.dat Yq8),(1,.dat Yq8)],[]⟩,[⟨[kdB 0],[]⟩],fun x=>dB x.1 x.2⟩
def jW:OkSpec Tryz.prog:=⟨Ij,ae func78 Jm (by kernel_rfl) (by kernel_rfl),call78⟩

def ef (xa:Tq1):Option Tq6 :=
 (dC xa.2.2.2.2.1 xa.1).bind fun i81=>cond (decide (i81=0)) ((aa xa.2.2.2.1 0).bind fun x1=>(dB xa.2.2.2.2.1 x1).bind fun t2=>cond (!t2) (some ((8,3,0,0))) (some ((i81,3,0,0)))) (some ((i81,3,0,0)))
def KY:Hn Tryz.prog := .cl p9 [] (.mix [] [0,1,2,3,4,5,6,7,8,9] [10,11,12] [] (.two 15 (.cl jW [] (.tw 24 .nil .nil)) .nil))
def IQ:Spec:=⟨40,⟨[(0,.dat Yq1),(1,.nilp)],[]⟩,[⟨[(0,.agg [.dat Yq2,.dat Yq2,.dat Yq2,.dat Yq2])],[]⟩],fun x=>ef x⟩
def KX:OkSpec Tryz.prog:=⟨IQ,ae func40 KY (by kernel_rfl) (by kernel_rfl),call40⟩

def kl (xa:Int) (qa0:Int) (qa1:Tq7) (qa2:(List Tq3)) (qa3:Tq3):Option Bool :=
 some ((decide (0<=xa))&&(decide (xa < qa0)))
def Ir:Hn Tryz.prog := .gp 4 .nil
def LZ:Spec:=⟨114,⟨[kdI 0,(1,.ptr 0 0)],[bkN 55 [.is 1 (.dat Yq2),.is 2 (.dat (.sl Yq7)),.is 3 (.dat (.sl Yq8)),.is 4 (.dat (.sl Yq3))],bkM,bkM,bkM,bkM]⟩,[⟨[kdB 0],[bkC 0 55 [.is 1 (.any),.is 2 (.any),.is 3 (.any),.is 4 (.any)],bkU 1,bkU 2,bkU 3,bkU 4]⟩],fun x=>kl x.1 x.2.1 x.2.2.1 x.2.2.2.1 x.2.2.2.2⟩
def zT:OkSpec Tryz.prog:=⟨LZ,ae func114 Ir (by kernel_rfl) (by kernel_rfl),call114⟩
def gv (xa:Tq5):Int->Option (Int⊕(Unit⊕Int)):=fun i1=>cond (decide (i1 < (xa.2.1.length:Int))) ((aa xa.2.1 i1).bind fun x2=>(kl x2.1 xa.1 xa.2.1 xa.2.2.1 xa.2.2.2).bind fun t3=>(cond (!t3) (some (true)) ((kl x2.2 xa.1 xa.2.1 xa.2.2.1 xa.2.2.2).bind fun t4=>some (!t4))).bind fun t5=>cond (t5) (some (.inr ((.inr (7))))) (some (.inl (IntKind.wrap .i64 (i1 + 1))))) (some (.inr ((.inl ()))))
def gy (xa:Tq5):Int->Option (Int⊕(Unit⊕Int)):=fun i1=>cond (decide (i1 < (xa.2.2.1.length:Int))) ((aa xa.2.2.1 i1).bind fun x2=>(dC x2 xa.1).bind fun i3=>cond (!decide (i3=0)) (some (.inr ((.inr (i3))))) (some (.inl (IntKind.wrap .i64 (i1 + 1))))) (some (.inr ((.inl ()))))
def da (xa:Tq5):Option Int :=
 cond (decide (xa.1 < 0)) (some (7)) (cond (((decide (16 < xa.1))||(decide (16 < (xa.2.1.length:Int))))||(decide (16 < (xa.2.2.1.length:Int)))) (some (6)) ((loop (gv xa) 0).bind fun o=>match o with | .inr r=>some r | .inl ()=>(loop (gy xa) 0).bind fun o=>match o with | .inr r=>some r | .inl ()=>(dC xa.2.2.2 xa.1).bind fun i1=>some (i1)))
def Lx:Hn Tryz.prog := .tw 11 .nil (.wt 15 (.gp 4 (.wt 21 (.gp 4 (.tw 26 .nil (.jx [(0,0),(0,1),(0,2),(0,3)] ⟨[],[bkC 0 55 [.is 1 (.any),.is 2 (.any),.is 3 (.any),.is 4 (.any)],bkU 2,bkU 3,bkU 4,bkU 5]⟩ [0] (.lp ⟨[kdI 31],[bkC 0 55 [.is 1 (.any),.is 2 (.any),.is 3 (.any),.is 4 (.any)],bkU 2,bkU 3,bkU 4,bkU 5]⟩ (.tw 32 (.cl zT [] (.gj 5 ⟨[kdB 46],[bkC 0 55 [.is 1 (.any),.is 2 (.any),.is 3 (.any),.is 4 (.any)],bkU 2,bkU 3,bkU 4,bkU 5]⟩ [0] (.two 40 .nil (.cl zT [] .nil)) (.tw 46 .nil .nil))) .nil)) (.jx [] ⟨[],[]⟩ [] (.lp ⟨[kdI 51],[]⟩ (.tw 52 (.cl p9 [] (.tw 60 .nil .nil)) .nil)) (.cl p9 [] .nil))))))))
def JI:Spec:=⟨79,⟨[(0,.dat Yq4)],[]⟩,[⟨[kdI 0],[]⟩],fun x=>da x⟩
def Ae:OkSpec Tryz.prog:=⟨JI,ae func79 Lx (by kernel_rfl) (by kernel_rfl),call79⟩
def f9 (xa:Tq1):Int->Option (Int⊕(Unit⊕Tq6)):=fun i1=>cond (decide (i1 < (xa.2.2.2.2.2.1.length:Int))) ((aa xa.2.2.2.2.2.1 i1).bind fun x2=>(bc 1 1).bind fun _=>(da (x2.1,x2.2.1,x2.2.2.1,x2.2.2.2)).bind fun i3=>cond (!decide (i3=0)) (some (.inr ((.inr ((i3,4,i1,0)))))) (some (.inl (IntKind.wrap .i64 (i1 + 1))))) (some (.inr ((.inl ()))))
def gh (xa:Tq1):Option Tq6 :=
 cond (decide (65536 < (xa.2.2.2.2.2.1.length:Int))) (some ((6,4,0,0))) ((loop (f9 xa) 0).bind fun o=>match o with | .inr r=>some r | .inl ()=>some ((0,0,0,0)))
def IG:Hn Tryz.prog := .tw 11 .nil (.jx [] ⟨[],[bkC 2 68 [.lit (.int .i64 0),.lit (.int .i64 0),.lit (.int .i64 0),.lit (.int .i64 0)]]⟩ [2,0] (.lp ⟨[kdI 16],[bkC 2 68 [.lit (.int .i64 0),.lit (.int .i64 0),.lit (.int .i64 0),.lit (.int .i64 0)]]⟩ (.tw 17 (.cl oQ3 [] (.cl Ae [] (.tw 26 .nil .nil))) .nil)) .nil)
def J9:Spec:=⟨41,⟨[(0,.dat Yq1),(1,.nilp)],[]⟩,[⟨[(0,.agg [.dat Yq2,.dat Yq2,.dat Yq2,.dat Yq2])],[]⟩],fun x=>gh x⟩
def IC:OkSpec Tryz.prog:=⟨J9,ae func41 IG (by kernel_rfl) (by kernel_rfl),call41⟩
def iH (xa:Tq1):(Int×Int)->Option ((Int×Int)⊕(Unit⊕Tq6)):=fun (i1,i2)=>cond (decide (i2 < (xa.2.2.2.2.2.2.length:Int))) ((aa xa.2.2.2.2.2.2 i2).bind fun x3=>(bc 1 1).bind fun _=>cond (decide (65536 < (IntKind.wrap .i64 (i1 + (x3.1.length:Int))))) (some (.inr ((.inr ((6,5,i2,0)))))) (some (.inl ((IntKind.wrap .i64 (i1 + (x3.1.length:Int)),IntKind.wrap .i64 (i2 + 1)))))) (some (.inr ((.inl ()))))
def ga (xa:Tq1):Option Tq6 :=
 cond (decide ((xa.2.2.2.2.2.2.length:Int)=0)) (some ((14,5,0,0))) (cond (decide (65536 < (xa.2.2.2.2.2.2.length:Int))) (some ((6,5,0,0))) ((loop (iH xa) (0,0)).bind fun o=>match o with | .inr r=>some r | .inl ()=>some ((0,0,0,0))))
def Ix:Hn Tryz.prog := .tw 11 .nil (.tw 16 .nil (.jx [] ⟨[],[bkC 2 68 [.lit (.int .i64 0),.lit (.int .i64 0),.lit (.int .i64 0),.lit (.int .i64 0)]]⟩ [2,0] (.lp ⟨[kdI 5,kdI 21],[bkC 2 68 [.lit (.int .i64 0),.lit (.int .i64 0),.lit (.int .i64 0),.lit (.int .i64 0)]]⟩ (.tw 22 (.cl oQ3 [] (.tw 34 .nil .nil)) .nil)) .nil))
def Lk:Spec:=⟨42,⟨[(0,.dat Yq1),(1,.nilp)],[]⟩,[⟨[(0,.agg [.dat Yq2,.dat Yq2,.dat Yq2,.dat Yq2])],[]⟩],fun x=>ga x⟩
def KK:OkSpec Tryz.prog:=⟨Lk,ae func42 Ix (by kernel_rfl) (by kernel_rfl),call42⟩

def ky (xa:Int):Option (Bool×Bool×Bool×Bool) :=
 cond (decide (xa=0)) (some ((false,false,false,true))) (cond (decide (xa=1)) (some ((true,true,false,true))) ((cond (decide (xa=2)) (some (decide (xa=2))) (some (decide (xa=3))):Option Bool).bind fun t18=>cond (t18) (some ((true,true,true,true))) (cond (decide (xa=4)) (some ((false,true,false,true))) (cond (decide (xa=5)) (some ((true,false,false,true))) (some ((false,false,false,false)))))))
def J6:Hn Tryz.prog := .tw 5 .nil (.tw 8 .nil (.sq [] ⟨[kdB 11],[]⟩ [] (.tw 11 .nil .nil) (.tw 11 .nil (.tw 15 .nil (.tw 18 .nil .nil)))))
def IB:Spec:=⟨105,⟨[kdI 0],[]⟩,[⟨[(0,.tup [.agg [.dat .bool,.dat .bool,.dat .bool],.dat .bool])],[]⟩],fun x=>ky x⟩
def zU:OkSpec Tryz.prog:=⟨IB,ae func105 J6 (by kernel_rfl) (by kernel_rfl),call105⟩

def nO (xa:Tq4) (xb:(Bool×Bool×Bool)):Option Tq4 :=
 (cond (xb.1) (some (xa.2.1)) (some (0)):Option Int).bind fun i22=>(cond (xb.2.1) (some (xa.2.2.1)) (some (0)):Option Int).bind fun i25=>cond (xb.2.2) (some ((xa.1,i22,i25,xa.2.2.2.1,xa.2.2.2.2))) (some ((xa.1,i22,i25,0,false)))
def JW:Hn Tryz.prog := .pl (.pl (.sq [(6,0)] ⟨[],[bkC 6 63 [.is 1 (.any),.dat Yq2,.lit (.int .i64 0),.lit (.int .i64 0),.lit (.bool false)],bkU 9]⟩ [6] (.tw 10 .nil .nil) (.sq [(6,1)] ⟨[],[bkC 6 63 [.is 1 (.any),.is 2 (.any),.dat Yq2,.lit (.int .i64 0),.lit (.bool false)],bkU 9,bkU 11]⟩ [6] (.tw 15 .nil .nil) (.tw 20 (.mix [([0,1,2,3,4],5)] [6] [7] [6] .nil) .nil))))
def LV:Spec:=⟨147,⟨[(0,.dat Yq6),(1,.dat (.cons .bool (.cons .bool (.one .bool))))],[]⟩,[⟨[(0,.agg [.dat Yq2,.dat Yq2,.dat Yq2,.dat Yq2,.dat .bool])],[]⟩],fun x=>nO x.1 x.2⟩
def Lf:OkSpec Tryz.prog:=⟨LV,ae func147 JW (by kernel_rfl) (by kernel_rfl),call147⟩

def kQ (xa:Tq4):Option (Bool×Bool×Bool×Int) :=
 (ky xa.1).bind fun (t67,t68,t69,t70)=>cond (!t70) (some ((false,false,false,3))) ((nO (xa.1,xa.2.1,xa.2.2.1,xa.2.2.2.1,xa.2.2.2.2) (t67,t68,t69)).bind fun (i1,i2,i3,i4,t5)=>cond (!((decide (xa.1=i1))&&((decide (xa.2.1=i2))&&((decide (xa.2.2.1=i3))&&((decide (xa.2.2.2.1=i4))&&(xa.2.2.2.2 == t5)))))) (some ((false,false,false,3))) (some ((t67,t68,t69,0))))
def Lg:Hn Tryz.prog := .cl zU [] (.mix [([0,1,2,3,4,5],6)] [7,8] [] [] (.two 14 .nil (.cl Lf [] (.tw 20 .nil .nil))))
def KP:Spec:=⟨129,⟨[(0,.dat Yq6)],[]⟩,[⟨[(0,.tup [.agg [.dat .bool,.dat .bool,.dat .bool],.dat Yq2])],[]⟩],fun x=>kQ x⟩
def zQ:OkSpec Tryz.prog:=⟨KP,ae func129 Lg (by kernel_rfl) (by kernel_rfl),call129⟩

def mQ (xa:Int) (qa0:(List Tq3)):Option Bool :=
 some ((decide (0<=xa))&&(decide (xa < (qa0.length:Int))))
def KW:Hn Tryz.prog := .gp 4 .nil
def K5:Spec:=⟨138,⟨[kdI 0,(1,.ptr 0 0)],[bkN 23 [.is 1 (.dat (.sl Yq8))],bkM]⟩,[⟨[kdB 0],[bkC 0 23 [.is 1 (.any)],bkU 1]⟩],fun x=>mQ x.1 x.2⟩
def As:OkSpec Tryz.prog:=⟨K5,ae func138 KW (by kernel_rfl) (by kernel_rfl),call138⟩
def Av (xa:Tq3) (xb:Tq3) (xc:Int) (xd:Int):Tq9->Option (Tq9⊕(List Tq4)):=fun (l1,i2)=>cond (decide (i2 < (xa.length:Int))) ((aa xa i2).bind fun x3=>(aa xb i2).bind fun x4=>(app l1 (([(x3.1,x4.1,xc,IntKind.wrap .i64 (xd + i2),false)]:List Tq4))).bind fun z5=>(aa xb i2).bind fun x6=>cond (x6.2) ((aa xb i2).bind fun x7=>(aa xa i2).bind fun x8=>(app z5 (([(x7.1,x8.1,xc,IntKind.wrap .i64 (xd + i2),true)]:List Tq4))).bind fun z9=>some (.inl ((z9,IntKind.wrap .i64 (i2 + 1))))) (some (.inl ((z5,IntKind.wrap .i64 (i2 + 1)))))) (some (.inr (l1)))
def kr (xa:Tq3) (xb:Tq3) (xc:Int) (xd:Int):Option ((List Tq4)) :=
 (loop (Av xa xb xc xd) ([],0)).bind fun l1=>some (l1)
def Kw:Hn Tryz.prog := .jn [] ⟨[(9,.own 225 Yq6)],[]⟩ [] (.lp ⟨[(9,.own 225 Yq6),kdI 13],[]⟩ (.tw 14 (.mix [([0,1,2,3,4,5,6,7,8,9,10,11,12,13,14,15],16)] [] [17,18] [] (.tw 38 (.mix [([0,1,2,3,4,5,6,7,8,9,10,11,12,13,14,15],16)] [] [17,18] [] .nil) .nil)) .nil)) .nil
def Kq:Spec:=⟨151,⟨[(0,.dat (.sl Yq3)),(1,.dat (.sl Yq3)),kdI 2,kdI 3],[]⟩,[⟨[(0,.own 225 Yq6)],[]⟩],fun x=>kr x.1 x.2.1 x.2.2.1 x.2.2.2⟩
def uE:OkSpec Tryz.prog:=⟨Kq,ae func151 Kw (by kernel_rfl) (by kernel_rfl),call151⟩

def gD (xa:Tq3) (xb:Tq3) (xc:Int) (xd:Int):Option (Tq9) :=
 (dB xa xb).bind fun t30=>cond (!t30) (some (([],8))) ((kr xa xb xc xd).bind fun l38=>some ((l38,0)))
def Je:Hn Tryz.prog := .cl jW [] (.tw 13 .nil (.cl uE [] .nil))
def J1:Spec:=⟨139,⟨[(0,.dat Yq8),(1,.dat Yq8),kdI 2,kdI 3],[]⟩,[⟨[(0,.tup [.own 225 Yq6,.dat Yq2])],[]⟩],fun x=>gD x.1 x.2.1 x.2.2.1 x.2.2.2⟩
def pT:OkSpec Tryz.prog:=⟨J1,ae func139 Je (by kernel_rfl) (by kernel_rfl),call139⟩
def uZ (xa:Tq3) (xc:Bool):(Tq3×Int)->Option ((Tq3×Int)⊕Tq3):=fun (l1,i2)=>cond (decide (i2 < (xa.length:Int))) ((aa xa i2).bind fun x3=>(app l1 (([(x3.1,x3.2||xc)]:List (Int×Bool)))).bind fun z4=>some (.inl ((z4,IntKind.wrap .i64 (i2 + 1))))) (some (.inr (l1)))
def nU (xa:Tq3) (xb:Int) (xc:Bool):Option (Tq3) :=
 (loop (uZ xa xc) ((([(xb,false)]:List (Int×Bool)),0))).bind fun l1=>some (l1)
def LC:Hn Tryz.prog := .jn [] ⟨[(7,.own 95 Yq3),(12,.any)],[]⟩ [4,0] (.lp ⟨[(7,.own 95 Yq3),kdI 16],[]⟩ (.tw 17 (.wt 25 (.gp 1 .nil)) .nil)) .nil
def JU:Spec:=⟨152,⟨[(0,.dat Yq8),kdI 1,kdB 2],[]⟩,[⟨[(0,.agg [.own 95 Yq3])],[]⟩],fun x=>nU x.1 x.2.1 x.2.2⟩
def KA:OkSpec Tryz.prog:=⟨JU,ae func152 LC (by kernel_rfl) (by kernel_rfl),call152⟩

def nv (xa:Tq3) (xb:Tq3) (xc:Int) (xd:Bool):Option (Tq9) :=
 (nU xa xc xd).bind fun l1=>(dB xb l1).bind fun t2=>cond (!t2) (some (([],8))) ((aa xb 0).bind fun x3=>(subL xb 1 (xb.length:Int)).bind fun y4=>(kr xa y4 1 1).bind fun l5=>(app (([(xc,x3.1,2,0,false)]:List Tq4)) l5).bind fun z6=>some ((z6,0)))
def IF:Hn Tryz.prog := .mix [([0,1,2,3],4)] [] [5,6] [] (.cl KA [] (.cl jW [4] (.tw 17 .nil (.mix [([0,1,2,3,4,5],6)] [] [7,8,9] [] (.cl uE [] .nil)))))
def LM:Spec:=⟨140,⟨[(0,.dat Yq8),(1,.dat Yq8),kdI 2,kdB 3],[]⟩,[⟨[(0,.tup [.own 225 Yq6,.dat Yq2])],[]⟩],fun x=>nv x.1 x.2.1 x.2.2.1 x.2.2.2⟩
def Lq:OkSpec Tryz.prog:=⟨LM,ae func140 IF (by kernel_rfl) (by kernel_rfl),call140⟩

def qK (xa:(Int×Bool)):Option Bool :=
 some (!xa.2)
def LI:Hn Tryz.prog := .nil
def LY:Spec:=⟨158,⟨[(0,.dat Yq3)],[]⟩,[⟨[kdB 0],[]⟩],fun x=>qK x⟩
def It:OkSpec Tryz.prog:=⟨LY,ae func158 LI (by kernel_rfl) (by kernel_rfl),call158⟩
def qn (xa:Tq3):Int->Option (Int⊕(Unit⊕Int)):=fun i1=>cond (decide (i1 < (xa.length:Int))) ((aa xa i1).bind fun x2=>(qK (x2.1,x2.2)).bind fun t3=>cond (t3) (some (.inr ((.inr (i1))))) (some (.inl (IntKind.wrap .i64 (i1 + 1))))) (some (.inr ((.inl ()))))
def qq (xa:Tq3):Option Int :=
 (loop (qn xa) 0).bind fun o=>match o with | .inr r=>some r | .inl ()=>some ((-1))
def Jn:Hn Tryz.prog := .jx [] ⟨[],[]⟩ [] (.lp ⟨[kdI 8],[]⟩ (.tw 9 (.cl It [] (.tw 16 .nil .nil)) .nil)) .nil
def Jl:Spec:=⟨150,⟨[(0,.dat (.sl Yq3)),(1,.fn 158 [])],[]⟩,[⟨[kdI 0],[]⟩],fun x=>qq x⟩
def JY:OkSpec Tryz.prog:=⟨Jl,ae func150 Jn (by kernel_rfl) (by kernel_rfl),call150⟩

def qp (xa:Tq3):Option Bool :=
 (qq xa).bind fun i10=>some (decide (0<=i10))
def Md:Hn Tryz.prog := .cl JY [] .nil
def LX:Spec:=⟨136,⟨[(0,.dat (.sl Yq3)),(1,.fn 158 [])],[]⟩,[⟨[kdB 0],[]⟩],fun x=>qp x⟩
def KH:OkSpec Tryz.prog:=⟨LX,ae func136 Md (by kernel_rfl) (by kernel_rfl),call136⟩

def mO (xa:Tq3) (xb:Tq3) (xc:Bool):Option Bool :=
 (cond (decide ((xa.length:Int)=0)) (some (true)) ((aa xa 0).bind fun x70=>some (x70.2))).bind fun t68=>(cond (t68) (some (true)) ((dB xa xb).bind fun t90=>some (!t90))).bind fun t86=>cond (t86) (some (false)) ((subL xa 1 (xa.length:Int)).bind fun y95=>(qp y95).bind fun t1=>some ((!xc)||(!t1)))
def LN:Hn Tryz.prog := .gj 5 ⟨[kdB 18],[]⟩ [] (.two 12 .nil .nil) (.wt 19 (.gj 4 ⟨[kdB 24],[]⟩ [] (.two 19 .nil (.cl jW [] .nil)) (.tw 24 .nil (.cl KH [] (.gp 2 .nil)))))
def Io:Spec:=⟨153,⟨[(0,.dat Yq8),(1,.dat Yq8),kdB 2],[]⟩,[⟨[kdB 0],[]⟩],fun x=>mO x.1 x.2.1 x.2.2⟩
def Lm:OkSpec Tryz.prog:=⟨Io,ae func153 LN (by kernel_rfl) (by kernel_rfl),call153⟩

def nj (xa:Tq3) (xb:Tq3) (xc:Int) (xd:Bool):Option (Tq9) :=
 (mO xa xb xd).bind fun t1=>cond (!t1) (some (([],8))) ((aa xa 0).bind fun x2=>(aa xb 0).bind fun x3=>(subL xa 1 (xa.length:Int)).bind fun y4=>(subL xb 1 (xb.length:Int)).bind fun y5=>(kr y4 y5 1 1).bind fun l6=>(app (([(x2.1,xc,3,0,false),(xc,x3.1,2,0,false)]:List Tq4)) l6).bind fun z7=>some ((z7,0)))
def Kz:Hn Tryz.prog := .cl Lm [] (.tw 15 .nil (.mix [([0,1,2,3,4,5,6,7,8,9,10,11,12,13],14)] [15] [] [] (.mix [([0,1,2,3,4,5,6],7)] [] [8,9,10] [] (.cl uE [] .nil))))
def Jp:Spec:=⟨141,⟨[(0,.dat Yq8),(1,.dat Yq8),kdI 2,kdB 3],[]⟩,[⟨[(0,.tup [.own 225 Yq6,.dat Yq2])],[]⟩],fun x=>nj x.1 x.2.1 x.2.2.1 x.2.2.2⟩
def Kb:OkSpec Tryz.prog:=⟨Jp,ae func141 Kz (by kernel_rfl) (by kernel_rfl),call141⟩

def fi (xa:Tq4) (xb:(List Tq3)) (xc:Int):Option (Tq9) :=
 (kQ (xa.1,xa.2.1,xa.2.2.1,xa.2.2.2.1,xa.2.2.2.2)).bind fun (t1,t2,t3,i4)=>cond (!decide (i4=0)) (some (([],i4))) ((cond (t1) ((mQ xa.2.1 xb).bind fun t5=>some (!t5)) (some (false))).bind fun t6=>(cond (t6) (some (true)) ((cond (t2) ((mQ xa.2.2.1 xb).bind fun t7=>some (!t7)) (some (false))).bind fun t8=>some (t8))).bind fun t9=>cond (t9||(t3&&((decide (xa.2.2.2.1 < 0))||(decide (xc<=xa.2.2.2.1))))) (some (([],7))) (cond (decide (xa.1=1)) ((aa xb xa.2.2.1).bind fun x10=>(aa xb xa.2.1).bind fun x11=>(gD x10 x11 1 0).bind fun (l12,i13)=>some ((l12,i13))) (cond (decide (xa.1=2)) ((aa xb xa.2.2.1).bind fun x14=>(aa xb xa.2.1).bind fun x15=>(nv x14 x15 xa.2.2.2.1 xa.2.2.2.2).bind fun (l16,i17)=>some ((l16,i17))) (cond (decide (xa.1=3)) ((aa xb xa.2.2.1).bind fun x18=>(aa xb xa.2.1).bind fun x19=>(nj x18 x19 xa.2.2.2.1 xa.2.2.2.2).bind fun (l20,i21)=>some ((l20,i21))) (some (([],0)))))))
def Ie:Hn Tryz.prog := .cl zQ [] (.tw 17 .nil (.wt 22 (.mc 2 0 3 (.gj 5 ⟨[kdB 28],[bkC 2 23 [.is 1 (.any)],bkU 7]⟩ [2] (.two 22 (.cl As [] .nil) .nil) (.wt 29 (.gj 9 ⟨[kdB 39],[bkC 2 23 [.is 1 (.any)],bkU 7]⟩ [2] (.two 29 .nil (.wt 32 (.gj 5 ⟨[kdB 38],[bkC 2 23 [.is 1 (.any)],bkU 7]⟩ [2] (.two 32 (.cl As [] .nil) .nil) .nil))) (.wt 40 (.gp 13 (.tw 54 .nil (.tw 57 (.mix [([0,1,2,3,4,5,6,7,8,9],10)] [11,12,13,14] [] [] (.cl pT [] .nil)) (.tw 72 (.mix [([0,1,2,3,4,5,6,7,8,9,10,11,12,13],14)] [15,16,17,18] [] [] (.cl Lq [] .nil)) (.tw 91 (.mix [([0,1,2,3,4,5,6,7,8,9,10,11,12,13],14)] [15,16,17,18] [] [] (.cl Kb [] .nil)) .nil))))))))))))
def KV:Spec:=⟨115,⟨[(0,.dat Yq6),(1,.dat (.sl Yq8)),kdI 2],[]⟩,[⟨[(0,.tup [.own 225 Yq6,.dat Yq2])],[]⟩],fun x=>fi x.1 x.2.1 x.2.2⟩
def I5:OkSpec Tryz.prog:=⟨KV,ae func115 Ie (by kernel_rfl) (by kernel_rfl),call115⟩

def nA (xa:Tq4) (xb:(List Tq3)) (xc:Int):Option Int :=
 (fi (xa.1,xa.2.1,xa.2.2.1,xa.2.2.2.1,xa.2.2.2.2) xb xc).bind fun (l17,i18)=>some (i18)
def IM:Hn Tryz.prog := .cl I5 [] .nil
def Ip:Spec:=⟨80,⟨[(0,.dat Yq6),(1,.dat (.sl Yq8)),kdI 2],[]⟩,[⟨[kdI 0],[]⟩],fun x=>nA x.1 x.2.1 x.2.2⟩
def H8:OkSpec Tryz.prog:=⟨Ip,ae func80 IM (by kernel_rfl) (by kernel_rfl),call80⟩

def iW (xa:Tq8):Option Bool :=
 some (((!decide (xa.2.1=0))||(!decide (xa.2.2.1=0)))||(decide (0 < (xa.2.2.2.2.2.length:Int))))
def JE:Hn Tryz.prog := .gp 3 (.wt 11 (.gp 4 .nil))
def JN:Spec:=⟨148,⟨[(0,.dat Yq5)],[]⟩,[⟨[kdB 0],[]⟩],fun x=>iW x⟩
def uN:OkSpec Tryz.prog:=⟨JN,ae func148 JE (by kernel_rfl) (by kernel_rfl),call148⟩

def fq (xa:Tq8):Option Int :=
 (cond (decide (xa.1=1)) ((cond ((decide ((xa.2.2.2.1.length:Int)=1))&&(decide ((xa.2.2.2.2.1.length:Int)=0))) ((iW (xa.1,xa.2.1,xa.2.2.1,xa.2.2.2.1,xa.2.2.2.2.1,xa.2.2.2.2.2)).bind fun t1=>some (!t1)) (some (false))).bind fun t2=>some (t2)) (cond (decide (xa.1=2)) ((cond (decide (0 < (xa.2.2.2.1.length:Int))) ((iW (xa.1,xa.2.1,xa.2.2.1,xa.2.2.2.1,xa.2.2.2.2.1,xa.2.2.2.2.2)).bind fun t3=>some (!t3)) (some (false))).bind fun t4=>some (t4)) (cond (decide (xa.1=3)) ((cond ((decide ((xa.2.2.2.1.length:Int)=0))&&(decide ((xa.2.2.2.2.1.length:Int)=0))) ((iW (xa.1,xa.2.1,xa.2.2.1,xa.2.2.2.1,xa.2.2.2.2.1,xa.2.2.2.2.2)).bind fun t5=>some (!t5)) (some (false))).bind fun t6=>some (t6)) (cond (decide (xa.1=4)) (some (decide ((xa.2.2.2.1.length:Int)=1))) (some (false))))):Option Bool).bind fun t7=>cond (!t7) (some (3)) (cond (((decide (16 < (xa.2.2.2.1.length:Int)))||(decide (16 < (xa.2.2.2.2.1.length:Int))))||(decide (16 < (xa.2.2.2.2.2.length:Int)))) (some (6)) (some (0)))
def IS:Hn Tryz.prog := .pl (.pl (.sq [] ⟨[kdB 3],[]⟩ [] (.tw 6 (.wt 12 (.gp 4 (.wt 18 (.gj 3 ⟨[kdB 22],[]⟩ [] (.two 18 (.cl uN [] .nil) .nil) .nil)))) (.tw 23 (.wt 29 (.gj 3 ⟨[kdB 33],[]⟩ [] (.two 29 (.cl uN [] .nil) .nil) .nil)) (.tw 34 (.wt 40 (.gp 4 (.wt 46 (.gj 3 ⟨[kdB 50],[]⟩ [] (.two 46 (.cl uN [] .nil) .nil) .nil)))) (.tw 51 .nil .nil)))) (.tw 58 .nil (.wt 63 (.gp 4 (.wt 69 (.gp 4 (.tw 74 .nil .nil))))))))
def Jw:Spec:=⟨130,⟨[(0,.dat Yq5)],[]⟩,[⟨[kdI 0],[]⟩],fun x=>fq x⟩
def Al:OkSpec Tryz.prog:=⟨Jw,ae func130 IS (by kernel_rfl) (by kernel_rfl),call130⟩

def iP (xa:Int):Option Int :=
 some (xa)
def Im:Hn Tryz.prog := .nil
def Kj:Spec:=⟨154,⟨[kdI 0],[]⟩,[⟨[(0,.fn 159 [.ptr 0 0])],[bkN 3 [.dat Yq2]]⟩],fun x=>iP x⟩
def qh:OkSpec Tryz.prog:=⟨Kj,ae func154 Im (by kernel_rfl) (by kernel_rfl),call154⟩

def iG (xa:Int) (qa0:Int):Option Bool :=
 some ((decide (xa < 0))||(decide (qa0<=xa)))
def LL:Hn Tryz.prog := .gp 3 .nil
def Jc:Spec:=⟨159,⟨[kdI 0,(1,.ptr 0 0)],[bkN 3 [.is 1 (.dat Yq2)],bkM]⟩,[⟨[kdB 0],[bkC 0 3 [.is 1 (.any)],bkU 1]⟩],fun x=>iG x.1 x.2⟩
def um:OkSpec Tryz.prog:=⟨Jc,ae func159 LL (by kernel_rfl) (by kernel_rfl),call159⟩
def mw (xa:(List Int)) (qa0:Int):Int->Option (Int⊕(Unit⊕Int)):=fun i1=>cond (decide (i1 < (xa.length:Int))) ((aa xa i1).bind fun x2=>(iG x2 qa0).bind fun t3=>cond (t3) (some (.inr ((.inr (i1))))) (some (.inl (IntKind.wrap .i64 (i1 + 1))))) (some (.inr ((.inl ()))))
def qu (xa:(List Int)) (qa0:Int):Option Int :=
 (loop (mw xa qa0) 0).bind fun o=>match o with | .inr r=>some r | .inl ()=>some ((-1))
def Il:Hn Tryz.prog := .jx [] ⟨[],[bkC 0 3 [.is 1 (.any)],bkU 1]⟩ [0] (.lp ⟨[kdI 8],[bkC 0 3 [.is 1 (.any)],bkU 1]⟩ (.tw 9 (.cl um [] (.tw 16 .nil .nil)) .nil)) .nil
def JL:Spec:=⟨160,⟨[(0,.dat (.sl Yq2)),(1,.fn 159 [.ptr 0 0])],[bkN 3 [.is 1 (.dat Yq2)],bkM]⟩,[⟨[kdI 0],[bkC 0 3 [.is 1 (.any)],bkU 1]⟩],fun x=>qu x.1 x.2⟩
def ID:OkSpec Tryz.prog:=⟨JL,ae func160 Il (by kernel_rfl) (by kernel_rfl),call160⟩

def iC (xa:(List Int)) (qa0:Int):Option Bool :=
 (qu xa qa0).bind fun i10=>some (decide (0<=i10))
def KD:Hn Tryz.prog := .cl ID [] .nil
def LR:Spec:=⟨155,⟨[(0,.dat (.sl Yq2)),(1,.fn 159 [.ptr 0 0])],[bkN 3 [.is 1 (.dat Yq2)],bkM]⟩,[⟨[kdB 0],[bkC 0 3 [.is 1 (.any)],bkU 1]⟩],fun x=>iC x.1 x.2⟩
def uk:OkSpec Tryz.prog:=⟨LR,ae func155 KD (by kernel_rfl) (by kernel_rfl),call155⟩

def nk (xa:Tq8) (xb:jS):Option Bool :=
 (iP (xb.2.2.1.length:Int)).bind fun i1=>(iP xb.1).bind fun i2=>(iC xa.2.2.2.1 i2).bind fun t3=>cond (t3) (some (false)) ((iC xa.2.2.2.2.1 i1).bind fun t4=>cond (t4) (some (false)) ((iP xb.2.1).bind fun i5=>(iC xa.2.2.2.2.2 i5).bind fun t6=>cond (t6) (some (false)) (cond (!decide (xa.1=4)) (some (true)) ((iG xa.2.2.1 i1).bind fun t7=>cond (!t7) ((iP (xb.2.2.2.2.length:Int)).bind fun i8=>(iG xa.2.1 i8).bind fun t9=>some (!t9)) (some (false))))))
def In:Hn Tryz.prog := .cl qh [] (.mix [([0,1,2,3],4),([],5),([6,7,8,9],10),([11,12,13,14,15,16],17)] [] [18,19] [4] (.cl qh [] (.mc 6 0 7 (.cl uk [] (.two 16 .nil (.wt 1000011 (.mc 4 0 5 (.cl uk [] (.two 22 .nil (.cl qh [] (.mc 14 0 15 (.cl uk [] (.tw 29 .nil (.mix [([0,1,2,3,4,5,6],7),([8,9,10,11,12,14,15],13)] [] [16,17,18,19,20] [4] (.two 33 .nil (.cl um [] (.two 39 (.cl qh [] (.mc 21 0 22 (.cl um [] .nil))) .nil)))))))))))))))))
def JV:Spec:=⟨142,⟨[(0,.dat Yq5),(1,.dat pX)],[]⟩,[⟨[kdB 0],[]⟩],fun x=>nk x.1 x.2⟩
def Lh:OkSpec Tryz.prog:=⟨JV,ae func142 In (by kernel_rfl) (by kernel_rfl),call142⟩
def mT (xa:Tq5) (xc:(List Tq3)):Int->Option (Int⊕(Unit⊕Int)):=fun i1=>cond (decide (i1 < (xa.2.2.1.length:Int))) ((aa xa.2.2.1 i1).bind fun x2=>(aa xc i1).bind fun x3=>(dB x3 x2).bind fun t4=>cond (!t4) (some (.inr ((.inr (8))))) (some (.inl (IntKind.wrap .i64 (i1 + 1))))) (some (.inr ((.inl ()))))
def qT (xa:Tq5) (xb:(List Int)) (xc:(List Tq3)) (xd:Tq3):Option Int :=
 (da (xa.1,xa.2.1,xa.2.2.1,xa.2.2.2)).bind fun i1=>cond (!decide (i1=0)) (some (i1)) (cond ((!decide ((xb.length:Int)=xa.1))||(!decide ((xc.length:Int)=(xa.2.2.1.length:Int)))) (some (2)) ((loop (mT xa xc) 0).bind fun o=>match o with | .inr r=>some r | .inl ()=>(dB xd xa.2.2.2).bind fun t2=>cond (!t2) (some (8)) (some (0))))
def KZ:Hn Tryz.prog := .cl Ae [] (.tw 15 .nil (.wt 22 (.gp 6 (.tw 29 .nil (.jx [] ⟨[],[]⟩ [] (.lp ⟨[kdI 33],[]⟩ (.tw 34 (.mix [] [0,1,2,3,4] [5,6] [] (.cl jW [] (.tw 44 .nil .nil))) .nil)) (.cl jW [] (.tw 50 .nil .nil)))))))
def Mc:Spec:=⟨156,⟨[(0,.dat Yq4),(1,.dat (.sl Yq2)),(2,.dat (.sl Yq8)),(3,.dat Yq8)],[]⟩,[⟨[kdI 0],[]⟩],fun x=>qT x.1 x.2.1 x.2.2.1 x.2.2.2⟩
def LP:OkSpec Tryz.prog:=⟨Mc,ae func156 KZ (by kernel_rfl) (by kernel_rfl),call156⟩

def qC (xa:Tq3):Option (Tq3) :=
 fO xa (some ([])) ((app (([]:List (Int×Bool))) xa).bind fun z21=>some (z21))
def Lj:Hn Tryz.prog := .two 4 .nil .nil
def Ia:Spec:=⟨162,⟨[(0,.dat (.sl Yq3))],[]⟩,[⟨[(0,.own 95 Yq3)],[]⟩],fun x=>qC x⟩
def Ls:OkSpec Tryz.prog:=⟨Ia,ae func162 Lj (by kernel_rfl) (by kernel_rfl),call162⟩

def nH (xa:Tq3):Option (Tq3) :=
 (qC xa).bind fun l22=>some (l22)
def LW:Hn Tryz.prog := .cl Ls [] .nil
def LB:Spec:=⟨161,⟨[(0,.dat Yq8)],[]⟩,[⟨[(0,.agg [.own 95 Yq3])],[]⟩],fun x=>nH x⟩
def H7:OkSpec Tryz.prog:=⟨LB,ae func161 LW (by kernel_rfl) (by kernel_rfl),call161⟩
def kD (xb:(List Int)) (l1:Tq3):(Tq3×Int)->Option ((Tq3×Int)⊕Tq3):=fun (l2,i3)=>cond (decide (i3 < (l1.length:Int))) ((aa l2 i3).bind fun x4=>(aa xb x4.1).bind fun x5=>(aa l2 i3).bind fun x6=>(some (l2.set i3.toNat (x5,x6.2))).bind fun z7=>some (.inl ((z7,IntKind.wrap .i64 (i3 + 1))))) (some (.inr (l2)))
def kT (xa:Tq3) (xb:(List Int)):Option ((Tq3×Int)) :=
 (kO xa (xb.length:Int)).bind fun t1=>cond (!t1) (some (([],7))) ((nH xa).bind fun l2=>(loop (kD xb l2) (l2,0)).bind fun l3=>some ((l3,0)))
def KJ:Hn Tryz.prog := .cl Ac [] (.tw 13 .nil (.cl H7 [] (.jn [] ⟨[(16,.any),(18,.any)],[bkC 6 26 [.own 95 Yq3]]⟩ [6,4,0] (.lp ⟨[(18,.own 95 Yq3),kdI 20],[bkC 6 26 [.al 0]]⟩ (.tw 21 (.mix [] [0,1,2,3,4,5,6,7,8,9] [10] [] .nil) .nil)) .nil)))
def K7:Spec:=⟨157,⟨[(0,.dat Yq8),(1,.dat (.sl Yq2))],[]⟩,[⟨[(0,.tup [.agg [.own 95 Yq3],.dat Yq2])],[]⟩],fun x=>kT x.1 x.2⟩
def zR:OkSpec Tryz.prog:=⟨K7,ae func157 KJ (by kernel_rfl) (by kernel_rfl),call157⟩
def nt (xa:Tq5) (xb:(List Int)):Tq9->Option (Tq9⊕(List Tq4)):=fun (l1,i2)=>cond (decide (i2 < (xa.2.1.length:Int))) ((aa xa.2.1 i2).bind fun x3=>(aa xb x3.1).bind fun x4=>(aa xb x3.2).bind fun x5=>(app l1 (([(x4,x5,4,i2,false)]:List Tq4))).bind fun z6=>some (.inl ((z6,IntKind.wrap .i64 (i2 + 1))))) (some (.inr (l1)))
def kG (xa:Tq5) (xb:(List Int)) (xc:(List Tq3)):Tq9->Option (Tq9⊕(List Tq4)):=fun (l1,i2)=>cond (decide (i2 < (xa.2.2.1.length:Int))) ((aa xa.2.2.1 i2).bind fun x3=>(kT x3 xb).bind fun (l4,i5)=>(aa xc i2).bind fun x6=>(gD x6 l4 5 (IntKind.wrap .i64 (16 * i2))).bind fun (l7,i8)=>(app l1 l7).bind fun z9=>some (.inl ((z9,IntKind.wrap .i64 (i2 + 1))))) (some (.inr (l1)))
def kV (xa:Tq5) (xb:(List Int)) (xc:(List Tq3)) (xd:Tq3):Option (Tq9) :=
 (qT (xa.1,xa.2.1,xa.2.2.1,xa.2.2.2) xb xc xd).bind fun i1=>cond (!decide (i1=0)) (some (([],i1))) ((loop (nt xa xb) ([],0)).bind fun l2=>(loop (kG xa xb xc) (l2,0)).bind fun l3=>(kT xa.2.2.2 xb).bind fun (l4,i5)=>(gD l4 xd 6 0).bind fun (l6,i7)=>(app l3 l6).bind fun z8=>some ((z8,0)))
def Jb:Hn Tryz.prog := .cl LP [] (.tw 30 .nil (.jn [] ⟨[(11,.own 225 Yq6)],[]⟩ [] (.lp ⟨[(11,.own 225 Yq6),kdI 35],[]⟩ (.tw 36 (.mix [([0,1,2,3,4,5,6,7,8,9,10,11,12],13)] [] [14,15] [] .nil) .nil)) (.jn [] ⟨[(11,.own 225 Yq6)],[]⟩ [4] (.lp ⟨[(11,.own 225 Yq6),kdI 59],[]⟩ (.tw 60 (.cl zR [] (.per 11 12 (.mix [([0,1,2,3,4,5,6],7)] [8,9,10,11,12] [] [] (.cl pT [] .nil)))) .nil)) (.cl zR [] (.per 8 9 (.cl pT [] .nil))))))
def Jd:Spec:=⟨143,⟨[(0,.dat Yq4),(1,.dat (.sl Yq2)),(2,.dat (.sl Yq8)),(3,.dat Yq8)],[]⟩,[⟨[(0,.tup [.own 225 Yq6,.dat Yq2])],[]⟩],fun x=>kV x.1 x.2.1 x.2.2.1 x.2.2.2⟩
def Ju:OkSpec Tryz.prog:=⟨Jd,ae func143 Jb (by kernel_rfl) (by kernel_rfl),call143⟩
def iM (xa:Tq8) (xb:jS):((List Tq3)×Int)->Option (((List Tq3)×Int)⊕(List Tq3)):=fun (l1,i2)=>cond (decide (i2 < (xa.2.2.2.2.1.length:Int))) ((aa xa.2.2.2.2.1 i2).bind fun x3=>(aa xb.2.2.1 x3).bind fun x4=>(app l1 (([x4]:List Tq3))).bind fun z5=>some (.inl ((z5,IntKind.wrap .i64 (i2 + 1))))) (some (.inr (l1)))
def dA (xa:Tq8) (xb:jS):Option (Tq9) :=
 (fq (xa.1,xa.2.1,xa.2.2.1,xa.2.2.2.1,xa.2.2.2.2.1,xa.2.2.2.2.2)).bind fun i1=>cond (!decide (i1=0)) (some (([],i1))) ((nk (xa.1,xa.2.1,xa.2.2.1,xa.2.2.2.1,xa.2.2.2.2.1,xa.2.2.2.2.2) (xb.1,xb.2.1,xb.2.2.1,xb.2.2.2.1,xb.2.2.2.2)).bind fun t2=>cond (!t2) (some (([],7))) (cond (decide (xa.1=3)) (cond (decide ((xb.2.2.1.length:Int)=0)) (some (([],14))) ((aa xb.2.2.1 0).bind fun x3=>(gD x3 xb.2.2.2.1 7 0).bind fun (l4,i5)=>some ((l4,i5)))) (cond (decide (xa.1=4)) ((loop (iM xa xb) ([],0)).bind fun l6=>(aa xb.2.2.2.2 xa.2.1).bind fun x7=>(aa xb.2.2.1 xa.2.2.1).bind fun x8=>(kV (x7.1,x7.2.1,x7.2.2.1,x7.2.2.2) xa.2.2.2.2.2 l6 x8).bind fun (l9,i10)=>some ((l9,i10))) (some (([],0))))))
def Lc:Hn Tryz.prog := .cl Al [] (.tw 13 .nil (.cl Lh [] (.tw 18 .nil (.tw 21 (.tw 26 .nil (.mix [([0,1,2,3,4,5],6)] [7,8,9,10] [] [] (.cl pT [] .nil))) (.tw 36 (.jn [] ⟨[(7,.own 26 Yq8)],[]⟩ [] (.lp ⟨[(7,.own 26 Yq8),kdI 41],[]⟩ (.tw 42 .nil .nil)) (.mix [([0,1,2,3,4,5,6,7,8,9,10,11,12,13,14],15)] [16,17,18,19] [] [4] (.per 4 5 (.cl Ju [] .nil)))) .nil)))))
def JK:Spec:=⟨116,⟨[(0,.dat Yq5),(1,.dat pX)],[]⟩,[⟨[(0,.tup [.own 225 Yq6,.dat Yq2])],[]⟩],fun x=>dA x.1 x.2⟩
def Ks:OkSpec Tryz.prog:=⟨JK,ae func116 Lc (by kernel_rfl) (by kernel_rfl),call116⟩

def nF (xa:Tq8) (xb:jS):Option Int :=
 (dA (xa.1,xa.2.1,xa.2.2.1,xa.2.2.2.1,xa.2.2.2.2.1,xa.2.2.2.2.2) (xb.1,xb.2.1,xb.2.2.1,xb.2.2.2.1,xb.2.2.2.2)).bind fun (l19,i20)=>some (i20)
def KL:Hn Tryz.prog := .cl Ks [] .nil
def Ih:Spec:=⟨81,⟨[(0,.dat Yq5),(1,.dat pX)],[]⟩,[⟨[kdI 0],[]⟩],fun x=>nF x.1 x.2⟩
def Kv:OkSpec Tryz.prog:=⟨Ih,ae func81 KL (by kernel_rfl) (by kernel_rfl),call81⟩
def f7 (xa:Tq1) (i1:Int) (x2:Tq2):Int->Option (Int⊕(Unit⊕(Int⊕(Unit⊕Tq6)))):=fun i3=>cond (decide (i3 < (x2.1.length:Int))) ((aa x2.1 i3).bind fun x4=>(bc 1 1).bind fun _=>(nA (x4.1,x4.2.1,x4.2.2.1,x4.2.2.2.1,x4.2.2.2.2) xa.2.2.2.1 xa.2.1).bind fun i5=>cond (!decide (i5=0)) (some (.inr ((.inr (.inr ((.inr ((i5,6,i1,i3))))))))) (some (.inl (IntKind.wrap .i64 (i3 + 1))))) (some (.inr ((.inl ()))))
def f8 (xa:Tq1):Int->Option (Int⊕(Unit⊕Tq6)):=fun i1=>cond (decide (i1 < (xa.2.2.2.2.2.2.length:Int))) ((aa xa.2.2.2.2.2.2 i1).bind fun x2=>(loop (f7 xa i1 x2) 0).bind fun o=>match o with | .inr r=>some r | .inl ()=>(bc 1 1).bind fun _=>(nF (x2.2.1,x2.2.2.1,x2.2.2.2.1,x2.2.2.2.2.1,x2.2.2.2.2.2.1,x2.2.2.2.2.2.2) (((xa.2.2.2.2.2.2.length:Int),xa.2.1,xa.2.2.2.1,xa.2.2.2.2.1,xa.2.2.2.2.2.1))).bind fun i3=>cond (!decide (i3=0)) (some (.inr ((.inr ((i3,7,i1,0)))))) (some (.inl (IntKind.wrap .i64 (i1 + 1))))) (some (.inr ((.inl ()))))
def d8 (xa:Tq1):Option Tq6 :=
 (loop (f8 xa) 0).bind fun o=>match o with | .inr r=>some r | .inl ()=>some ((0,0,0,0))
def IA:Hn Tryz.prog := .jx [] ⟨[],[bkC 2 68 [.lit (.int .i64 0),.lit (.int .i64 0),.lit (.int .i64 0),.lit (.int .i64 0)]]⟩ [2] (.lp ⟨[kdI 27],[bkC 2 68 [.lit (.int .i64 0),.lit (.int .i64 0),.lit (.int .i64 0),.lit (.int .i64 0)]]⟩ (.tw 28 (.pl (.pl (.jx [] ⟨[],[bkC 2 68 [.lit (.int .i64 0),.lit (.int .i64 0),.lit (.int .i64 0),.lit (.int .i64 0)]]⟩ [2] (.lp ⟨[kdI 35],[bkC 2 68 [.lit (.int .i64 0),.lit (.int .i64 0),.lit (.int .i64 0),.lit (.int .i64 0)]]⟩ (.tw 36 (.cl oQ3 [] (.cl H8 [] (.tw 49 .nil .nil))) .nil)) (.cl oQ3 [] (.cl Kv [] (.tw 62 .nil .nil)))))) .nil)) .nil
def J3:Spec:=⟨43,⟨[(0,.dat Yq1),(1,.nilp)],[]⟩,[⟨[(0,.agg [.dat Yq2,.dat Yq2,.dat Yq2,.dat Yq2])],[]⟩],fun x=>d8 x⟩
def KE:OkSpec Tryz.prog:=⟨J3,ae func43 IA (by kernel_rfl) (by kernel_rfl),call43⟩

def d7 (xa:Tq1):Option Tq6 :=
 (bc 1 1).bind fun _=>(gm xa).bind fun (i1,i2,i3,i4)=>cond (!decide (i1=0)) (some ((i1,i2,i3,i4))) ((gf xa).bind fun (i5,i6,i7,i8)=>cond (!decide (i5=0)) (some ((i5,i6,i7,i8))) ((ge xa).bind fun (i9,i10,i11,i12)=>cond (!decide (i9=0)) (some ((i9,i10,i11,i12))) ((ef xa).bind fun (i13,i14,i15,i16)=>cond (!decide (i13=0)) (some ((i13,i14,i15,i16))) ((gh xa).bind fun (i17,i18,i19,i20)=>cond (!decide (i17=0)) (some ((i17,i18,i19,i20))) ((ga xa).bind fun (i21,i22,i23,i24)=>cond (!decide (i21=0)) (some ((i21,i22,i23,i24))) ((d8 xa).bind fun (i25,i26,i27,i28)=>cond (!decide (i25=0)) (some ((i25,i26,i27,i28))) (some ((0,0,0,0)))))))))
def JG:Hn Tryz.prog := .cl oQ3 [] (.un 64 (.cl oQ4 [] (.tw 24 .nil (.cl oQ6 [] (.tw 24 .nil (.cl Jy [] (.tw 24 .nil (.cl KX [] (.tw 24 .nil (.cl IC [] (.tw 24 .nil (.cl KK [] (.tw 24 .nil (.cl KE [] (.tw 24 .nil .nil)))))))))))))))
def I8:Spec:=⟨21,⟨[(0,.dat Yq1),(1,.nilp)],[]⟩,[⟨[(0,.agg [.dat Yq2,.dat Yq2,.dat Yq2,.dat Yq2])],[]⟩],fun x=>d7 x⟩
def Ai:OkSpec Tryz.prog:=⟨I8,ae func21 JG (by kernel_rfl) (by kernel_rfl),call21⟩

def gV (xa:Tq1):Option Bool :=
 (d7 xa).bind fun (i15,i17,i18,i19)=>some (decide (i15=0))
def Ji:Hn Tryz.prog := .cl Ai [] .nil
def Kg:Spec:=⟨18,⟨[(0,.dat Yq1)],[]⟩,[⟨[kdB 0],[]⟩],fun x=>gV x⟩
def Aq:OkSpec Tryz.prog:=⟨Kg,ae func18 Ji (by kernel_rfl) (by kernel_rfl),call18⟩
def m8  : (Int×Int)->Option ((Int×Int)⊕Int):=fun (i40,i41)=>cond (decide (0 < i40)) (some (.inl ((bd0 i40 (2 ^ (min (Z6 8) (IntKind.bits .i64))),IntKind.wrap .i64 (i41 + 1))))) (some (.inr (i41)))
def iR (xa:Int):Option Int :=
 (loop (m8) (xa,0)).bind fun i36=>some (i36)
def KC:Hn Tryz.prog := .jn [] ⟨[kdI 3],[]⟩ [] (.lp ⟨[kdI 0,kdI 3],[]⟩ (.tw 5 .nil .nil)) .nil
def IK:Spec:=⟨128,⟨[kdI 0],[]⟩,[⟨[kdI 0],[]⟩],fun x=>iR x⟩
def uH:OkSpec Tryz.prog:=⟨IK,ae func128 KC (by kernel_rfl) (by kernel_rfl),call128⟩

def nL (xa:Int):Option Int :=
 cond ((decide (xa < 0))||(decide (4294967295 < xa))) (some (0)) (cond (decide (xa < 248)) (some (1)) ((iR xa).bind fun i18=>some (IntKind.wrap .i64 (1 + i18))))
def Iw:Hn Tryz.prog := .gp 2 (.tw 3 .nil (.tw 10 .nil (.cl uH [] .nil)))
def Kc:Spec:=⟨87,⟨[kdI 0],[]⟩,[⟨[kdI 0],[]⟩],fun x=>nL x⟩
def KN:OkSpec Tryz.prog:=⟨Kc,ae func87 Iw (by kernel_rfl) (by kernel_rfl),call87⟩
def nC (x1:Int):b9->Option (b9⊕List UInt8):=fun (i2,s3)=>cond (decide (0<=i2)) ((ge0 i2).bind fun u4=>(wrB s3 (IntKind.wrap .u8 (bd0 x1 (2 ^ (min (Z6 i2) (IntKind.bits .i64)))))).bind fun z5=>some (.inl ((IntKind.wrap .i64 (i2 - 8),z5)))) (some (.inr (s3)))
def kN (xa:(List Int)):b9->Option (b9⊕List UInt8):=fun (i1,s2)=>cond (decide (i1 < (xa.length:Int))) ((aa xa i1).bind fun x3=>(nL x3).bind fun i4=>cond (decide (i4=0)) (some (.inl ((IntKind.wrap .i64 (i1 + 1),s2)))) (cond (decide (i4=1)) ((wrB s2 (IntKind.wrap .u8 x3)).bind fun z5=>some (.inl ((IntKind.wrap .i64 (i1 + 1),z5)))) ((wrB s2 (IntKind.wrap .u8 (IntKind.wrap .i64 ((IntKind.wrap .i64 (247 + i4)) - 1)))).bind fun z6=>(loop (nC x3) ((IntKind.wrap .i64 (8 * (IntKind.wrap .i64 (i4 - 2))),z6))).bind fun s7=>some (.inl ((IntKind.wrap .i64 (i1 + 1),s7)))))) (some (.inr (s2)))
def de (xa:(List Int)):Option aT :=
 (loop (kN xa) ((0,([]:List UInt8)))).bind fun s1=>(some s1).bind fun s2=>some (s2)
def Lt:Hn Tryz.prog := .jn [] ⟨[],[⟨(some 0),0,[],true,false,none,false⟩]⟩ [0] (.lp ⟨[kdI 10],[⟨(some 0),0,[],true,false,none,false⟩]⟩ (.tw 11 (.cl KN [] (.tw 34 .nil (.tw 36 (.cl rh [] .nil) (.cl rh [] (.jn [] ⟨[],[⟨(some 0),0,[],true,false,none,false⟩]⟩ [0] (.lp ⟨[kdI 7],[⟨(some 0),0,[],true,false,none,false⟩]⟩ (.tw 26 (.cl rh [] .nil) .nil)) .nil))))) .nil)) (.cl gY [] .nil)
def JO:Spec:=⟨52,⟨[(0,.dat (.sl Yq2))],[]⟩,[⟨[(0,.dat .str)],[]⟩],fun x=>de x⟩
def fU:OkSpec Tryz.prog:=⟨JO,ae func52 Lt (by kernel_rfl) (by kernel_rfl),call52⟩
def km (xa:Tq7):((List Int)×Int)->Option (((List Int)×Int)⊕(List Int)):=fun (l1,i2)=>cond (decide (i2 < (xa.length:Int))) ((aa xa i2).bind fun x3=>(app l1 ([x3.1,x3.2]:List Int)).bind fun z4=>some (.inl ((z4,IntKind.wrap .i64 (i2 + 1))))) (some (.inr (l1)))
def kw (xa:Tq7):Option aT :=
 (loop (km xa) ((([(xa.length:Int)]:List Int),0))).bind fun l1=>(de l1).bind fun s2=>some (s2)
def J5:Hn Tryz.prog := .jn [] ⟨[(3,.own 3 Yq2),(8,.any)],[]⟩ [0] (.lp ⟨[(3,.own 3 Yq2),kdI 11],[]⟩ (.tw 12 .nil .nil)) (.cl fU [2] .nil)
def If:Spec:=⟨53,⟨[(0,.dat (.sl Yq7))],[]⟩,[⟨[(0,.dat .str)],[]⟩],fun x=>kw x⟩
def Af:OkSpec Tryz.prog:=⟨If,ae func53 J5 (by kernel_rfl) (by kernel_rfl),call53⟩

def cN (xa:Int):Option aT :=
 (de ([xa]:List Int)).bind fun s23=>some (s23)
def H0:Hn Tryz.prog := .cl fU [0] .nil
def IJ:Spec:=⟨54,⟨[kdI 0],[]⟩,[⟨[(0,.dat .str)],[]⟩],fun x=>cN x⟩
def eO:OkSpec Tryz.prog:=⟨IJ,ae func54 H0 (by kernel_rfl) (by kernel_rfl),call54⟩
def ku (xa:Tq3):((List Int)×Int)->Option (((List Int)×Int)⊕(List Int)):=fun (l1,i2)=>cond (decide (i2 < (xa.length:Int))) ((aa xa i2).bind fun x3=>(cond (x3.2) (some (IntKind.wrap .i64 ((IntKind.wrap .i64 (2 * x3.1)) + 1))) (some (IntKind.wrap .i64 (2 * x3.1))):Option Int).bind fun i4=>(app l1 ([i4]:List Int)).bind fun z5=>some (.inl ((z5,IntKind.wrap .i64 (i2 + 1))))) (some (.inr (l1)))
def gB (xa:Tq3):Option aT :=
 (loop (ku xa) ((([(xa.length:Int)]:List Int),0))).bind fun l1=>(de l1).bind fun s2=>some (s2)
def L7:Hn Tryz.prog := .jn [] ⟨[(3,.own 3 Yq2),(10,.any)],[]⟩ [2,0] (.lp ⟨[(3,.own 3 Yq2),kdI 14],[]⟩ (.tw 15 (.pl (.pl (.pl (.sq [] ⟨[kdI 6],[]⟩ [] (.tw 22 .nil .nil) .nil)))) .nil)) (.cl fU [4] .nil)
def KO:Spec:=⟨55,⟨[(0,.dat Yq8)],[]⟩,[⟨[(0,.dat .str)],[]⟩],fun x=>gB x⟩
def qb:OkSpec Tryz.prog:=⟨KO,ae func55 L7 (by kernel_rfl) (by kernel_rfl),call55⟩
def kM (xa:Tq5):b9->Option (b9⊕List UInt8):=fun (i1,s2)=>cond (decide (i1 < (xa.2.2.1.length:Int))) ((aa xa.2.2.1 i1).bind fun x3=>(gB x3).bind fun s4=>(wrS s2 s4).bind fun z5=>some (.inl ((IntKind.wrap .i64 (i1 + 1),z5)))) (some (.inr (s2)))
def la (xa:Tq5):Option aT :=
 (cN xa.1).bind fun s1=>(wrS ([]:List UInt8) s1).bind fun z2=>(kw xa.2.1).bind fun s3=>(wrS z2 s3).bind fun z4=>(cN (xa.2.2.1.length:Int)).bind fun s5=>(wrS z4 s5).bind fun z6=>(loop (kM xa) (0,z6)).bind fun s7=>(gB xa.2.2.2).bind fun s9=>(wrS s7 s9).bind fun z10=>(some z10).bind fun s11=>some (s11)
def K6:Hn Tryz.prog := .cl eO [] (.cl aY [] (.cl Af [] (.cl aY [] (.cl eO [] (.cl aY [] (.jn [] ⟨[],[⟨(some 2),0,[],true,false,none,false⟩]⟩ [2] (.lp ⟨[kdI 22],[⟨(some 2),0,[],true,false,none,false⟩]⟩ (.tw 23 (.cl qb [] (.cl aY [] .nil)) .nil)) (.cl qb [] (.cl aY [] (.cl gY [] .nil)))))))))
def JS:Spec:=⟨56,⟨[(0,.dat Yq4)],[]⟩,[⟨[(0,.dat .str)],[]⟩],fun x=>la x⟩
def Lz:OkSpec Tryz.prog:=⟨JS,ae func56 K6 (by kernel_rfl) (by kernel_rfl),call56⟩

def iX (xa:Tq4):Option (List UInt8×Int) :=
 (kQ (xa.1,xa.2.1,xa.2.2.1,xa.2.2.2.1,xa.2.2.2.2)).bind fun (t1,t2,t3,i4)=>cond (!decide (i4=0)) (some ((([]:List UInt8),i4))) ((cond (t1) ((app ([xa.1]:List Int) ([xa.2.1]:List Int)).bind fun z5=>some (z5)) (some (([xa.1]:List Int))):Option (List Int)).bind fun l6=>(cond (t2) ((app l6 ([xa.2.2.1]:List Int)).bind fun z7=>some (z7)) (some (l6)):Option (List Int)).bind fun l9=>cond (t3) ((cond (xa.2.2.2.2) (some (IntKind.wrap .i64 ((IntKind.wrap .i64 (2 * xa.2.2.2.1)) + 1))) (some (IntKind.wrap .i64 (2 * xa.2.2.2.1))):Option Int).bind fun i10=>(app l9 ([i10]:List Int)).bind fun z11=>(de z11).bind fun s12=>some ((s12,0))) ((de l9).bind fun s13=>some ((s13,0))))
def IZ:Hn Tryz.prog := .cl zQ [] (.tw 14 .nil (.pl (.sq [] ⟨[(6,.own 3 Yq2),(18,.any)],[]⟩ [5] (.tw 20 .nil .nil) (.sq [] ⟨[(6,.own 3 Yq2)],[]⟩ [7] (.tw 27 .nil .nil) (.tw 34 (.pl (.sq [] ⟨[kdI 7],[]⟩ [] (.tw 39 .nil .nil) (.cl fU [13] .nil))) (.cl fU [9] .nil))))))
def Id:Spec:=⟨89,⟨[(0,.dat Yq6)],[]⟩,[⟨[(0,.tup [.dat .str,.dat Yq2])],[]⟩],fun x=>iX x⟩
def LQ:OkSpec Tryz.prog:=⟨Id,ae func89 IZ (by kernel_rfl) (by kernel_rfl),call89⟩

def gx (xa:(List Int)):Option aT :=
 (cN (xa.length:Int)).bind fun s18=>(de xa).bind fun s24=>(app s18 s24).bind fun z28=>some (z28)
def Ii:Hn Tryz.prog := .cl eO [] (.cl fU [] .nil)
def L9:Spec:=⟨131,⟨[(0,.dat (.sl Yq2))],[]⟩,[⟨[(0,.dat .str)],[]⟩],fun x=>gx x⟩
def pU:OkSpec Tryz.prog:=⟨L9,ae func131 Ii (by kernel_rfl) (by kernel_rfl),call131⟩

def kX (xa:Tq8):Option (List UInt8×Int) :=
 (fq (xa.1,xa.2.1,xa.2.2.1,xa.2.2.2.1,xa.2.2.2.2.1,xa.2.2.2.2.2)).bind fun i1=>cond (!decide (i1=0)) (some ((([]:List UInt8),i1))) ((cN xa.1).bind fun s2=>(wrS ([]:List UInt8) s2).bind fun z3=>cond (decide (xa.1=1)) ((aa xa.2.2.2.1 0).bind fun x4=>(cN x4).bind fun s5=>(wrS z3 s5).bind fun z6=>(some z6).bind fun s7=>some ((s7,0))) (cond (decide (xa.1=2)) ((gx xa.2.2.2.1).bind fun s9=>(wrS z3 s9).bind fun z10=>(gx xa.2.2.2.2.1).bind fun s11=>(wrS z10 s11).bind fun z12=>(some z12).bind fun s13=>some ((s13,0))) (cond (decide (xa.1=4)) ((aa xa.2.2.2.1 0).bind fun x14=>(de ([xa.2.1,xa.2.2.1,x14]:List Int)).bind fun s15=>(wrS z3 s15).bind fun z16=>(gx xa.2.2.2.2.2).bind fun s17=>(wrS z16 s17).bind fun z18=>(gx xa.2.2.2.2.1).bind fun s19=>(wrS z18 s19).bind fun z20=>(some z20).bind fun s21=>some ((s21,0))) ((some z3).bind fun s22=>some ((s22,0))))))
def KM:Hn Tryz.prog := .cl Al [] (.tw 9 .nil (.cl eO [] (.cl aY [] (.tw 17 (.cl eO [] (.cl aY [] (.cl gY [] .nil))) (.tw 25 (.cl pU [] (.cl aY [] (.cl pU [] (.cl aY [] (.cl gY [] .nil))))) (.tw 35 (.mix [([0,1,2,3,4,5,6,7],8)] [] [9,10] [] (.cl fU [3] (.cl aY [] (.cl pU [] (.cl aY [] (.cl pU [] (.cl aY [] (.cl gY [] .nil)))))))) (.cl gY [] .nil)))))))
def IX:Spec:=⟨90,⟨[(0,.dat Yq5)],[]⟩,[⟨[(0,.tup [.dat .str,.dat Yq2])],[]⟩],fun x=>kX x⟩
def Kh:OkSpec Tryz.prog:=⟨IX,ae func90 KM (by kernel_rfl) (by kernel_rfl),call90⟩
def ki (xb:Tq2):b9->Option (b9⊕(List UInt8⊕b9)):=fun (i1,s2)=>cond (decide (i1 < (xb.1.length:Int))) ((aa xb.1 i1).bind fun x3=>(iX (x3.1,x3.2.1,x3.2.2.1,x3.2.2.2.1,x3.2.2.2.2)).bind fun (s4,i5)=>cond (!decide (i5=0)) (some (.inr ((.inr ((i5,s2)))))) ((wrS s2 s4).bind fun z6=>some (.inl ((IntKind.wrap .i64 (i1 + 1),z6))))) (some (.inr (.inl s2)))
def fX (xb:Tq2) (qa0:List UInt8):Option b9 :=
 (cN (xb.1.length:Int)).bind fun s1=>(wrS qa0 s1).bind fun z2=>(loop (ki xb) (0,z2)).bind fun o=>match o with | .inr r=>some r | .inl s3=>(kX (xb.2.1,xb.2.2.1,xb.2.2.2.1,xb.2.2.2.2.1,xb.2.2.2.2.2.1,xb.2.2.2.2.2.2)).bind fun (s4,i5)=>(wrS s3 s4).bind fun z6=>some ((i5,z6))
def L8:Hn Tryz.prog := .cl eO [] (.cl aY [] (.jx [] ⟨[],[⟨(some 0),0,[],true,false,none,false⟩]⟩ [0] (.lp ⟨[kdI 20],[⟨(some 0),0,[],true,false,none,false⟩]⟩ (.tw 21 (.cl LQ [] (.tw 30 .nil (.cl aY [] .nil))) .nil)) (.cl Kh [] (.cl aY [] .nil))))
def LJ:Spec:=⟨57,⟨[(0,.ptr 0 0),(1,.dat (.cons (.sl Yq6) (.one Yq5)))],[⟨none,0,[],true,false,none,false⟩]⟩,[⟨[kdI 0],[⟨(some 0),0,[],true,false,none,false⟩]⟩],fun x=>fX x.1 x.2⟩
def I0:OkSpec Tryz.prog:=⟨LJ,ae func57 L8 (by kernel_rfl) (by kernel_rfl),call57⟩
def kJ (xa:Tq1):b9->Option (b9⊕List UInt8):=fun (i1,s2)=>cond (decide (i1 < (xa.2.2.2.1.length:Int))) ((aa xa.2.2.2.1 i1).bind fun x3=>(gB x3).bind fun s4=>(wrS s2 s4).bind fun z5=>some (.inl ((IntKind.wrap .i64 (i1 + 1),z5)))) (some (.inr (s2)))
def kH (xa:Tq1):b9->Option (b9⊕List UInt8):=fun (i1,s2)=>cond (decide (i1 < (xa.2.2.2.2.2.1.length:Int))) ((aa xa.2.2.2.2.2.1 i1).bind fun x3=>(la (x3.1,x3.2.1,x3.2.2.1,x3.2.2.2)).bind fun s4=>(wrS s2 s4).bind fun z5=>some (.inl ((IntKind.wrap .i64 (i1 + 1),z5)))) (some (.inr (s2)))
def iQ (xa:Tq1):b9->Option (b9⊕(List UInt8⊕(List UInt8×Int))):=fun (i1,s2)=>cond (decide (i1 < (xa.2.2.2.2.2.2.length:Int))) ((aa xa.2.2.2.2.2.2 i1).bind fun x3=>(fX ((x3.1,(x3.2.1,x3.2.2.1,x3.2.2.2.1,x3.2.2.2.2.1,x3.2.2.2.2.2.1,x3.2.2.2.2.2.2))) s2).bind fun (i4,s5)=>cond (!decide (i4=0)) (some (.inr ((.inr ((([]:List UInt8),i4)))))) (some (.inl ((IntKind.wrap .i64 (i1 + 1),s5))))) (some (.inr (.inl s2)))
def kZ (xa:Tq1):Option (List UInt8×Int) :=
 (wrS ([]:List UInt8) ([109,105,114,1]:List UInt8)).bind fun z1=>(de ([xa.1,xa.2.1]:List Int)).bind fun s2=>(wrS z1 s2).bind fun z3=>(kw xa.2.2.1).bind fun s4=>(wrS z3 s4).bind fun z5=>(cN (xa.2.2.2.1.length:Int)).bind fun s6=>(wrS z5 s6).bind fun z7=>(loop (kJ xa) (0,z7)).bind fun s9=>(gB xa.2.2.2.2.1).bind fun s10=>(wrS s9 s10).bind fun z11=>(cN (xa.2.2.2.2.2.1.length:Int)).bind fun s12=>(wrS z11 s12).bind fun z13=>(loop (kH xa) (0,z13)).bind fun s14=>(cN (xa.2.2.2.2.2.2.length:Int)).bind fun s15=>(wrS s14 s15).bind fun z16=>(loop (iQ xa) (0,z16)).bind fun o=>match o with | .inr r=>some r | .inl s17=>(some s17).bind fun s18=>some ((s18,0))
def Ko:Hn Tryz.prog := .cl aY [] (.cl fU [3] (.cl aY [] (.cl Af [] (.cl aY [] (.cl eO [] (.cl aY [] (.jn [] ⟨[(17,.any)],[⟨(some 2),0,[],true,false,none,false⟩]⟩ [2,3] (.lp ⟨[kdI 32],[⟨(some 2),0,[],true,false,none,false⟩]⟩ (.tw 33 (.cl qb [] (.cl aY [] .nil)) .nil)) (.cl qb [] (.cl aY [] (.cl eO [] (.cl aY [] (.jn [] ⟨[],[⟨(some 2),0,[],true,false,none,false⟩]⟩ [2] (.lp ⟨[kdI 52],[⟨(some 2),0,[],true,false,none,false⟩]⟩ (.tw 53 (.cl Lz [] (.cl aY [] .nil)) .nil)) (.cl eO [] (.cl aY [] (.jx [] ⟨[],[⟨(some 2),0,[],true,false,none,false⟩]⟩ [2,0] (.lp ⟨[kdI 68],[⟨(some 2),0,[],true,false,none,false⟩]⟩ (.tw 69 (.cl I0 [] (.tw 75 .nil .nil)) .nil)) (.cl gY [] .nil))))))))))))))))
def L6:Spec:=⟨30,⟨[(0,.dat Yq1)],[]⟩,[⟨[(0,.tup [.dat .str,.dat Yq2])],[]⟩],fun x=>kZ x⟩
def Iq:OkSpec Tryz.prog:=⟨L6,ae func30 Ko (by kernel_rfl) (by kernel_rfl),call30⟩

def qD (xa:aT) (xb:aT):Option Bool :=
 (cond (decide ((xb.length:Int)<=(xa.length:Int))) ((subL xa 0 (xb.length:Int)).bind fun y14=>some (decide (y14=xb))) (some (false))).bind fun t12=>some (t12)
def Iy:Hn Tryz.prog := .gj 6 ⟨[kdB 17],[]⟩ [] (.two 10 .nil .nil) .nil
def IT:Spec:=⟨132,⟨[(0,.dat .str),(1,.dat .str)],[]⟩,[⟨[kdB 0],[]⟩],fun x=>qD x.1 x.2⟩
def H4:OkSpec Tryz.prog:=⟨IT,ae func132 Iy (by kernel_rfl) (by kernel_rfl),call132⟩

def qE (xa:aT) (xb:aT):Option (List UInt8×Bool) :=
 (qD xa xb).bind fun t14=>cond (!t14) (some ((xa,false))) ((subL xa (xb.length:Int) (xa.length:Int)).bind fun y19=>some ((y19,true)))
def Jt:Hn Tryz.prog := .cl H4 [] (.tw 9 .nil .nil)
def Ky:Spec:=⟨91,⟨[(0,.dat .str),(1,.dat .str)],[]⟩,[⟨[(0,.tup [.dat .str,.dat .bool])],[]⟩],fun x=>qE x.1 x.2⟩
def Le:OkSpec Tryz.prog:=⟨Ky,ae func91 Jt (by kernel_rfl) (by kernel_rfl),call91⟩

def mR (xa:aT) (xb:aT):Option (List UInt8×Bool) :=
 (qE xa xb).bind fun (s12,t13)=>some ((s12,t13))
def Jh:Hn Tryz.prog := .cl Le [] .nil
def Ke:Spec:=⟨59,⟨[(0,.dat .str),(1,.dat .str)],[]⟩,[⟨[(0,.tup [.dat .str,.dat .bool])],[]⟩],fun x=>mR x.1 x.2⟩
def KF:OkSpec Tryz.prog:=⟨Ke,ae func59 Jh (by kernel_rfl) (by kernel_rfl),call59⟩
def kF (xa:aT) (x88:UInt8):(Int×Int)->Option ((Int×Int)⊕Int):=fun (i1,i2)=>cond (decide (i2<=(IntKind.wrap .i64 ((IntKind.wrap .i64 (((x88.toNat:Nat):Int))) - 247)))) ((aa xa i2).bind fun x3=>some (.inl ((IntKind.wrap .i64 ((T3 (IntKind.bits .i64) (IntKind.wrap .i64 (i1 * 2 ^ (min (Z6 8) (IntKind.bits .i64)))) ||| T3 (IntKind.bits .i64) (IntKind.wrap .i64 (((x3.toNat:Nat):Int)))).toNat:Int),IntKind.wrap .i64 (i2 + 1))))) (some (.inr (i1)))
def en (xa:aT):Option (Int×Int×Int) :=
 cond (decide (xa=([]:List UInt8))) (some ((0,0,4))) ((aa xa 0).bind fun x88=>cond (decide ((IntKind.wrap .i64 (((x88.toNat:Nat):Int))) < 248)) (some ((IntKind.wrap .i64 (((x88.toNat:Nat):Int)),1,0))) ((iR 4294967295).bind fun i96=>cond (decide (i96 < (IntKind.wrap .i64 ((IntKind.wrap .i64 (((x88.toNat:Nat):Int))) - 247)))) (some ((0,0,3))) (cond (decide ((xa.length:Int)<=(IntKind.wrap .i64 ((IntKind.wrap .i64 (((x88.toNat:Nat):Int))) - 247)))) (some ((0,0,4))) ((loop (kF xa x88) (0,1)).bind fun i1=>(cond (decide (i1 < 248)) (some (true)) ((iR i1).bind fun i2=>some (decide (i2 < (IntKind.wrap .i64 ((IntKind.wrap .i64 (((x88.toNat:Nat):Int))) - 247)))))).bind fun t3=>cond (t3) (some ((0,0,3))) (some ((i1,IntKind.wrap .i64 (1 + (IntKind.wrap .i64 ((IntKind.wrap .i64 (((x88.toNat:Nat):Int))) - 247))),0)))))))
def L5:Hn Tryz.prog := .tw 10 .nil (.tw 15 .nil (.cl uH [] (.tw 21 .nil (.tw 25 .nil (.jn [] ⟨[kdI 7],[]⟩ [] (.lp ⟨[kdI 7,kdI 8],[]⟩ (.tw 28 .nil .nil)) (.wt 40 (.gj 4 ⟨[kdB 45],[]⟩ [] (.two 40 .nil (.cl uH [] .nil)) (.tw 45 .nil .nil))))))))
def Ma:Spec:=⟨93,⟨[(0,.dat .str)],[]⟩,[⟨[(0,.tup [.dat Yq2,.dat Yq2,.dat Yq2])],[]⟩],fun x=>en x⟩
def mn:OkSpec Tryz.prog:=⟨Ma,ae func93 L5 (by kernel_rfl) (by kernel_rfl),call93⟩

def kd (qa0:List UInt8) (qa1:Int) (qa2:Int):Option (Int×List UInt8×Int×Int) :=
 cond (!decide (qa2=0)) (some ((0,qa0,qa1,qa2))) ((en qa0).bind fun (i21,i22,i23)=>cond (!decide (i23=0)) (some ((0,qa0,qa1,i23))) ((subL qa0 i22 (qa0.length:Int)).bind fun y28=>some ((i21,y28,IntKind.wrap .i64 (qa1 + 1),qa2))))
def H9:Hn Tryz.prog := .tw 13 .nil (.cl mn [] (.tw 26 .nil .nil))
def LK:Spec:=⟨92,⟨[(0,.ptr 0 0),(1,.fn 93 [])],[bkN 115 [.dat .str,.dat Yq2,.dat Yq2]]⟩,[⟨[kdI 0],[bkC 0 115 [.dat .str,.dat Yq2,.dat Yq2]]⟩],fun x=>kd x.1 x.2.1 x.2.2⟩
def Ki:OkSpec Tryz.prog:=⟨LK,ae func92 H9 (by kernel_rfl) (by kernel_rfl),call92⟩

def bz (qa0:List UInt8) (qa1:Int) (qa2:Int):Option (Int×List UInt8×Int×Int) :=
 (kd qa0 qa1 qa2).bind fun (i17,s18,i19,i20)=>cond (decide (65536 < i17)) (some ((0,s18,i19,6))) (some ((i17,s18,i19,i20)))
def KR:Hn Tryz.prog := .cl Ki [] (.tw 7 .nil .nil)
def Jx:Spec:=⟨60,⟨[(0,.ptr 0 0)],[bkN 115 [.dat .str,.dat Yq2,.dat Yq2]]⟩,[⟨[kdI 0],[bkC 0 115 [.dat .str,.dat Yq2,.dat Yq2]]⟩],fun x=>bz x.1 x.2.1 x.2.2⟩
def jY:OkSpec Tryz.prog:=⟨Jx,ae func60 KR (by kernel_rfl) (by kernel_rfl),call60⟩

def cY (qa0:List UInt8) (qa1:Int):Option (Int×Int×Int) :=
 (subL qa0 qa1 (qa0.length:Int)).bind fun y75=>(en y75).bind fun (i79,i80,i81)=>some ((i79,i81,IntKind.wrap .i64 (qa1 + i80)))
def Lr:Hn Tryz.prog := .mix [([0,1,2,3,4,5,6,7,8],9)] [10,11,12,13,14,15,16] [] [] (.cl mn [] .nil)
def LF:Spec:=⟨98,⟨[(0,.ptr 0 0)],[bkN 157 [.is 1 (.dat .str),.dat Yq2],bkM]⟩,[⟨[(0,.tup [.dat Yq2,.dat Yq2])],[bkC 0 157 [.is 1 (.any),.dat Yq2],bkU 1]⟩],fun x=>cY x.1 x.2⟩
def mj:OkSpec Tryz.prog:=⟨LF,ae func98 Lr (by kernel_rfl) (by kernel_rfl),call98⟩

def iF (xb:Int) (qa0:List UInt8) (qa1:Int):Option (Int×Int×Int) :=
 (cY qa0 qa1).bind fun (i17,i18,i19)=>cond ((decide (i18=0))&&(decide (xb < i17))) (some ((0,6,i19))) (some ((i17,i18,i19)))
def JD:Hn Tryz.prog := .cl mj [] (.gp 3 (.tw 19 .nil .nil))
def Ll:Spec:=⟨133,⟨[(0,.ptr 0 0),kdI 1],[bkN 157 [.is 1 (.dat .str),.dat Yq2],bkM]⟩,[⟨[(0,.tup [.dat Yq2,.dat Yq2])],[bkC 0 157 [.is 1 (.any),.dat Yq2],bkU 1]⟩],fun x=>iF x.1 x.2.1 x.2.2⟩
def uF:OkSpec Tryz.prog:=⟨Ll,ae func133 JD (by kernel_rfl) (by kernel_rfl),call133⟩
def dZ (qa0:List UInt8) (i1:Int):(Tq7×Int×Int×Int)->Option ((Tq7×Int×Int×Int)⊕(Tq7×Int×Int)):=fun (l2,i3,i4,i5)=>cond ((decide (i4 < i1))&&(decide (i3=0))) ((cY qa0 i5).bind fun (i6,i7,i9)=>(cond (decide (i7=0)) ((cY qa0 i9).bind fun (i10,i11,i12)=>some ((i11,i12,i10))) (some ((i7,i9,0))):Option (Int×Int×Int)).bind fun (i13,i14,i15)=>(app l2 (([(i6,i15)]:List (Int×Int)))).bind fun z16=>some (.inl ((z16,i13,IntKind.wrap .i64 (i4 + 1),i14)))) (some (.inr (((l2,i3,i5)))))
def iE (xb:Int) (qa0:List UInt8) (qa1:Int):Option ((Tq7×Int×Int)) :=
 (iF xb qa0 qa1).bind fun (i2,i3,i4)=>(loop (dZ qa0 i2) ([],i3,0,i4)).bind fun (l5,i6,i7)=>some ((l5,i6,i7))
def L3:Hn Tryz.prog := .cl uF [] (.jn [] ⟨[(6,.own 84 Yq7),kdI 8],[bkC 0 157 [.is 1 (.any),.dat Yq2],bkU 1]⟩ [0] (.lp ⟨[(6,.own 84 Yq7),kdI 8,kdI 9],[bkC 0 157 [.is 1 (.any),.dat Yq2],bkU 1]⟩ (.wt 20 (.gp 2 (.tw 23 (.cl mj [] (.sq [(8,0)] ⟨[kdI 8],[bkC 0 157 [.is 2 (.any),.dat Yq2],bkC 8 84 [.is 3 (.any),.dat Yq2],bkU 1,bkU 13]⟩ [8,0] (.tw 33 (.cl mj [] .nil) .nil) .nil)) .nil)))) .nil)
def Kk:Spec:=⟨100,⟨[(0,.ptr 0 0),kdI 1],[bkN 157 [.is 1 (.dat .str),.dat Yq2],bkM]⟩,[⟨[(0,.tup [.own 84 Yq7,.dat Yq2])],[bkC 0 157 [.is 1 (.any),.dat Yq2],bkU 1]⟩],fun x=>iE x.1 x.2.1 x.2.2⟩
def Ak:OkSpec Tryz.prog:=⟨Kk,ae func100 L3 (by kernel_rfl) (by kernel_rfl),call100⟩

def mW (xa:aT) (xb:Int):Option ((Tq7×Int×Int)) :=
 (iE xb xa 0).bind fun (l25,i26,i27)=>cond (!decide (i26=0)) (some (([],0,i26))) (some ((l25,i27,0)))
def Ka:Hn Tryz.prog := .mc 0 0 2 (.cl Ak [] (.tw 18 .nil (.mix [] [0,1,2,3,4,5] [] [] .nil)))
def I3:Spec:=⟨94,⟨[(0,.dat .str),kdI 1],[]⟩,[⟨[(0,.tup [.own 84 Yq7,.dat Yq2,.dat Yq2])],[]⟩],fun x=>mW x.1 x.2⟩
def H6:OkSpec Tryz.prog:=⟨I3,ae func94 Ka (by kernel_rfl) (by kernel_rfl),call94⟩

def ko (xa:aT):Option ((Tq7×Int×Int)) :=
 (mW xa 65536).bind fun (l22,i23,i24)=>some ((l22,i23,i24))
def J7:Hn Tryz.prog := .cl H6 [] .nil
def Jq:Spec:=⟨62,⟨[(0,.dat .str)],[]⟩,[⟨[(0,.tup [.own 84 Yq7,.dat Yq2,.dat Yq2])],[]⟩],fun x=>ko x⟩
def I6:OkSpec Tryz.prog:=⟨Jq,ae func62 J7 (by kernel_rfl) (by kernel_rfl),call62⟩

def j8 (qa0:List UInt8) (qa1:Int) (qa2:Int):Option ((Tq7×List UInt8×Int×Int)) :=
 cond (!decide (qa2=0)) (some (([],qa0,qa1,qa2))) ((ko qa0).bind fun (l29,i30,i31)=>cond (!decide (i31=0)) (some (([],qa0,qa1,i31))) ((subL qa0 i30 (qa0.length:Int)).bind fun y41=>some ((l29,y41,IntKind.wrap .i64 (qa1 + 1),qa2))))
def Js:Hn Tryz.prog := .tw 13 .nil (.cl I6 [] (.tw 26 .nil .nil))
def K9:Spec:=⟨61,⟨[(0,.ptr 0 0),(1,.fn 62 [])],[bkN 115 [.dat .str,.dat Yq2,.dat Yq2]]⟩,[⟨[(0,.own 84 Yq7)],[bkC 0 115 [.dat .str,.dat Yq2,.dat Yq2]]⟩],fun x=>j8 x.1 x.2.1 x.2.2⟩
def J4:OkSpec Tryz.prog:=⟨K9,ae func61 Js (by kernel_rfl) (by kernel_rfl),call61⟩
def eZ (qa0:List UInt8) (i1:Int):(Int×Int×Int×Tq3)->Option ((Int×Int×Int×Tq3)⊕(Int×Int×Tq3)):=fun (i2,i3,i4,l5)=>cond ((decide (i3 < i1))&&(decide (i2=0))) ((cY qa0 i4).bind fun (i6,i7,i9)=>(app l5 (([(IntKind.wrap .i64 (aq0 i6 2),decide ((aB0 i6 2)=1))]:List (Int×Bool)))).bind fun z10=>some (.inl ((i7,IntKind.wrap .i64 (i3 + 1),i9,z10)))) (some (.inr (((i2,i4,l5)))))
def fa (qa0:List UInt8) (qa1:Int):Option ((Tq3×Int×Int)) :=
 (iF 16 qa0 qa1).bind fun (i2,i3,i4)=>(loop (eZ qa0 i2) (i3,0,i4,[])).bind fun (i5,i6,l7)=>some ((l7,i5,i6))
def I1:Hn Tryz.prog := .cl uF [] (.jn [] ⟨[kdI 6],[bkC 0 157 [.is 2 (.any),.dat Yq2],bkC 5 26 [.own 95 Yq3],bkU 1]⟩ [0,5] (.lp ⟨[kdI 6,kdI 7],[bkC 0 157 [.is 2 (.any),.dat Yq2],bkC 5 26 [.own 95 Yq3],bkU 1]⟩ (.wt 17 (.gp 2 (.tw 20 (.cl mj [] .nil) .nil)))) .nil)
def LD:Spec:=⟨95,⟨[(0,.ptr 0 0)],[bkN 157 [.is 1 (.dat .str),.dat Yq2],bkM]⟩,[⟨[(0,.tup [.agg [.own 95 Yq3],.dat Yq2])],[bkC 0 157 [.is 1 (.any),.dat Yq2],bkU 1]⟩],fun x=>fa x.1 x.2⟩
def uA:OkSpec Tryz.prog:=⟨LD,ae func95 I1 (by kernel_rfl) (by kernel_rfl),call95⟩

def kz (xa:aT):Option ((Tq3×Int×Int)) :=
 (fa xa 0).bind fun (l28,i29,i30)=>cond (!decide (i29=0)) (some (([],0,i29))) (some ((l28,i30,0)))
def Lv:Hn Tryz.prog := .mc 2 0 4 (.cl uA [] (.tw 15 .nil (.mix [([0,1,2],3)] [4,5] [] [0] .nil)))
def Kl:Spec:=⟨64,⟨[(0,.dat .str)],[]⟩,[⟨[(0,.tup [.agg [.own 95 Yq3],.dat Yq2,.dat Yq2])],[]⟩],fun x=>kz x⟩
def LS:OkSpec Tryz.prog:=⟨Kl,ae func64 Lv (by kernel_rfl) (by kernel_rfl),call64⟩

def fV (qa0:List UInt8) (qa1:Int) (qa2:Int):Option ((Tq3×List UInt8×Int×Int)) :=
 cond (!decide (qa2=0)) (some (([],qa0,qa1,qa2))) ((kz qa0).bind fun (l35,i36,i37)=>cond (!decide (i37=0)) (some (([],qa0,qa1,i37))) ((subL qa0 i36 (qa0.length:Int)).bind fun y48=>some ((l35,y48,IntKind.wrap .i64 (qa1 + 1),qa2))))
def KS:Hn Tryz.prog := .tw 13 .nil (.cl LS [] (.tw 26 .nil .nil))
def JR:Spec:=⟨65,⟨[(0,.ptr 0 0),(1,.fn 64 [])],[bkN 115 [.dat .str,.dat Yq2,.dat Yq2]]⟩,[⟨[(0,.agg [.own 95 Yq3])],[bkC 0 115 [.dat .str,.dat Yq2,.dat Yq2]]⟩],fun x=>fV x.1 x.2.1 x.2.2⟩
def Aj:OkSpec Tryz.prog:=⟨JR,ae func65 KS (by kernel_rfl) (by kernel_rfl),call65⟩
def my (i1:Int):((List Tq3)×Int×List UInt8×Int×Int)->Option (((List Tq3)×Int×List UInt8×Int×Int)⊕((List Tq3)×List UInt8×Int×Int)):=fun (l2,i3,s4,i5,i6)=>cond ((decide (i3 < i1))&&(decide (i6=0))) ((fV s4 i5 i6).bind fun (l7,s9,i10,i11)=>(app (l2:List Tq3) (([l7]:List Tq3):List Tq3)).bind fun z12=>some (.inl ((z12,IntKind.wrap .i64 (i3 + 1),s9,i10,i11)))) (some (.inr (((l2,s4,i5,i6)))))
def j9 (qa0:List UInt8) (qa1:Int) (qa2:Int):Option (((List Tq3)×List UInt8×Int×Int)) :=
 (bz qa0 qa1 qa2).bind fun (i3,s4,i5,i6)=>(loop (my i3) ([],0,s4,i5,i6)).bind fun (l7,s9,i10,i11)=>some ((l7,s9,i10,i11))
def KT:Hn Tryz.prog := .cl jY [] (.jn [] ⟨[(5,.od (.row 26 (.one (.row 95 (.dat Yq3)))))],[bkC 0 115 [.dat .str,.dat Yq2,.dat Yq2]]⟩ [0] (.lp ⟨[(5,.od (.row 26 (.one (.row 95 (.dat Yq3))))),kdI 7],[bkC 0 115 [.dat .str,.dat Yq2,.dat Yq2]]⟩ (.wt 13 (.gp 5 (.tw 19 (.cl Aj [] (.ot (.one (.row 95 (.dat Yq3))) (.ot (.one (.row 95 (.dat Yq3))) .nil))) .nil)))) .nil)
def Jk:Spec:=⟨63,⟨[(0,.ptr 0 0),(1,.fn 64 [])],[bkN 115 [.dat .str,.dat Yq2,.dat Yq2]]⟩,[⟨[(0,.od (.row 26 (.one (.row 95 (.dat Yq3)))))],[bkC 0 115 [.dat .str,.dat Yq2,.dat Yq2]]⟩],fun x=>j9 x.1 x.2.1 x.2.2⟩
def I4:OkSpec Tryz.prog:=⟨Jk,ae func63 KT (by kernel_rfl) (by kernel_rfl),call63⟩

def qI (qa0:List UInt8) (qa1:Int) (qb0:Int) (qc0:Int):Option (Int×Int×Int) :=
 (cY qa0 qa1).bind fun (i14,i15,i17)=>some ((i17,i14,i15))
def JF:Hn Tryz.prog := .cl mj [] .nil
def J0:Spec:=⟨97,⟨[(0,.ptr 0 0),(1,.ptr 1 0),(2,.ptr 2 0)],[bkN 157 [.is 3 (.dat .str),.dat Yq2],bkN 55 [.dat Yq2,.nils,.nils,.nils],bkN 36 [.dat Yq2],bkM]⟩,[⟨[],[bkC 0 157 [.is 3 (.any),.dat Yq2],bkC 1 55 [.dat Yq2,.nils,.nils,.nils],bkC 2 36 [.dat Yq2],bkU 3]⟩],fun x=>qI x.1 x.2.1 x.2.2.1 x.2.2.2⟩
def JZ:OkSpec Tryz.prog:=⟨J0,ae func97 JF (by kernel_rfl) (by kernel_rfl),call97⟩

def qG (qa0:List UInt8) (qa1:Int) (qb0:Int) (qc0:Int):Option ((Int×Tq7×Int)) :=
 (iE 16 qa0 qa1).bind fun (l22,i23,i24)=>some ((i24,l22,i23))
def Ln:Hn Tryz.prog := .cl Ak [] .nil
def Mb:Spec:=⟨99,⟨[(0,.ptr 0 0),(1,.ptr 1 0),(2,.ptr 2 0)],[bkN 157 [.is 3 (.dat .str),.dat Yq2],bkN 55 [.is 4 (.dat Yq2),.nils,.nils,.nils],bkN 36 [.dat Yq2],bkM,bkM]⟩,[⟨[],[bkC 0 157 [.is 3 (.any),.dat Yq2],bkC 1 55 [.is 4 (.any),.own 84 Yq7,.nils,.nils],bkC 2 36 [.dat Yq2],bkU 3,bkU 4]⟩],fun x=>qG x.1 x.2.1 x.2.2.1 x.2.2.2⟩
def LU:OkSpec Tryz.prog:=⟨Mb,ae func99 Ln (by kernel_rfl) (by kernel_rfl),call99⟩
def eY (qa0:List UInt8) (i1:Int):((List Tq3)×Int×Int×Int)->Option (((List Tq3)×Int×Int×Int)⊕((List Tq3)×Int×Int)):=fun (l2,i3,i4,i5)=>cond ((decide (i4 < i1))&&(decide (i3=0))) ((fa qa0 i5).bind fun (l6,i7,i9)=>(app l2 (([l6]:List Tq3))).bind fun z10=>some (.inl ((z10,i7,IntKind.wrap .i64 (i4 + 1),i9)))) (some (.inr (((l2,i3,i5)))))
def mN (qa0:List UInt8) (qa1:Int):Option (((List Tq3)×Int×Int)) :=
 (iF 16 qa0 qa1).bind fun (i2,i3,i4)=>(loop (eY qa0 i2) ([],i3,0,i4)).bind fun (l5,i6,i7)=>some ((l5,i6,i7))
def I9:Hn Tryz.prog := .cl uF [] (.jn [] ⟨[(4,.own 26 Yq8),kdI 6],[bkC 0 157 [.is 1 (.any),.dat Yq2],bkU 1]⟩ [0] (.lp ⟨[(4,.own 26 Yq8),kdI 6,kdI 7],[bkC 0 157 [.is 1 (.any),.dat Yq2],bkU 1]⟩ (.wt 17 (.gp 2 (.tw 20 (.cl uA [] (.per 11 12 .nil)) .nil)))) .nil)
def KQ:Spec:=⟨102,⟨[(0,.ptr 0 0)],[bkN 157 [.is 1 (.dat .str),.dat Yq2],bkM]⟩,[⟨[(0,.tup [.own 26 Yq8,.dat Yq2])],[bkC 0 157 [.is 1 (.any),.dat Yq2],bkU 1]⟩],fun x=>mN x.1 x.2⟩
def IP:OkSpec Tryz.prog:=⟨KQ,ae func102 I9 (by kernel_rfl) (by kernel_rfl),call102⟩

def qJ (qa0:List UInt8) (qa1:Int) (qb0:Int) (qb1:Tq7) (qc0:Int):Option ((Int×Tq7×(List Tq3)×Int)) :=
 (mN qa0 qa1).bind fun (l27,i28,i29)=>some ((i29,qb1,l27,i28))
def Jz:Hn Tryz.prog := .cl IP [] .nil
def I7:Spec:=⟨101,⟨[(0,.ptr 0 0),(1,.ptr 1 0),(2,.ptr 2 0)],[bkN 157 [.is 3 (.dat .str),.dat Yq2],bkN 55 [.is 4 (.dat Yq2),.own 84 Yq7,.nils,.nils],bkN 36 [.dat Yq2],bkM,bkM]⟩,[⟨[],[bkC 0 157 [.is 3 (.any),.dat Yq2],bkC 1 55 [.is 4 (.any),.own 84 Yq7,.own 26 Yq8,.nils],bkC 2 36 [.dat Yq2],bkU 3,bkU 4]⟩],fun x=>qJ x.1 x.2.1 x.2.2.1 x.2.2.2.1 x.2.2.2.2⟩
def KG:OkSpec Tryz.prog:=⟨I7,ae func101 Jz (by kernel_rfl) (by kernel_rfl),call101⟩

def qF (qa0:List UInt8) (qa1:Int) (qb0:Int) (qb1:Tq7) (qb2:(List Tq3)) (qc0:Int):Option ((Int×Tq7×(List Tq3)×Tq3×Int)) :=
 (fa qa0 qa1).bind fun (l32,i33,i34)=>some ((i34,qb1,qb2,l32,i33))
def Iv:Hn Tryz.prog := .cl uA [] .nil
def Kt:Spec:=⟨103,⟨[(0,.ptr 0 0),(1,.ptr 1 0),(2,.ptr 2 0)],[bkN 157 [.is 3 (.dat .str),.dat Yq2],bkN 55 [.is 4 (.dat Yq2),.own 84 Yq7,.own 26 Yq8,.nils],bkN 36 [.dat Yq2],bkM,bkM]⟩,[⟨[],[bkC 0 157 [.is 3 (.any),.dat Yq2],bkC 1 55 [.is 4 (.any),.own 84 Yq7,.own 26 Yq8,.own 95 Yq3],bkC 2 36 [.dat Yq2],bkU 3,bkU 4]⟩],fun x=>qF x.1 x.2.1 x.2.2.1 x.2.2.2.1 x.2.2.2.2.1 x.2.2.2.2.2⟩
def Ik:OkSpec Tryz.prog:=⟨Kt,ae func103 Iv (by kernel_rfl) (by kernel_rfl),call103⟩

def iZ (xa:aT):Option ((Int×Tq7×(List Tq3)×Tq3×Int×Int)) :=
 (qI xa 0 0 0).bind fun (i98,i99,i1)=>cond (!decide (i1=0)) (some ((0,[],[],[],0,i1))) ((qG xa i98 i99 i1).bind fun (i2,l3,i4)=>cond (!decide (i4=0)) (some ((0,[],[],[],0,i4))) ((qJ xa i2 i99 l3 i4).bind fun (i5,l6,l7,i9)=>cond (!decide (i9=0)) (some ((0,[],[],[],0,i9))) ((qF xa i5 i99 l6 l7 i9).bind fun (i10,l11,l12,l13,i14)=>cond (!decide (i14=0)) (some ((0,[],[],[],0,i14))) (some ((i99,l11,l12,l13,i10,0))))))
def LA:Hn Tryz.prog := .un 64 (.wt 1000011 (.mc 2 0 4 (.cl JZ [] (.tw 27 (.mix [([0,1],2)] [3,4] [] [0] .nil) (.wt 1000018 (.mc 5 0 16 (.cl LU [] (.tw 27 (.mix [([0,1],2)] [3,4] [] [0] .nil) (.cl KG [] (.tw 27 (.mix [([0,1],2)] [3,4] [] [0] .nil) (.cl Ik [] (.tw 27 (.mix [([0,1],2)] [3,4] [] [0] .nil) (.mix [([0,1,2],3)] [4,5] [] [0] .nil)))))))))))))
def Jv:Spec:=⟨67,⟨[(0,.dat .str)],[]⟩,[⟨[(0,.tup [.agg [.dat Yq2,.own 84 Yq7,.own 26 Yq8,.own 95 Yq3],.dat Yq2,.dat Yq2])],[]⟩],fun x=>iZ x⟩
def H5:OkSpec Tryz.prog:=⟨Jv,ae func67 LA (by kernel_rfl) (by kernel_rfl),call67⟩

def mH (qa0:List UInt8) (qa1:Int) (qa2:Int):Option ((Int×Tq7×(List Tq3)×Tq3×List UInt8×Int×Int)) :=
 cond (!decide (qa2=0)) (some ((0,[],[],[],qa0,qa1,qa2))) ((iZ qa0).bind fun (i58,l59,l60,l61,i62,i63)=>cond (!decide (i63=0)) (some ((0,[],[],[],qa0,qa1,i63))) ((subL qa0 i62 (qa0.length:Int)).bind fun y84=>some ((i58,l59,l60,l61,y84,IntKind.wrap .i64 (qa1 + 1),qa2))))
def IU:Hn Tryz.prog := .tw 13 .nil (.cl H5 [] (.tw 26 .nil .nil))
def La:Spec:=⟨96,⟨[(0,.ptr 0 0),(1,.fn 67 [])],[bkN 115 [.dat .str,.dat Yq2,.dat Yq2]]⟩,[⟨[(0,.agg [.dat Yq2,.own 84 Yq7,.own 26 Yq8,.own 95 Yq3])],[bkC 0 115 [.dat .str,.dat Yq2,.dat Yq2]]⟩],fun x=>mH x.1 x.2.1 x.2.2⟩
def JC:OkSpec Tryz.prog:=⟨La,ae func96 IU (by kernel_rfl) (by kernel_rfl),call96⟩
def mA (i1:Int):((List Tq5)×Int×List UInt8×Int×Int)->Option (((List Tq5)×Int×List UInt8×Int×Int)⊕((List Tq5)×List UInt8×Int×Int)):=fun (l2,i3,s4,i5,i6)=>cond ((decide (i3 < i1))&&(decide (i6=0))) ((mH s4 i5 i6).bind fun (i7,l9,l10,l11,s12,i13,i14)=>(app l2 (([(i7,l9,l10,l11)]:List Tq5))).bind fun z15=>some (.inl ((z15,IntKind.wrap .i64 (i3 + 1),s12,i13,i14)))) (some (.inr (((l2,s4,i5,i6)))))
def kb (qa0:List UInt8) (qa1:Int) (qa2:Int):Option (((List Tq5)×List UInt8×Int×Int)) :=
 (bz qa0 qa1 qa2).bind fun (i3,s4,i5,i6)=>(loop (mA i3) ([],0,s4,i5,i6)).bind fun (l7,s9,i10,i11)=>some ((l7,s9,i10,i11))
def Jg:Hn Tryz.prog := .cl jY [] (.jn [] ⟨[(5,.own 55 Yq4)],[bkC 0 115 [.dat .str,.dat Yq2,.dat Yq2]]⟩ [0] (.lp ⟨[(5,.own 55 Yq4),kdI 7],[bkC 0 115 [.dat .str,.dat Yq2,.dat Yq2]]⟩ (.wt 13 (.gp 5 (.tw 19 (.cl JC [] (.per 8 9 (.per 10 11 (.per 12 13 .nil)))) .nil)))) .nil)
def Iz:Spec:=⟨66,⟨[(0,.ptr 0 0),(1,.fn 67 [])],[bkN 115 [.dat .str,.dat Yq2,.dat Yq2]]⟩,[⟨[(0,.own 55 Yq4)],[bkC 0 115 [.dat .str,.dat Yq2,.dat Yq2]]⟩],fun x=>kb x.1 x.2.1 x.2.2⟩
def IY:OkSpec Tryz.prog:=⟨Iz,ae func66 Jg (by kernel_rfl) (by kernel_rfl),call66⟩

def d5 (xa:Bool) (qa0:Int) (qb0:List UInt8) (qc0:Int):Option (Int×Int×Int) :=
 cond ((!xa)||(!decide (qa0=0))) (some ((0,qa0,qc0))) ((subL qb0 qc0 (qb0.length:Int)).bind fun y22=>(en y22).bind fun (i26,i27,i28)=>some ((i26,i28,IntKind.wrap .i64 (qc0 + i27))))
def L4:Hn Tryz.prog := .gp 2 (.tw 14 .nil (.cl mn [] .nil))
def I2:Spec:=⟨106,⟨[kdB 0,(1,.ptr 0 0),(2,.ptr 1 0),(3,.ptr 2 0)],[bkN 36 [.dat Yq2],bkN 9 [.is 3 (.dat .str)],bkN 3 [.dat Yq2],bkM]⟩,[⟨[kdI 0],[bkC 0 36 [.dat Yq2],bkC 1 9 [.is 3 (.any)],bkC 2 3 [.dat Yq2],bkU 3]⟩],fun x=>d5 x.1 x.2.1 x.2.2.1 x.2.2.2⟩
def uy:OkSpec Tryz.prog:=⟨I2,ae func106 L4 (by kernel_rfl) (by kernel_rfl),call106⟩

def kS (xa:aT):Option (Int×Int×Int×Int×Bool×Int×Int) :=
 (en xa).bind fun (i62,i63,i65)=>cond (!decide (i65=0)) (some ((0,0,0,0,false,0,i65))) ((ky i62).bind fun (t74,t75,t76,t77)=>cond (!t77) (some ((0,0,0,0,false,0,3))) ((d5 t74 i65 xa i63).bind fun (i86,i87,i88)=>(d5 t75 i87 xa i88).bind fun (i94,i95,i96)=>(d5 t76 i95 xa i96).bind fun (i1,i2,i3)=>cond (!decide (i2=0)) (some ((0,0,0,0,false,0,i2))) (some ((i62,i86,i94,IntKind.wrap .i64 (aq0 i1 2),decide ((aB0 i1 2)=1),i3,0)))))
def Ib:Hn Tryz.prog := .cl mn [] (.tw 20 (.mix [([0,1],2)] [3,4] [] [2] .nil) (.cl zU [] (.tw 29 .nil (.wt 1000016 (.mc 0 0 1 (.cl uy [] (.cl uy [] (.cl uy [] (.tw 56 (.mix [([0,1],2)] [3,4] [] [2] .nil) (.mix [([0,1],2)] [3,4] [] [2] .nil))))))))))
def KU:Spec:=⟨69,⟨[(0,.dat .str)],[]⟩,[⟨[(0,.tup [.agg [.dat Yq2,.dat Yq2,.dat Yq2,.dat Yq2,.dat .bool],.dat Yq2,.dat Yq2])],[]⟩],fun x=>kS x⟩
def IH:OkSpec Tryz.prog:=⟨KU,ae func69 Ib (by kernel_rfl) (by kernel_rfl),call69⟩

def mD (qa0:List UInt8) (qa1:Int) (qa2:Int):Option (Int×Int×Int×Int×Bool×List UInt8×Int×Int) :=
 cond (!decide (qa2=0)) (some ((0,0,0,0,false,qa0,qa1,qa2))) ((kS qa0).bind fun (i34,i35,i36,i37,t38,i39,i40)=>cond (!decide (i40=0)) (some ((0,0,0,0,false,qa0,qa1,i40))) ((subL qa0 i39 (qa0.length:Int)).bind fun y46=>some ((i34,i35,i36,i37,t38,y46,IntKind.wrap .i64 (qa1 + 1),qa2))))
def Kx:Hn Tryz.prog := .tw 13 .nil (.cl IH [] (.tw 26 .nil .nil))
def Kf:Spec:=⟨104,⟨[(0,.ptr 0 0),(1,.fn 69 [])],[bkN 115 [.dat .str,.dat Yq2,.dat Yq2]]⟩,[⟨[(0,.agg [.dat Yq2,.dat Yq2,.dat Yq2,.dat Yq2,.dat .bool])],[bkC 0 115 [.dat .str,.dat Yq2,.dat Yq2]]⟩],fun x=>mD x.1 x.2.1 x.2.2⟩
def K8:OkSpec Tryz.prog:=⟨Kf,ae func104 Kx (by kernel_rfl) (by kernel_rfl),call104⟩
def mz (i1:Int):((List Tq4)×Int×List UInt8×Int×Int)->Option (((List Tq4)×Int×List UInt8×Int×Int)⊕((List Tq4)×List UInt8×Int×Int)):=fun (l2,i3,s4,i5,i6)=>cond ((decide (i3 < i1))&&(decide (i6=0))) ((mD s4 i5 i6).bind fun (i7,i9,i10,i11,t12,s13,i14,i15)=>(app l2 (([(i7,i9,i10,i11,t12)]:List Tq4))).bind fun z16=>some (.inl ((z16,IntKind.wrap .i64 (i3 + 1),s13,i14,i15)))) (some (.inr (((l2,s4,i5,i6)))))
def mB (qa0:List UInt8) (qa1:Int) (qa2:Int):Option (((List Tq4)×List UInt8×Int×Int)) :=
 (bz qa0 qa1 qa2).bind fun (i3,s4,i5,i6)=>(loop (mz i3) ([],0,s4,i5,i6)).bind fun (l7,s9,i10,i11)=>some ((l7,s9,i10,i11))
def H3:Hn Tryz.prog := .cl jY [] (.jn [] ⟨[(5,.own 63 Yq6)],[bkC 0 115 [.dat .str,.dat Yq2,.dat Yq2]]⟩ [0] (.lp ⟨[(5,.own 63 Yq6),kdI 7],[bkC 0 115 [.dat .str,.dat Yq2,.dat Yq2]]⟩ (.wt 13 (.gp 5 (.tw 19 (.cl K8 [] .nil) .nil)))) .nil)
def IO:Spec:=⟨68,⟨[(0,.ptr 0 0),(1,.fn 69 [])],[bkN 115 [.dat .str,.dat Yq2,.dat Yq2]]⟩,[⟨[(0,.own 63 Yq6)],[bkC 0 115 [.dat .str,.dat Yq2,.dat Yq2]]⟩],fun x=>mB x.1 x.2.1 x.2.2⟩
def Km:OkSpec Tryz.prog:=⟨IO,ae func68 H3 (by kernel_rfl) (by kernel_rfl),call68⟩

def ci (qa0:List UInt8) (qa1:Int) (qa2:Int):Option (Int×Int×Int) :=
 cond (!decide (qa2=0)) (some ((0,qa1,qa2))) ((subL qa0 qa1 (qa0.length:Int)).bind fun y77=>(en y77).bind fun (i81,i82,i83)=>some ((i81,IntKind.wrap .i64 (qa1 + i82),i83)))
def Me:Hn Tryz.prog := .tw 10 .nil (.mix [([0,1,2,3,4,5,6,7,8],9)] [10,11,12,13,14,15,16] [] [] (.cl mn [] .nil))
def Ku:Spec:=⟨107,⟨[(0,.ptr 0 0)],[bkN 178 [.is 1 (.dat .str),.dat Yq2,.dat Yq2],bkM]⟩,[⟨[kdI 0],[bkC 0 178 [.is 1 (.any),.dat Yq2,.dat Yq2],bkU 1]⟩],fun x=>ci x.1 x.2.1 x.2.2⟩
def iB:OkSpec Tryz.prog:=⟨Ku,ae func107 Me (by kernel_rfl) (by kernel_rfl),call107⟩
def fW (qa0:List UInt8) (i1:Int):((List Int)×Int×Int×Int)->Option (((List Int)×Int×Int×Int)⊕((List Int)×Int×Int)):=fun (l2,i3,i4,i5)=>cond ((decide (i3 < i1))&&(decide (i5=0))) ((ci qa0 i4 i5).bind fun (i6,i7,i9)=>(app l2 ([i6]:List Int)).bind fun z10=>some (.inl ((z10,IntKind.wrap .i64 (i3 + 1),i7,i9)))) (some (.inr (((l2,i4,i5)))))
def d6 (xb:Int) (qa0:List UInt8) (qa1:Int) (qa2:Int):Option (((List Int)×Int×Int)) :=
 (ci qa0 qa1 qa2).bind fun (i3,i4,i5)=>(cond (decide (xb < i3)) (some (6)) (some (i5)):Option Int).bind fun i6=>(loop (fW qa0 i3) ([],0,i4,i6)).bind fun (l7,i9,i10)=>some ((l7,i9,i10))
def Iu:Hn Tryz.prog := .cl iB [] (.sq [(0,1)] ⟨[],[bkC 0 178 [.is 1 (.any),.is 2 (.any),.dat Yq2],bkU 1,bkU 5]⟩ [0] (.tw 12 .nil .nil) (.jn [] ⟨[(6,.own 3 Yq2)],[bkC 0 178 [.is 1 (.any),.dat Yq2,.dat Yq2],bkU 1]⟩ [0] (.lp ⟨[(6,.own 3 Yq2),kdI 7],[bkC 0 178 [.is 1 (.any),.dat Yq2,.dat Yq2],bkU 1]⟩ (.wt 19 (.gp 5 (.tw 25 (.cl iB [] .nil) .nil)))) .nil))
def IW:Spec:=⟨134,⟨[(0,.ptr 0 0),kdI 1],[bkN 178 [.is 1 (.dat .str),.dat Yq2,.dat Yq2],bkM]⟩,[⟨[(0,.own 3 Yq2)],[bkC 0 178 [.is 1 (.any),.dat Yq2,.dat Yq2],bkU 1]⟩],fun x=>d6 x.1 x.2.1 x.2.2.1 x.2.2.2⟩
def pV:OkSpec Tryz.prog:=⟨IW,ae func134 Iu (by kernel_rfl) (by kernel_rfl),call134⟩

def mE (qa0:List UInt8) (qa1:Int) (qa2:Int) (qb0:Int) (qb1:Int) (qb2:Int):Option ((Int×Int×Int×Int×(List Int)×(List Int)×(List Int))) :=
 cond (decide (qb0=1)) ((ci qa0 qa1 qa2).bind fun (i3,i4,i5)=>some ((i4,i5,qb1,qb2,([i3]:List Int),[],[]))) (cond (decide (qb0=2)) ((d6 16 qa0 qa1 qa2).bind fun (l6,i7,i9)=>(cond ((decide (i9=0))&&(decide ((l6.length:Int)=0))) (some (3)) (some (i9)):Option Int).bind fun i10=>(d6 16 qa0 i7 i10).bind fun (l11,i12,i13)=>some ((i12,i13,qb1,qb2,l6,l11,[]))) (cond (decide (qb0=3)) (some ((qa1,qa2,qb1,qb2,[],[],[]))) (cond (decide (qb0=4)) ((ci qa0 qa1 qa2).bind fun (i14,i15,i16)=>(ci qa0 i15 i16).bind fun (i17,i18,i19)=>(ci qa0 i18 i19).bind fun (i20,i21,i22)=>(d6 16 qa0 i21 i22).bind fun (l23,i24,i25)=>(d6 16 qa0 i24 i25).bind fun (l26,i27,i28)=>some ((i27,i28,i14,i17,([i20]:List Int),l26,l23))) (some ((qa1,3,qb1,qb2,[],[],[]))))))
def KB:Hn Tryz.prog := .tw 11 (.cl iB [] .nil) (.tw 19 (.cl pV [] (.sq [(0,1)] ⟨[],[bkC 0 178 [.is 1 (.any),.is 2 (.any),.dat Yq2],bkU 2,bkU 11]⟩ [0] (.wt 31 (.gp 6 (.tw 38 .nil .nil))) (.cl pV [] .nil))) (.tw 47 .nil (.tw 49 (.cl iB [] (.cl iB [] (.cl iB [] (.cl pV [] (.cl pV [] .nil))))) .nil)))
def K4:Spec:=⟨108,⟨[(0,.ptr 0 0),(1,.ptr 1 0)],[bkN 178 [.is 2 (.dat .str),.dat Yq2,.dat Yq2],bkN 59 [.is 3 (.dat Yq2),.dat Yq2,.dat Yq2,.nils,.nils,.nils],bkM,bkM]⟩,[⟨[],[bkC 0 178 [.is 2 (.any),.dat Yq2,.dat Yq2],bkC 1 59 [.is 3 (.any),.dat Yq2,.dat Yq2,.own 3 Yq2,.own 3 Yq2,.own 3 Yq2],bkU 2,bkU 3]⟩],fun x=>mE x.1 x.2.1 x.2.2.1 x.2.2.2.1 x.2.2.2.2.1 x.2.2.2.2.2⟩
def LH:OkSpec Tryz.prog:=⟨K4,ae func108 KB (by kernel_rfl) (by kernel_rfl),call108⟩

def cM (xa:aT):Option ((Int×Int×Int×(List Int)×(List Int)×(List Int)×Int×Int)) :=
 (ci xa 0 0).bind fun (i1,i2,i3)=>(cond (decide (i3=0)) ((mE xa i2 i3 i1 0 0).bind fun (i4,i5,i6,i7,l9,l10,l11)=>some ((i4,i5,i6,i7,l9,l10,l11))) (some ((i2,i3,0,0,[],[],[]))):Option ((Int×Int×Int×Int×(List Int)×(List Int)×(List Int)))).bind fun (i12,i13,i14,i15,l16,l17,l18)=>cond (!decide (i13=0)) (some ((0,0,0,[],[],[],0,i13))) (some ((i1,i14,i15,l16,l17,l18,i12,0)))
def Ic:Hn Tryz.prog := .mc 2 0 4 (.cl iB [] (.sq [(8,0)] ⟨[],[bkC 2 178 [.is 2 (.any),.dat Yq2,.dat Yq2],bkC 8 59 [.is 3 (.any),.dat Yq2,.dat Yq2,.own 3 Yq2,.own 3 Yq2,.own 3 Yq2],bkU 5,bkU 11]⟩ [8,2] (.tw 13 (.cl LH [] .nil) .nil) (.tw 17 (.mix [([0,1,2],3)] [4,5] [] [0] .nil) (.mix [([0,1,2],3)] [4,5] [] [0] .nil))))
def IN:Spec:=⟨71,⟨[(0,.dat .str)],[]⟩,[⟨[(0,.tup [.agg [.dat Yq2,.dat Yq2,.dat Yq2,.own 3 Yq2,.own 3 Yq2,.own 3 Yq2],.dat Yq2,.dat Yq2])],[]⟩],fun x=>cM x⟩
def Li:OkSpec Tryz.prog:=⟨IN,ae func71 Ic (by kernel_rfl) (by kernel_rfl),call71⟩

def ka (qa0:List UInt8) (qa1:Int) (qa2:Int):Option ((Int×Int×Int×(List Int)×(List Int)×(List Int)×List UInt8×Int×Int)) :=
 cond (!decide (qa2=0)) (some ((0,0,0,[],[],[],qa0,qa1,qa2))) ((cM qa0).bind fun (i63,i65,i66,l67,l68,l69,i70,i71)=>cond (!decide (i71=0)) (some ((0,0,0,[],[],[],qa0,qa1,i71))) ((subL qa0 i70 (qa0.length:Int)).bind fun y92=>some ((i63,i65,i66,l67,l68,l69,y92,IntKind.wrap .i64 (qa1 + 1),qa2))))
def IE:Hn Tryz.prog := .tw 13 .nil (.cl Li [] (.tw 26 .nil .nil))
def Ja:Spec:=⟨70,⟨[(0,.ptr 0 0),(1,.fn 71 [])],[bkN 115 [.dat .str,.dat Yq2,.dat Yq2]]⟩,[⟨[(0,.agg [.dat Yq2,.dat Yq2,.dat Yq2,.own 3 Yq2,.own 3 Yq2,.own 3 Yq2])],[bkC 0 115 [.dat .str,.dat Yq2,.dat Yq2]]⟩],fun x=>ka x.1 x.2.1 x.2.2⟩
def II:OkSpec Tryz.prog:=⟨Ja,ae func70 IE (by kernel_rfl) (by kernel_rfl),call70⟩
def iI (i1:Int):(Int×List UInt8×Int×Int×(List Tq2))->Option ((Int×List UInt8×Int×Int×(List Tq2))⊕(List UInt8×Int×Int×(List Tq2))):=fun (i2,s3,i4,i5,l6)=>cond ((decide (i2 < i1))&&(decide (i5=0))) ((mB s3 i4 i5).bind fun (l7,s9,i10,i11)=>(ka s9 i10 i11).bind fun (i12,i13,i14,l15,l16,l17,s18,i19,i20)=>(app (l6:List Tq2) (([(l7,(i12,i13,i14,l15,l16,l17))]:List Tq2):List Tq2)).bind fun z21=>some (.inl ((IntKind.wrap .i64 (i2 + 1),s18,i19,i20,z21)))) (some (.inr (((s3,i4,i5,l6)))))
def nh (xa:aT):Option me :=
 (mR xa ([109,105,114,1]:List UInt8)).bind fun (s1,t2)=>cond (!t2) (some ((0,0,[],[],[],[],[],12))) ((bz s1 0 0).bind fun (i3,s4,i5,i6)=>(bz s4 i5 i6).bind fun (i7,s9,i10,i11)=>(j8 s9 i10 i11).bind fun (l12,s13,i14,i15)=>(j9 s13 i14 i15).bind fun (l16,s17,i18,i19)=>(fV s17 i18 i19).bind fun (l20,s21,i22,i23)=>(kb s21 i22 i23).bind fun (l24,s25,i26,i27)=>(bz s25 i26 i27).bind fun (i28,s29,i30,i31)=>(loop (iI i28) (0,s29,i30,i31,[])).bind fun (s32,i33,i34,l35)=>(cond ((decide (i34=0))&&(!decide (s32=([]:List UInt8)))) (some (13)) (some (i34)):Option Int).bind fun i36=>cond (!decide (i36=0)) (some ((0,0,[],[],[],[],[],i36))) ((bc 0 i33).bind fun _=>some ((i3,i7,l12,l16,l20,l24,l35,0))))
def Lo:Hn Tryz.prog := .cl KF [] (.tw 19 .nil (.cl jY [] (.cl jY [] (.cl J4 [] (.cl I4 [] (.cl Aj [] (.cl IY [] (.cl jY [] (.jn [(4,0),(4,1),(4,2),(4,3),(4,4),(4,5)] ⟨[],[bkC 2 115 [.dat .str,.dat Yq2,.dat Yq2],bkC 4 30 [.is 2 (.any),.is 3 (.any),.is 4 (.any),.is 5 (.any),.is 6 (.any),.is 7 (.any),.od (.row 61 (.cons (.row 63 (.dat Yq6)) (.one (.dat Yq5))))],bkU 34,bkU 35,bkU 36,bkU 37,bkU 38,bkU 39]⟩ [2,4] (.lp ⟨[kdI 11],[bkC 2 115 [.dat .str,.dat Yq2,.dat Yq2],bkC 4 30 [.is 2 (.any),.is 3 (.any),.is 4 (.any),.is 5 (.any),.is 6 (.any),.is 7 (.any),.od (.row 61 (.cons (.row 63 (.dat Yq6)) (.one (.dat Yq5))))],bkU 34,bkU 35,bkU 36,bkU 37,bkU 38,bkU 39]⟩ (.wt 47 (.gp 5 (.tw 53 (.cl Km [] (.cl II [] (.per 52 53 (.per 54 55 (.per 56 57 (.ot (.cons (.row 63 (.dat Yq6)) (.one (.dat Yq5))) (.ot (.cons (.row 63 (.dat Yq6)) (.one (.dat Yq5))) .nil))))))) .nil)))) (.sq [(2,0),(2,1)] ⟨[],[bkC 2 115 [.is 1 (.any),.is 2 (.any),.dat Yq2],bkU 44,bkU 45]⟩ [2] (.wt 73 (.gp 5 (.tw 79 .nil .nil))) (.tw 87 (.mix [([0,1,2,3,4],5)] [6] [] [0] .nil) (.cl oQ3 [] .nil))))))))))))
def IR:Spec:=⟨31,⟨[(0,.dat .str),(1,.nilp)],[]⟩,[⟨[(0,.tup [.agg [.dat Yq2,.dat Yq2,.own 84 Yq7,.od (.row 26 (.one (.row 95 (.dat Yq3)))),.own 95 Yq3,.own 55 Yq4,.od (.row 61 (.cons (.row 63 (.dat Yq6)) (.one (.dat Yq5))))],.dat Yq2])],[]⟩],fun x=>nh x⟩
def JP:OkSpec Tryz.prog:=⟨IR,ae func31 Lo (by kernel_rfl) (by kernel_rfl),call31⟩

def gJ (xa:Tq1):Option (Tq1) :=
 (kZ xa).bind fun (s63,i65)=>(nh s63).bind fun (i71,i72,l73,l74,l75,l76,l77,i78)=>some ((i71,i72,l73,l74,l75,l76,l77))
def LE:Hn Tryz.prog := .cl Iq [] (.cl JP [] .nil)
def J8:Spec:=⟨19,⟨[(0,.dat Yq1)],[]⟩,[⟨[(0,.agg [.dat Yq2,.dat Yq2,.own 84 Yq7,.od (.row 26 (.one (.row 95 (.dat Yq3)))),.own 95 Yq3,.own 55 Yq4,.od (.row 61 (.cons (.row 63 (.dat Yq6)) (.one (.dat Yq5))))])],[]⟩],fun x=>gJ x⟩
def Ah:OkSpec Tryz.prog:=⟨J8,ae func19 LE (by kernel_rfl) (by kernel_rfl),call19⟩

def fd (xa:Int) (xb:Int):Option Bool :=
 some ((decide (0<=xa))&&(decide (xa < xb)))
def F1:Hn Tryz.prog := .gp 3 .nil
def G8:Spec:=⟨34,⟨[kdI 0,kdI 1],[]⟩,[⟨[kdB 0],[]⟩],fun x=>fd x.1 x.2⟩
def lO:OkSpec Tryz.prog:=⟨G8,ae func34 F1 (by kernel_rfl) (by kernel_rfl),call34⟩

def qw (xb:Int) (xc:Int) (qxa:(List Tq4)):Option ((List Tq4)) :=
 (bY qxa xb xc).bind fun y10=>some (y10)
def Gq:Spec:=⟨72,⟨[(0,.own 63 Yq6),kdI 1,kdI 2],[]⟩,[⟨[(0,.own 63 Yq6)],[]⟩],fun x=>qw x.2.1 x.2.2 x.1⟩
def FJ:OkSpec Tryz.prog:=⟨Gq,DX,call72⟩

def mC (xb:Int) (qxa:(List Tq4)) (qxc:(List Tq4)):Option ((List Tq4)) :=
 (eT qxa xb qxc).bind fun y10=>some (y10)
def GP:Spec:=⟨73,⟨[(0,.own 63 Yq6),kdI 1,(2,.own 63 Yq6)],[]⟩,[⟨[(0,.own 63 Yq6)],[]⟩],fun x=>mC x.2.1 x.1 x.2.2⟩
def pH:OkSpec Tryz.prog:=⟨GP,DY,call73⟩
def mJ (xb:Tq6) (x1:Tq2) (x2:Tq4) (qa6:(List Tq2)) (x3:Tq2):Option ((List Tq2)):=(aU xb.2.1 xb.2.1).bind fun _=>(mC xb.2.2.1 x1.1 (([x2]:List Tq4))).bind fun l4=>(aU xb.2.1 xb.2.1).bind fun _=>some ((qa6.set xb.2.1.toNat x3).set xb.2.1.toNat ((l4,x1.2)))
def mL (x1:Tq2) (xb:Tq6) (x2:Tq4) (x3:Tq4):Option ((List Tq4)):=(aa x1.1 xb.2.2.1).bind fun x4=>(some (x1.1.set xb.2.2.1.toNat x2)).bind fun z5=>(aa z5 (IntKind.wrap .i64 (xb.2.2.1 + 1))).bind fun x6=>(some (z5.set (IntKind.wrap .i64 (xb.2.2.1 + 1)).toNat x3)).bind fun z7=>some (z7)
def qA (xb:Tq6) (x1:Tq2) (x2:Tq4) (x3:Tq4):Option ((List Tq4)):=(aU xb.2.1 xb.2.1).bind fun _=>(mL x1 xb x2 x3).bind fun x4=>(mL x1 xb x2 x3).bind fun y5=>agr x4 y5 (some x4)
def iD (xb:Tq6) (x1:Tq2) (x2:Tq4) (x3:Tq4):Option ((List Tq4)):=(aU xb.2.1 xb.2.1).bind fun _=>(aa x1.1 xb.2.2.1).bind fun x4=>(some (x1.1.set xb.2.2.1.toNat x2)).bind fun z5=>(aa z5 (IntKind.wrap .i64 (xb.2.2.1 + 1))).bind fun x6=>(some (z5.set (IntKind.wrap .i64 (xb.2.2.1 + 1)).toNat x3)).bind fun z7=>some (z7)
def mM (xb:Tq6) (x1:Tq2) (x2:Tq4) (x3:Tq4):Option ((List Tq4)):=(iD xb x1 x2 x3).bind fun x4=>(iD xb x1 x2 x3).bind fun y5=>agr x4 y5 (some x4)
def qB (xb:Tq6) (x1:Tq2) (x2:Tq4) (x3:Tq4):Option ((List Tq4)):=(mM xb x1 x2 x3).bind fun x4=>(mM xb x1 x2 x3).bind fun y5=>agr x4 y5 (some x4)
def mI (xb:Tq6) (x1:Tq2) (x2:Tq4) (x3:Tq4):Option ((List Tq4)):=(aU xb.2.1 xb.2.1).bind fun _=>(qA xb x1 x2 x3).bind fun x4=>(qB xb x1 x2 x3).bind fun y5=>agr x4 y5 (some x4)
def mG (xb:Tq6) (x1:Tq2) (x2:Tq4) (x3:Tq4):Option ((List Tq4)):=(aU xb.2.1 xb.2.1).bind fun _=>(iD xb x1 x2 x3).bind fun x4=>(iD xb x1 x2 x3).bind fun y5=>agr x4 y5 (some x4)
def mK (xb:Tq6) (x1:Tq2) (x2:Tq4) (x3:Tq4):Option ((List Tq4)):=(aU xb.2.1 xb.2.1).bind fun _=>(aU xb.2.1 xb.2.1).bind fun _=>(aa x1.1 xb.2.2.1).bind fun x4=>(some (x1.1.set xb.2.2.1.toNat x2)).bind fun z5=>(aa z5 (IntKind.wrap .i64 (xb.2.2.1 + 1))).bind fun x6=>(some (z5.set (IntKind.wrap .i64 (xb.2.2.1 + 1)).toNat x3)).bind fun z7=>some (z7)
def qz (xb:Tq6) (x1:Tq2) (x2:Tq4) (x3:Tq4):Option ((List Tq4)):=(mK xb x1 x2 x3).bind fun x4=>(mK xb x1 x2 x3).bind fun y5=>agr x4 y5 (some x4)
def qy (xb:Tq6) (x1:Tq2) (x2:Tq4) (x3:Tq4):Option ((List Tq4)):=(mG xb x1 x2 x3).bind fun x4=>(qz xb x1 x2 x3).bind fun y5=>agr x4 y5 (some x4)
def mF (xb:Tq6) (x1:Tq2) (x2:Tq4) (x3:Tq4):Option ((List Tq4)):=(mG xb x1 x2 x3).bind fun x4=>(qy xb x1 x2 x3).bind fun y5=>agr x4 y5 (some x4)
def kc (xb:Tq6) (qa0:Int) (qa1:Int) (qa2:Tq7) (qa3:(List Tq3)) (qa4:Tq3) (qa5:(List Tq5)) (qa6:(List Tq2)):Option ((Bool×Tq7×(List Tq3)×Tq3×(List Tq5)×(List Tq2))) :=
 (fd xb.2.1 (qa6.length:Int)).bind fun t7=>cond (!t7) (some ((false,qa2,qa3,qa4,qa5,qa6))) ((aa qa6 xb.2.1).bind fun _=>(aa qa6 xb.2.1).bind fun x8=>(aU xb.2.1 xb.2.1).bind fun _=>(fd xb.2.2.1 (x8.1.length:Int)).bind fun t9=>cond (!t9) (some ((false,qa2,qa3,qa4,qa5,qa6.set xb.2.1.toNat ((x8.1,(x8.2.1,x8.2.2.1,x8.2.2.2.1,x8.2.2.2.2.1,x8.2.2.2.2.2.1,x8.2.2.2.2.2.2)))))) ((aa (qa6.set xb.2.1.toNat ((x8.1,(x8.2.1,x8.2.2.1,x8.2.2.2.1,x8.2.2.2.2.1,x8.2.2.2.2.2.1,x8.2.2.2.2.2.2)))) xb.2.1).bind fun _=>cond (decide (xb.1=1)) ((aa (qa6.set xb.2.1.toNat ((x8.1,(x8.2.1,x8.2.2.1,x8.2.2.2.1,x8.2.2.2.2.1,x8.2.2.2.2.2.1,x8.2.2.2.2.2.2)))) xb.2.1).bind fun x10=>(aU xb.2.1 xb.2.1).bind fun _=>(aa x10.1 xb.2.2.1).bind fun x11=>(some (x10.1.set xb.2.2.1.toNat (0,0,0,0,false))).bind fun z12=>some ((true,qa2,qa3,qa4,qa5,(qa6.set xb.2.1.toNat ((x8.1,(x8.2.1,x8.2.2.1,x8.2.2.2.1,x8.2.2.2.2.1,x8.2.2.2.2.2.1,x8.2.2.2.2.2.2)))).set xb.2.1.toNat ((z12,(x10.2.1,x10.2.2.1,x10.2.2.2.1,x10.2.2.2.2.1,x10.2.2.2.2.2.1,x10.2.2.2.2.2.2)))))) (cond (decide (xb.1=2)) ((aa (qa6.set xb.2.1.toNat ((x8.1,(x8.2.1,x8.2.2.1,x8.2.2.2.1,x8.2.2.2.2.1,x8.2.2.2.2.2.1,x8.2.2.2.2.2.2)))) xb.2.1).bind fun x13=>(aU xb.2.1 xb.2.1).bind fun _=>(qw xb.2.2.1 (IntKind.wrap .i64 (xb.2.2.1 + 1)) x13.1).bind fun l14=>(aU xb.2.1 xb.2.1).bind fun _=>some ((true,qa2,qa3,qa4,qa5,(qa6.set xb.2.1.toNat ((x8.1,(x8.2.1,x8.2.2.1,x8.2.2.2.1,x8.2.2.2.2.1,x8.2.2.2.2.2.1,x8.2.2.2.2.2.2)))).set xb.2.1.toNat ((l14,(x13.2.1,x13.2.2.1,x13.2.2.2.1,x13.2.2.2.2.1,x13.2.2.2.2.2.1,x13.2.2.2.2.2.2)))))) (cond (decide (xb.1=3)) ((((aa (qa6.set xb.2.1.toNat x8) xb.2.1).bind fun x15=>(aU xb.2.1 xb.2.1).bind fun _=>(aU xb.2.1 xb.2.1).bind fun _=>(aa x15.1 xb.2.2.1).bind fun x16=>(mC xb.2.2.1 x15.1 (([x16]:List Tq4))).bind fun l17=>(aU xb.2.1 xb.2.1).bind fun _=>some ((qa6.set xb.2.1.toNat x8).set xb.2.1.toNat ((l17,x15.2)))).bind fun x18=>((aa (qa6.set xb.2.1.toNat x8) xb.2.1).bind fun x19=>(aU xb.2.1 xb.2.1).bind fun _=>(aa x19.1 xb.2.2.1).bind fun x20=>(mJ xb x19 x20 qa6 x8).bind fun x21=>((mJ xb x19 x20 qa6 x8).bind fun x22=>(mJ xb x19 x20 qa6 x8).bind fun y23=>agr x22 y23 (some x22)).bind fun y24=>agr x21 y24 (some x21)).bind fun y25=>agr x18 y25 (some x18):Option ((List Tq2))).bind fun l26=>some ((true,qa2,qa3,qa4,qa5,l26))) (cond (decide (xb.1=4)) ((aa (qa6.set xb.2.1.toNat ((x8.1,(x8.2.1,x8.2.2.1,x8.2.2.2.1,x8.2.2.2.2.1,x8.2.2.2.2.2.1,x8.2.2.2.2.2.2)))) xb.2.1).bind fun x27=>(aU xb.2.1 xb.2.1).bind fun _=>cond (decide ((IntKind.wrap .i64 (xb.2.2.1 + 1))=(x27.1.length:Int))) (some ((false,qa2,qa3,qa4,qa5,(qa6.set xb.2.1.toNat ((x8.1,(x8.2.1,x8.2.2.1,x8.2.2.2.1,x8.2.2.2.2.1,x8.2.2.2.2.2.1,x8.2.2.2.2.2.2)))).set xb.2.1.toNat ((x27.1,(x27.2.1,x27.2.2.1,x27.2.2.2.1,x27.2.2.2.2.1,x27.2.2.2.2.2.1,x27.2.2.2.2.2.2)))))) ((aa ((qa6.set xb.2.1.toNat ((x8.1,(x8.2.1,x8.2.2.1,x8.2.2.2.1,x8.2.2.2.2.1,x8.2.2.2.2.2.1,x8.2.2.2.2.2.2)))).set xb.2.1.toNat ((x27.1,(x27.2.1,x27.2.2.1,x27.2.2.2.1,x27.2.2.2.2.1,x27.2.2.2.2.2.1,x27.2.2.2.2.2.2)))) xb.2.1).bind fun x28=>((aU xb.2.1 xb.2.1).bind fun _=>(aa x28.1 (IntKind.wrap .i64 (xb.2.2.1 + 1))).bind fun x29=>(aU xb.2.1 xb.2.1).bind fun _=>(aa x28.1 xb.2.2.1).bind fun x30=>(mI xb x28 x29 x30).bind fun x31=>((mI xb x28 x29 x30).bind fun x32=>((mF xb x28 x29 x30).bind fun x33=>(mF xb x28 x29 x30).bind fun y34=>agr x33 y34 (some x33)).bind fun y35=>agr x32 y35 (some x32)).bind fun y36=>agr x31 y36 (some x31):Option ((List Tq4))).bind fun l37=>some ((true,qa2,qa3,qa4,qa5,((qa6.set xb.2.1.toNat ((x8.1,(x8.2.1,x8.2.2.1,x8.2.2.2.1,x8.2.2.2.2.1,x8.2.2.2.2.2.1,x8.2.2.2.2.2.2)))).set xb.2.1.toNat ((x27.1,(x27.2.1,x27.2.2.1,x27.2.2.2.1,x27.2.2.2.2.1,x27.2.2.2.2.2.1,x27.2.2.2.2.2.2)))).set xb.2.1.toNat ((l37,(x28.2.1,x28.2.2.1,x28.2.2.2.1,x28.2.2.2.2.1,x28.2.2.2.2.2.1,x28.2.2.2.2.2.2))))))) (some ((true,qa2,qa3,qa4,qa5,qa6.set xb.2.1.toNat ((x8.1,(x8.2.1,x8.2.2.1,x8.2.2.2.1,x8.2.2.2.2.1,x8.2.2.2.2.2.1,x8.2.2.2.2.2.2)))))))))))
def Gv:Hn Tryz.prog := .mix [([0,1,2,3,4,5,6],7),([8,9,10,11,12,13,14,15,16,17,18,19],20)] [21] [22,23,24] [11] (.cl lO [] (.two 15 .nil (.wt 25 (.opn 11 1000007 (.cl lO [] (.cls 11 16 (.tw 30 .nil (.mix [] [0,1,2,3,4,5,6,7] [] [] (.tw 40 (.mix [([0,1,2,4,5,6],3)] [7] [8] [11] (.wt 48 (.opn 11 1000007 (.wt 49 (.wt 1000024 (.cls 11 20 .nil)))))) (.tw 50 (.mix [([0,1,2,3,5,6,7,8,9],4),([],10)] [11,12] [13] [11] (.wt 61 (.opn 11 1000007 (.cl FJ [] (.cls 11 27 .nil))))) (.tw 65 (.tr (.still [0,1,2,3,5,6,7,8,9,11,12] (.alt 4 (.alt 10 (.still [13] (.alt 14 (.alt 15 (.alt 16 (.still [17,18] (.alt 19 (.leaf []) .done)) .done) .done) .done)) .done) (.alt 10 (.still [13] (.alt 4 (.alt 14 (.alt 15 (.alt 16 (.still [17,18] (.alt 19 (.leaf []) .done)) .done) .done) .done) (.alt 14 (.alt 4 (.alt 15 (.alt 16 (.still [17,18] (.alt 19 (.leaf []) .done)) .done) .done) (.alt 15 (.alt 4 (.alt 16 (.still [17,18] (.alt 19 (.leaf []) .done)) .done) .done) .done)) .done))) .done))) ⟨[],[bkO 11 (.row 61 (.cons (.row 63 (.dat Yq6)) (.one (.dat Yq5))))]⟩ [11] (.two 0 (.wt 70 (.opn 11 1000007 (.cl pH [] (.cls 11 31 .nil)))) (.wt 76 (.opn 11 1000007 (.two 0 (.cl pH [] (.cls 11 31 .nil)) (.two 0 (.cl pH [] (.cls 11 31 .nil)) (.cl pH [] (.cls 11 31 .nil))))))) .nil) (.tw 86 (.mix [([0,1,2,3,4,5],6)] [7,8] [] [11] (.wt 93 (.opn 11 1000007 (.wt 96 (.wt 1000023 (.cls 11 20 (.tw 96 .nil (.opn 11 1000007 (.tr (.still [0,1,2,4,5,6,7,8,10,11,12,13,14,15,16,17,18,19,20,22,23,24,25,26,27,28] (.alt 3 (.alt 9 (.alt 21 (.alt 29 (.still [30] (.alt 31 (.still [32] (.alt 33 (.leaf []) .done)) .done)) .done) (.alt 29 (.alt 21 (.still [30] (.alt 31 (.still [32] (.alt 33 (.leaf []) .done)) .done)) .done) .done)) (.alt 21 (.alt 9 (.alt 29 (.still [30] (.alt 31 (.still [32] (.alt 33 (.leaf []) .done)) .done)) .done) (.alt 29 (.alt 9 (.still [30] (.alt 31 (.still [32] (.alt 33 (.leaf []) .done)) .done)) .done) .done)) (.alt 29 (.alt 9 (.alt 21 (.still [30] (.alt 31 (.still [32] (.alt 33 (.leaf []) .done)) .done)) .done) (.alt 21 (.alt 9 (.still [30] (.alt 31 (.still [32] (.alt 33 (.leaf []) .done)) .done)) .done) .done)) .done))) (.alt 9 (.alt 3 (.alt 21 (.alt 29 (.still [30] (.alt 31 (.still [32] (.alt 33 (.leaf []) .done)) .done)) .done) (.alt 29 (.alt 21 (.still [30] (.alt 31 (.still [32] (.alt 33 (.leaf []) .done)) .done)) .done) .done)) (.alt 21 (.alt 3 (.alt 29 (.still [30] (.alt 31 (.still [32] (.alt 33 (.leaf []) .done)) .done)) .done) (.alt 29 (.alt 3 (.still [30] (.alt 31 (.still [32] (.alt 33 (.leaf []) .done)) .done)) .done) .done)) (.alt 29 (.alt 3 (.alt 21 (.still [30] (.alt 31 (.still [32] (.alt 33 (.leaf []) .done)) .done)) .done) (.alt 21 (.alt 3 (.still [30] (.alt 31 (.still [32] (.alt 33 (.leaf []) .done)) .done)) .done) .done)) .done))) (.alt 21 (.alt 3 (.alt 9 (.alt 29 (.still [30] (.alt 31 (.still [32] (.alt 33 (.leaf []) .done)) .done)) .done) (.alt 29 (.alt 9 (.still [30] (.alt 31 (.still [32] (.alt 33 (.leaf []) .done)) .done)) .done) .done)) (.alt 9 (.alt 3 (.alt 29 (.still [30] (.alt 31 (.still [32] (.alt 33 (.leaf []) .done)) .done)) .done) (.alt 29 (.alt 3 (.still [30] (.alt 31 (.still [32] (.alt 33 (.leaf []) .done)) .done)) .done) .done)) (.alt 29 (.alt 3 (.alt 9 (.still [30] (.alt 31 (.still [32] (.alt 33 (.leaf []) .done)) .done)) .done) (.alt 9 (.alt 3 (.still [30] (.alt 31 (.still [32] (.alt 33 (.leaf []) .done)) .done)) .done) .done)) .done))) (.alt 29 (.alt 3 (.alt 9 (.alt 21 (.still [30] (.alt 31 (.still [32] (.alt 33 (.leaf []) .done)) .done)) .done) (.alt 21 (.alt 9 (.still [30] (.alt 31 (.still [32] (.alt 33 (.leaf []) .done)) .done)) .done) .done)) (.alt 9 (.alt 3 (.alt 21 (.still [30] (.alt 31 (.still [32] (.alt 33 (.leaf []) .done)) .done)) .done) (.alt 21 (.alt 3 (.still [30] (.alt 31 (.still [32] (.alt 33 (.leaf []) .done)) .done)) .done) .done)) (.alt 21 (.alt 3 (.alt 9 (.still [30] (.alt 31 (.still [32] (.alt 33 (.leaf []) .done)) .done)) .done) (.alt 9 (.alt 3 (.still [30] (.alt 31 (.still [32] (.alt 33 (.leaf []) .done)) .done)) .done) .done)) .done))) .done))))) ⟨[],[bkO 25 (.row 63 (.dat Yq6))]⟩ [25] (.two 0 (.two 0 (.two 0 .nil .nil) (.two 0 (.two 0 .nil .nil) (.two 0 .nil .nil))) (.two 0 (.two 0 (.two 0 .nil .nil) (.two 0 (.two 0 .nil .nil) (.two 0 .nil .nil))) (.two 0 (.two 0 (.two 0 .nil .nil) (.two 0 (.two 0 .nil .nil) (.two 0 .nil .nil))) (.two 0 (.two 0 .nil .nil) (.two 0 (.two 0 .nil .nil) (.two 0 .nil .nil)))))) (.cls 11 24 .nil)))))))))) .nil))))))))))))
def Hq:Spec:=⟨32,⟨[(0,.ptr 0 0),(1,.dat cg)],[bkN 30 [.is 1 (.dat Yq2),.is 2 (.dat Yq2),.own 84 Yq7,.od (.row 26 (.one (.row 95 (.dat Yq3)))),.own 95 Yq3,.own 55 Yq4,.od (.row 61 (.cons (.row 63 (.dat Yq6)) (.one (.dat Yq5))))],bkM,bkM]⟩,[⟨[kdB 0],[bkC 0 30 [.is 1 (.any),.is 2 (.any),.own 84 Yq7,.od (.row 26 (.one (.row 95 (.dat Yq3)))),.own 95 Yq3,.own 55 Yq4,.od (.row 61 (.cons (.row 63 (.dat Yq6)) (.one (.dat Yq5))))],bkU 1,bkU 2]⟩],fun x=>kc x.1 x.2.1 x.2.2.1 x.2.2.2.1 x.2.2.2.2.1 x.2.2.2.2.2.1 x.2.2.2.2.2.2.1 x.2.2.2.2.2.2.2⟩
def Gc:OkSpec Tryz.prog:=⟨Hq,ae func32 Gv (by kernel_rfl) (by kernel_rfl),call32⟩

def ke (xb:Tq6) (qa0:Int) (qa1:Int) (qa2:Tq7) (qa3:(List Tq3)) (qa4:Tq3) (qa5:(List Tq5)) (qa6:(List Tq2)):Option ((Bool×Int×Tq7×(List Tq3)×Tq3×(List Tq5)×(List Tq2))) :=
 (fd xb.2.1 (qa3.length:Int)).bind fun t7=>cond (!t7) (some ((false,qa1,qa2,qa3,qa4,qa5,qa6))) ((aa qa3 xb.2.1).bind fun _=>(aa qa3 xb.2.1).bind fun x8=>(aU xb.2.1 xb.2.1).bind fun _=>(fd xb.2.2.1 (x8.length:Int)).bind fun t9=>cond (!t9) (some ((false,qa1,qa2,qa3.set xb.2.1.toNat x8,qa4,qa5,qa6))) ((cond (decide (xb.1=6)) (some ((qa1,IntKind.wrap .i64 (qa1 + 1)))) (some ((xb.2.2.2,qa1))):Option (Int×Int)).bind fun (i10,i11)=>(aa (qa3.set xb.2.1.toNat x8) xb.2.1).bind fun _=>(aa (qa3.set xb.2.1.toNat x8) xb.2.1).bind fun x12=>(aU xb.2.1 xb.2.1).bind fun _=>(aa x12 xb.2.2.1).bind fun x13=>(some (x12.set xb.2.2.1.toNat (i10,x13.2))).bind fun z14=>some ((true,i11,qa2,(qa3.set xb.2.1.toNat x8).set xb.2.1.toNat z14,qa4,qa5,qa6))))
def GX:Hn Tryz.prog := .mix [([0,1,2,3,4,5,6],7),([8,9,10,11,12,13,14,15,16,17,18,19],20)] [21] [22,23,24] [4] (.cl lO [] (.two 15 .nil (.wt 25 (.opn 4 1000007 (.cl lO [] (.cls 4 15 (.tw 30 .nil (.pl (.sq [(0,2),(0,3),(0,4),(0,5),(0,6)] ⟨[kdI 5],[bkC 0 30 [.is 1 (.any),.dat Yq2,.is 2 (.any),.is 3 (.any),.is 4 (.any),.is 5 (.any),.is 6 (.any)],bkU 1,bkU 19,bkU 20,bkU 21,bkU 22,bkU 23]⟩ [0] (.tw 35 .nil .nil) (.mix [([0,1,2,3,4,5,6,7,9,10,11],8)] [12,13] [14] [4] (.wt 58 (.opn 4 1000052 (.wt 60 (.wt 1000029 (.cls 4 25 .nil)))))))))))))))
def GY:Spec:=⟨33,⟨[(0,.ptr 0 0),(1,.dat cg)],[bkN 30 [.is 1 (.dat Yq2),.dat Yq2,.own 84 Yq7,.od (.row 26 (.one (.row 95 (.dat Yq3)))),.own 95 Yq3,.own 55 Yq4,.od (.row 61 (.cons (.row 63 (.dat Yq6)) (.one (.dat Yq5))))],bkM]⟩,[⟨[kdB 0],[bkC 0 30 [.is 1 (.any),.dat Yq2,.own 84 Yq7,.od (.row 26 (.one (.row 95 (.dat Yq3)))),.own 95 Yq3,.own 55 Yq4,.od (.row 61 (.cons (.row 63 (.dat Yq6)) (.one (.dat Yq5))))],bkU 1]⟩],fun x=>ke x.1 x.2.1 x.2.2.1 x.2.2.2.1 x.2.2.2.2.1 x.2.2.2.2.2.1 x.2.2.2.2.2.2.1 x.2.2.2.2.2.2.2⟩
def HJ:OkSpec Tryz.prog:=⟨GY,ae func33 GX (by kernel_rfl) (by kernel_rfl),call33⟩

def qv (xb:Int) (xc:Int) (qxa:Tq7):Option (Tq7) :=
 (bY qxa xb xc).bind fun y10=>some (y10)
def G5:Spec:=⟨35,⟨[(0,.own 84 Yq7),kdI 1,kdI 2],[]⟩,[⟨[(0,.own 84 Yq7)],[]⟩],fun x=>qv x.2.1 x.2.2 x.1⟩
def GO:OkSpec Tryz.prog:=⟨G5,EY,call35⟩

def kh (xb:Tq6) (qa0:Int) (qa1:Int) (qa2:Tq7) (qa3:(List Tq3)) (qa4:Tq3) (qa5:(List Tq5)) (qa6:(List Tq2)):Option ((Bool×Int×Tq7×(List Tq3)×Tq3×(List Tq5)×(List Tq2))) :=
 (cond (decide (xb.1=1)) (some (decide (xb.1=1))) (cond (decide (xb.1=2)) (some (decide (xb.1=2))) (cond (decide (xb.1=3)) (some (decide (xb.1=3))) (some (decide (xb.1=4))))):Option Bool).bind fun t7=>cond (t7) ((kc (xb.1,xb.2.1,xb.2.2.1,xb.2.2.2) qa0 qa1 qa2 qa3 qa4 qa5 qa6).bind fun (t8,l9,l10,l11,l12,l13)=>some ((t8,qa1,l9,l10,l11,l12,l13))) ((cond (decide (xb.1=5)) (some (decide (xb.1=5))) (some (decide (xb.1=6))):Option Bool).bind fun t14=>cond (t14) ((ke (xb.1,xb.2.1,xb.2.2.1,xb.2.2.2) qa0 qa1 qa2 qa3 qa4 qa5 qa6).bind fun (t15,i16,l17,l18,l19,l20,l21)=>some ((t15,i16,l17,l18,l19,l20,l21))) (cond (decide (xb.1=7)) ((app qa2 (([(xb.2.1,xb.2.2.1)]:List (Int×Int)))).bind fun z22=>some ((true,qa1,z22,qa3,qa4,qa5,qa6))) (cond (decide (xb.1=8)) ((fd xb.2.1 (qa2.length:Int)).bind fun t23=>cond (!t23) (some ((false,qa1,qa2,qa3,qa4,qa5,qa6))) ((qv xb.2.1 (IntKind.wrap .i64 (xb.2.1 + 1)) qa2).bind fun l24=>some ((true,qa1,l24,qa3,qa4,qa5,qa6)))) (some ((false,qa1,qa2,qa3,qa4,qa5,qa6))))))
def GJ:Hn Tryz.prog := .pl (.pl (.pl (.sq [] ⟨[kdB 7],[]⟩ [] (.tw 7 .nil (.tw 7 .nil (.tw 7 .nil .nil))) (.tw 7 (.wt 1000015 (.mc 0 1 12 (.cl Gc [] .nil))) (.sq [] ⟨[kdB 15],[]⟩ [] (.tw 15 .nil .nil) (.tw 15 (.cl HJ [] .nil) (.tw 21 (.mix [([0,1,2,3,4,5,6,7,8,9],10),([],11)] [12,13] [14] [2] .nil) (.tw 37 (.mix [] [0,1,2,3,4,5,6] [7,8] [] (.cl lO [] (.tw 47 .nil (.mix [([0,1,2,3,4,5,6,7,8,9],10)] [11,12] [13] [2] (.cl GO [] .nil))))) .nil))))))))
def G6:Spec:=⟨20,⟨[(0,.ptr 0 0),(1,.dat cg)],[bkN 30 [.is 1 (.dat Yq2),.dat Yq2,.own 84 Yq7,.od (.row 26 (.one (.row 95 (.dat Yq3)))),.own 95 Yq3,.own 55 Yq4,.od (.row 61 (.cons (.row 63 (.dat Yq6)) (.one (.dat Yq5))))],bkM]⟩,[⟨[kdB 0],[bkC 0 30 [.is 1 (.any),.dat Yq2,.own 84 Yq7,.od (.row 26 (.one (.row 95 (.dat Yq3)))),.own 95 Yq3,.own 55 Yq4,.od (.row 61 (.cons (.row 63 (.dat Yq6)) (.one (.dat Yq5))))],bkU 1]⟩],fun x=>kh x.1 x.2.1 x.2.2.1 x.2.2.2.1 x.2.2.2.2.1 x.2.2.2.2.2.1 x.2.2.2.2.2.2.1 x.2.2.2.2.2.2.2⟩
def Gh:OkSpec Tryz.prog:=⟨G6,ae func20 GJ (by kernel_rfl) (by kernel_rfl),call20⟩

def eh (xa:Tq1) (xb:Tq6):Option me :=
 (gV xa).bind fun t1=>cond (!t1) (some ((0,0,[],[],[],[],[],2))) ((gJ xa).bind fun (i2,i3,l4,l5,l6,l7,l8)=>(kh (xb.1,xb.2.1,xb.2.2.1,xb.2.2.2) i2 i3 l4 l5 l6 l7 l8).bind fun (t9,i10,l11,l12,l13,l14,l15)=>cond (!t9) (some ((0,0,[],[],[],[],[],7))) ((d7 (i2,i10,l11,l12,l13,l14,l15)).bind fun (i16,i17,i18,i19)=>cond (!decide (i16=0)) (some ((0,0,[],[],[],[],[],i16))) (some ((i2,i10,l11,l12,l13,l14,l15,0)))))
def G9:Hn Tryz.prog := .cl Aq [] (.tw 10 .nil (.cl Ah [] (.mc 16 0 18 (.cl Gh [] (.tw 16 .nil (.per 33 34 (.per 39 40 (.cl Ai [31,35,37] (.tw 22 (.mix [([0,1,2],3)] [4] [] [4] .nil) .nil)))))))))
def HO:Spec:=⟨8,⟨[(0,.dat Yq1),(1,.dat cg)],[]⟩,[⟨[(0,.tup [.agg [.dat Yq2,.dat Yq2,.own 84 Yq7,.dat (.sl Yq8),.own 95 Yq3,.own 55 Yq4,.dat Yq9],.dat Yq2])],[]⟩],fun x=>eh x.1 x.2⟩
def pC:OkSpec Tryz.prog:=⟨HO,ae func8 G9 (by kernel_rfl) (by kernel_rfl),call8⟩

def fp (xa:Int):Option aT :=
 cond (decide (xa=1)) (some (([98,108,97,110,107]:List UInt8))) (cond (decide (xa=2)) (some (([100,114,111,112]:List UInt8))) (cond (decide (xa=3)) (some (([116,119,105,99,101]:List UInt8))) (cond (decide (xa=4)) (some (([115,119,97,112]:List UInt8))) (cond (decide (xa=5)) (some (([114,101,103,105,111,110]:List UInt8))) (cond (decide (xa=6)) (some (([108,111,110,101]:List UInt8))) (cond (decide (xa=7)) (some (([100,101,99,108,97,114,101]:List UInt8))) (cond (decide (xa=8)) (some (([117,110,100,101,99,108,97,114,101]:List UInt8))) (some (([63]:List UInt8))))))))))
def GB:Hn Tryz.prog := .tw 4 .nil (.tw 6 .nil (.tw 8 .nil (.tw 10 .nil (.tw 12 .nil (.tw 14 .nil (.tw 16 .nil (.tw 18 .nil .nil)))))))
def FN:Spec:=⟨15,⟨[kdI 0],[]⟩,[⟨[(0,.dat .str)],[]⟩],fun x=>fp x⟩
def y6:OkSpec Tryz.prog:=⟨FN,ae func15 GB (by kernel_rfl) (by kernel_rfl),call15⟩
def iN (xa:aT):Int->Option (Int⊕(Unit⊕(Int×Bool))):=fun i96=>cond (decide (i96<=8)) ((fp i96).bind fun s1=>cond (decide (s1=xa)) (some (.inr ((.inr ((i96,true)))))) (some (.inl (IntKind.wrap .i64 (i96 + 1))))) (some (.inr ((.inl ()))))
def ek (xa:aT):Option (Int×Bool) :=
 (loop (iN xa) 1).bind fun o=>match o with | .inr r=>some r | .inl ()=>some ((0,false))
def Ha:Hn Tryz.prog := .jx [] ⟨[],[]⟩ [] (.lp ⟨[kdI 4],[]⟩ (.tw 6 (.cl y6 [] (.tw 12 .nil .nil)) .nil)) .nil
def FQ:Spec:=⟨13,⟨[(0,.dat .str)],[]⟩,[⟨[(0,.tup [.dat Yq2,.dat .bool])],[]⟩],fun x=>ek x⟩
def zb:OkSpec Tryz.prog:=⟨FQ,ae func13 Ha (by kernel_rfl) (by kernel_rfl),call13⟩

def kI  : Option Bool :=
 (eh ((1,1,[],([[]]:List Tq3),[],[],([(([(4,0,0,0,false)]:List Tq4),(3,0,0,[],[],[]))]:List Tq2))) (1,0,0,0)).bind fun (i1,i2,l3,l4,l5,l6,l7,i9)=>(ek ([108,111,110,101]:List UInt8)).bind fun (i10,t11)=>(cond ((decide (i9=0))&&(decide ((l7.length:Int)=1))) ((aa l7 0).bind fun x12=>(aa x12.1 0).bind fun x13=>some (decide (x13.1=0))) (some (false))).bind fun t14=>(cond (t14) ((aa (([(([(4,0,0,0,false)]:List Tq4),(3,0,0,[],[],[]))]:List Tq2)) 0).bind fun x15=>(aa x15.1 0).bind fun x16=>some (decide (x16.1=4))) (some (false))).bind fun t17=>some ((t17&&(decide (i10=6)))&&t11)
def AO:Hn Tryz.prog := .per 2 3 (.per 0 1 (.per 4 5 (.cl pC [] (.cl zb [] (.gp 4 (.wt 32 (.gj 9 ⟨[kdB 42],[]⟩ [] (.two 32 .nil .nil) (.wt 43 (.gj 9 ⟨[kdB 53],[]⟩ [] (.two 43 .nil .nil) (.wt 54 (.gp 2 (.wt 58 (.gp 1 .nil)))))))))))))
def uW:Spec:=⟨6,⟨[],[]⟩,[⟨[kdB 0],[]⟩],fun x=>kI⟩
theorem AF:cE Tryz.prog uW:=ae func6 AO (by kernel_rfl) (by kernel_rfl)
def uY:OkSpec Tryz.prog:=⟨uW,AF,call6⟩
def nd (xa:(List Tq6)):((List Tq6)×Int)->Option (((List Tq6)×Int)⊕(List Tq6)):=fun (l1,i2)=>cond (decide (i2 < (xa.length:Int))) ((aa xa i2).bind fun x3=>(aa xa i2).bind fun x4=>(aa xa i2).bind fun x5=>(aa xa i2).bind fun x6=>(app l1 (([(x3.1,x4.2.1,x5.2.2.1,x6.2.2.2)]:List Tq6))).bind fun z7=>some (.inl ((z7,IntKind.wrap .i64 (i2 + 1))))) (some (.inr (l1)))
def nD (xa:(List Tq6)):Option ((List Tq6)) :=
 (loop (nd xa) ((([]:List Tq6),0))).bind fun l1=>some (l1)
def A0:Hn Tryz.prog := .jn [] ⟨[(3,.own 40 cg),(5,.any)],[]⟩ [0] (.lp ⟨[(3,.own 40 cg),kdI 4],[]⟩ (.tw 9 (.mix [([0,1,2,3,4,5,6,7,8,9,10,11,12,13,14,15,16,17,18,19,20,21],22)] [] [23,24] [] .nil) .nil)) .nil
def u7:Spec:=⟨7,⟨[(0,.dat (.sl cg))],[]⟩,[⟨[(0,.own 40 cg)],[]⟩],fun x=>nD x⟩
theorem AM:cE Tryz.prog u7:=ae func7 A0 (by kernel_rfl) (by kernel_rfl)
def AV:OkSpec Tryz.prog:=⟨u7,AM,call7⟩
def m9 (xa:Tq1):Int->Option (Int⊕(Unit⊕Tq6)):=fun i1=>cond (decide (i1 < (xa.2.2.1.length:Int))) ((aa xa.2.2.1 i1).bind fun x2=>cond ((((decide (x2.1 < 0))||(decide (xa.1<=x2.1)))||(decide (x2.2 < 0)))||(decide (xa.1<=x2.2))) (some (.inr ((.inr ((7,1,i1,0)))))) (some (.inl (IntKind.wrap .i64 (i1 + 1))))) (some (.inr ((.inl ()))))
def nE (xa:Tq1):Option Tq6 :=
 cond ((decide (xa.1 < 1))||(decide (xa.2.1 < xa.1))) (some ((7,0,0,0))) (cond (decide (65536 < xa.2.1)) (some ((6,0,0,0))) (cond (decide (65536 < (xa.2.2.1.length:Int))) (some ((6,1,0,0))) ((loop (m9 xa) 0).bind fun o=>match o with | .inr r=>some r | .inl ()=>some ((0,0,0,0)))))
def HF:Hn Tryz.prog := .gp 5 (.tw 14 .nil (.tw 18 .nil (.tw 23 .nil (.jx [] ⟨[],[bkC 2 72 [.lit (.int .i64 0),.lit (.int .i64 0),.lit (.int .i64 0),.lit (.int .i64 0)]]⟩ [2] (.lp ⟨[kdI 3],[bkC 2 72 [.lit (.int .i64 0),.lit (.int .i64 0),.lit (.int .i64 0),.lit (.int .i64 0)]]⟩ (.tw 29 (.wt 40 (.gp 5 (.wt 47 (.gp 3 (.wt 52 (.gp 5 (.tw 58 .nil .nil))))))) .nil)) .nil))))
def Ht:Spec:=⟨46,⟨[(0,.dat Yq1)],[]⟩,[⟨[(0,.agg [.dat Yq2,.dat Yq2,.dat Yq2,.dat Yq2])],[]⟩],fun x=>nE x⟩
def FX:OkSpec Tryz.prog:=⟨Ht,ae func46 HF (by kernel_rfl) (by kernel_rfl),call46⟩
def mY (xa:Tq3) (xb:Int):Int->Option (Int⊕(Unit⊕Int)):=fun i1=>cond (decide (i1 < (xa.length:Int))) ((aa xa i1).bind fun x2=>(cond (decide (x2.1 < 0)) (some (true)) ((aa xa i1).bind fun x3=>some (decide (xb<=x3.1)))).bind fun t4=>cond (t4) (some (.inr ((.inr (7))))) (some (.inl (IntKind.wrap .i64 (i1 + 1))))) (some (.inr ((.inl ()))))
def gH (xa:Tq3) (xb:Int):Option Int :=
 cond (decide (16 < (xa.length:Int))) (some (6)) ((loop (mY xa xb) 0).bind fun o=>match o with | .inr r=>some r | .inl ()=>some (0))
def GV:Hn Tryz.prog := .tw 9 .nil (.jx [] ⟨[],[]⟩ [] (.lp ⟨[kdI 5],[]⟩ (.tw 14 (.wt 24 (.gj 8 ⟨[kdB 33],[]⟩ [] (.two 24 .nil .nil) (.tw 33 .nil .nil))) .nil)) .nil)
def FT:Spec:=⟨82,⟨[(0,.dat Yq8),kdI 1],[]⟩,[⟨[kdI 0],[]⟩],fun x=>gH x.1 x.2⟩
def ph:OkSpec Tryz.prog:=⟨FT,ae func82 GV (by kernel_rfl) (by kernel_rfl),call82⟩
def qO (xa:Tq3) (xb:Tq3):Int->Option (Int⊕(Unit⊕Bool)):=fun i1=>cond (decide (i1 < (xa.length:Int))) ((aa xa i1).bind fun x2=>(aa xb i1).bind fun x3=>cond (!(x2.2 == x3.2)) (some (.inr ((.inr (false))))) (some (.inl (IntKind.wrap .i64 (i1 + 1))))) (some (.inr ((.inl ()))))
def fg (xa:Tq3) (xb:Tq3):Option Bool :=
 cond (!decide ((xa.length:Int)=(xb.length:Int))) (some (false)) ((loop (qO xa xb) 0).bind fun o=>match o with | .inr r=>some r | .inl ()=>some (true))
def FL:Hn Tryz.prog := .tw 12 .nil (.jx [] ⟨[],[]⟩ [] (.lp ⟨[kdI 5],[]⟩ (.tw 17 (.mix [] [0,1,2,3,4,5,6,7,8,9,10,11,12] [] [] (.tw 32 .nil .nil)) .nil)) .nil)
def F4:Spec:=⟨49,⟨[(0,.dat Yq8),(1,.dat Yq8)],[]⟩,[⟨[kdB 0],[]⟩],fun x=>fg x.1 x.2⟩
def lV:OkSpec Tryz.prog:=⟨F4,ae func49 FL (by kernel_rfl) (by kernel_rfl),call49⟩
def m7 (xa:Tq5):Int->Option (Int⊕(Unit⊕Int)):=fun i1=>cond (decide (i1 < (xa.2.1.length:Int))) ((aa xa.2.1 i1).bind fun x2=>cond ((((decide (x2.1 < 0))||(decide (xa.1<=x2.1)))||(decide (x2.2 < 0)))||(decide (xa.1<=x2.2))) (some (.inr ((.inr (7))))) (some (.inl (IntKind.wrap .i64 (i1 + 1))))) (some (.inr ((.inl ()))))
def m5 (xa:Tq5):Int->Option (Int⊕(Unit⊕Int)):=fun i1=>cond (decide (i1 < (xa.2.2.1.length:Int))) ((aa xa.2.2.1 i1).bind fun x2=>(gH x2 xa.1).bind fun i3=>cond (!decide (i3=0)) (some (.inr ((.inr (i3))))) (some (.inl (IntKind.wrap .i64 (i1 + 1))))) (some (.inr ((.inl ()))))
def gE (xa:Tq5):Option Int :=
 cond (decide (xa.1 < 0)) (some (7)) (cond (((decide (16 < xa.1))||(decide (16 < (xa.2.1.length:Int))))||(decide (16 < (xa.2.2.1.length:Int)))) (some (6)) ((loop (m7 xa) 0).bind fun o=>match o with | .inr r=>some r | .inl ()=>(loop (m5 xa) 0).bind fun o=>match o with | .inr r=>some r | .inl ()=>(gH xa.2.2.2 xa.1).bind fun i1=>some (i1)))
def HE:Hn Tryz.prog := .tw 9 .nil (.wt 13 (.gp 4 (.wt 19 (.gp 4 (.tw 24 .nil (.jx [] ⟨[],[]⟩ [] (.lp ⟨[kdI 3],[]⟩ (.tw 29 (.wt 40 (.gp 5 (.wt 47 (.gp 3 (.wt 52 (.gp 5 (.tw 58 .nil .nil))))))) .nil)) (.jx [] ⟨[],[]⟩ [] (.lp ⟨[kdI 5],[]⟩ (.tw 63 (.mix [] [0,1,2,3,4,5,6] [7,8] [] (.cl ph [] (.tw 75 .nil .nil))) .nil)) (.cl ph [] .nil))))))))
def Gg:Spec:=⟨83,⟨[(0,.dat Yq4)],[]⟩,[⟨[kdI 0],[]⟩],fun x=>gE x⟩
def zp:OkSpec Tryz.prog:=⟨Gg,ae func83 HE (by kernel_rfl) (by kernel_rfl),call83⟩
def mX (xa:Tq1):Int->Option (Int⊕(Unit⊕Tq6)):=fun i1=>cond (decide (i1 < (xa.2.2.2.1.length:Int))) ((aa xa.2.2.2.1 i1).bind fun x2=>(gH x2 xa.2.1).bind fun i3=>cond (!decide (i3=0)) (some (.inr ((.inr ((i3,2,i1,0)))))) (some (.inl (IntKind.wrap .i64 (i1 + 1))))) (some (.inr ((.inl ()))))
def mZ (xa:Tq1):Int->Option (Int⊕(Unit⊕Tq6)):=fun i1=>cond (decide (i1 < (xa.2.2.2.2.2.1.length:Int))) ((aa xa.2.2.2.2.2.1 i1).bind fun x2=>(gE (x2.1,x2.2.1,x2.2.2.1,x2.2.2.2)).bind fun i3=>cond (!decide (i3=0)) (some (.inr ((.inr ((i3,4,i1,0)))))) (some (.inl (IntKind.wrap .i64 (i1 + 1))))) (some (.inr ((.inl ()))))
def nw (xa:Tq1):Option Tq6 :=
 cond (decide ((xa.2.2.2.1.length:Int)=0)) (some ((14,2,0,0))) (cond (decide (65536 < (xa.2.2.2.1.length:Int))) (some ((6,2,0,0))) ((loop (mX xa) 0).bind fun o=>match o with | .inr r=>some r | .inl ()=>(gH xa.2.2.2.2.1 xa.1).bind fun i1=>cond (!decide (i1=0)) (some ((i1,3,0,0))) ((aa xa.2.2.2.1 0).bind fun x2=>(fg x2 xa.2.2.2.2.1).bind fun t3=>cond (!t3) (some ((8,3,0,0))) (cond (decide (65536 < (xa.2.2.2.2.2.1.length:Int))) (some ((6,4,0,0))) ((loop (mZ xa) 0).bind fun o=>match o with | .inr r=>some r | .inl ()=>some ((0,0,0,0)))))))
def FV:Hn Tryz.prog := .tw 11 .nil (.tw 16 .nil (.jx [] ⟨[],[bkC 2 72 [.lit (.int .i64 0),.lit (.int .i64 0),.lit (.int .i64 0),.lit (.int .i64 0)]]⟩ [2] (.lp ⟨[kdI 3],[bkC 2 72 [.lit (.int .i64 0),.lit (.int .i64 0),.lit (.int .i64 0),.lit (.int .i64 0)]]⟩ (.tw 22 (.mix [] [0,1,2,3,4,5,6] [7,8] [] (.cl ph [] (.tw 34 .nil .nil))) .nil)) (.cl ph [] (.tw 44 .nil (.mix [] [0,1,2,3,4,5] [6,7] [] (.cl lV [] (.tw 54 .nil (.tw 59 .nil (.jx [] ⟨[],[bkC 2 72 [.lit (.int .i64 0),.lit (.int .i64 0),.lit (.int .i64 0),.lit (.int .i64 0)]]⟩ [2] (.lp ⟨[kdI 6],[bkC 2 72 [.lit (.int .i64 0),.lit (.int .i64 0),.lit (.int .i64 0),.lit (.int .i64 0)]]⟩ (.tw 65 (.cl zp [] (.tw 75 .nil .nil)) .nil)) .nil)))))))))
def Gm:Spec:=⟨47,⟨[(0,.dat Yq1)],[]⟩,[⟨[(0,.agg [.dat Yq2,.dat Yq2,.dat Yq2,.dat Yq2])],[]⟩],fun x=>nw x⟩
def FO:OkSpec Tryz.prog:=⟨Gm,ae func47 FV (by kernel_rfl) (by kernel_rfl),call47⟩

def gR (xa:Int):Option Bool :=
 some ((((decide (xa=1))||(decide (xa=2)))||(decide (xa=3)))||(decide (xa=5)))
def HR:Hn Tryz.prog := .gp 2 (.wt 9 (.gp 2 (.wt 13 (.gp 2 .nil))))
def Hg:Spec:=⟨118,⟨[kdI 0],[]⟩,[⟨[kdB 0],[]⟩],fun x=>gR x⟩
def zA:OkSpec Tryz.prog:=⟨Hg,ae func118 HR (by kernel_rfl) (by kernel_rfl),call118⟩

def gO (xa:Int):Option Bool :=
 some ((decide (1<=xa))&&(decide (xa<=4)))
def GZ:Hn Tryz.prog := .gp 2 .nil
def FZ:Spec:=⟨119,⟨[kdI 0],[]⟩,[⟨[kdB 0],[]⟩],fun x=>gO x⟩
def zM:OkSpec Tryz.prog:=⟨FZ,ae func119 GZ (by kernel_rfl) (by kernel_rfl),call119⟩

def gq (xa:Int):Option Bool :=
 some ((decide (xa=2))||(decide (xa=3)))
def F0:Hn Tryz.prog := .gp 2 .nil
def HG:Spec:=⟨120,⟨[kdI 0],[]⟩,[⟨[kdB 0],[]⟩],fun x=>gq x⟩
def zf:OkSpec Tryz.prog:=⟨HG,ae func120 F0 (by kernel_rfl) (by kernel_rfl),call120⟩

def iV (xa:Tq4):Option Bool :=
 (cond ((decide (0<=xa.1))&&(decide (xa.1<=5))) ((gR xa.1).bind fun t97=>some (t97||(decide (xa.2.1=0)))) (some (false))).bind fun t93=>(cond (t93) ((gO xa.1).bind fun t1=>some (t1||(decide (xa.2.2.1=0)))) (some (false))).bind fun t2=>(cond (t2) ((gq xa.1).bind fun t3=>some (t3||((decide (xa.2.2.2.1=0))&&(!xa.2.2.2.2)))) (some (false))).bind fun t4=>some (t4)
def GL:Hn Tryz.prog := .gp 3 (.wt 11 (.gj 8 ⟨[kdB 20],[]⟩ [] (.two 11 (.cl zA [] (.wt 15 (.gp 3 .nil))) .nil) (.wt 21 (.gj 8 ⟨[kdB 30],[]⟩ [] (.two 21 (.cl zM [] (.wt 25 (.gp 3 .nil))) .nil) (.wt 31 (.gj 13 ⟨[kdB 45],[]⟩ [] (.two 31 (.cl zf [] (.wt 35 (.gp 8 .nil))) .nil) .nil))))))
def F2:Spec:=⟨117,⟨[(0,.dat Yq6)],[]⟩,[⟨[kdB 0],[]⟩],fun x=>iV x⟩
def Hc:OkSpec Tryz.prog:=⟨F2,ae func117 GL (by kernel_rfl) (by kernel_rfl),call117⟩
def mP (xb:Tq3) (xc:Tq3) (xd:Int) (xe:Int):Tq9->Option (Tq9⊕(List Tq4)):=fun (l1,i2)=>cond (decide (i2 < (xb.length:Int))) ((aa xb i2).bind fun x3=>(aa xc i2).bind fun x4=>(app l1 (([(x3.1,x4.1,xd,IntKind.wrap .i64 (xe + i2),false)]:List Tq4))).bind fun z5=>(aa xc i2).bind fun x6=>cond (x6.2) ((aa xc i2).bind fun x7=>(aa xb i2).bind fun x8=>(app z5 (([(x7.1,x8.1,xd,IntKind.wrap .i64 (xe + i2),true)]:List Tq4))).bind fun z9=>some (.inl ((z9,IntKind.wrap .i64 (i2 + 1))))) (some (.inl ((z5,IntKind.wrap .i64 (i2 + 1)))))) (some (.inr (l1)))
def f6 (xb:Tq3) (xc:Tq3) (xd:Int) (xe:Int) (qxa:(List Tq4)):Option ((List Tq4)) :=
 (loop (mP xb xc xd xe) (qxa,0)).bind fun l1=>some (l1)
def Hi:Hn Tryz.prog := .jn [] ⟨[(0,.own 218 Yq6)],[]⟩ [0] (.lp ⟨[(0,.own 218 Yq6),kdI 11],[]⟩ (.tw 15 (.mix [([0,1,2,3,4,5,6,7,8,9,10,11,12,13,14,15],16)] [] [17,18] [] (.tw 40 (.mix [([0,1,2,3,4,5,6,7,8,9,10,11,12,13,14,15],16)] [] [17,18] [] .nil) .nil)) .nil)) .nil
def GQ:Spec:=⟨144,⟨[(0,.own 218 Yq6),(1,.dat (.sl Yq3)),(2,.dat (.sl Yq3)),kdI 3,kdI 4],[]⟩,[⟨[(0,.own 218 Yq6)],[]⟩],fun x=>f6 x.2.1 x.2.2.1 x.2.2.2.1 x.2.2.2.2 x.1⟩
def ud:OkSpec Tryz.prog:=⟨GQ,ae func144 Hi (by kernel_rfl) (by kernel_rfl),call144⟩

def gL (xa:Tq3) (xb:Tq3) (xc:Int) (xd:Int):Option (Tq9) :=
 (fg xa xb).bind fun t34=>cond (!t34) (some (([],8))) ((f6 xa xb xc xd (([]:List Tq4))).bind fun l45=>some ((l45,0)))
def F5:Hn Tryz.prog := .cl lV [] (.tw 13 .nil (.cl ud [] .nil))
def Ho:Spec:=⟨121,⟨[(0,.dat Yq8),(1,.dat Yq8),kdI 2,kdI 3],[]⟩,[⟨[(0,.tup [.own 218 Yq6,.dat Yq2])],[]⟩],fun x=>gL x.1 x.2.1 x.2.2.1 x.2.2.2⟩
def pP:OkSpec Tryz.prog:=⟨Ho,ae func121 F5 (by kernel_rfl) (by kernel_rfl),call121⟩
def qU (xa:Tq3) (xc:Bool):(Tq3×Int)->Option ((Tq3×Int)⊕Tq3):=fun (l1,i2)=>cond (decide (i2 < (xa.length:Int))) ((aa xa i2).bind fun x3=>(aa xa i2).bind fun x4=>cond (x4.2) ((app l1 (([(x3.1,true)]:List (Int×Bool)))).bind fun z5=>some (.inl ((z5,IntKind.wrap .i64 (i2 + 1))))) ((app l1 (([(x3.1,xc)]:List (Int×Bool)))).bind fun z6=>some (.inl ((z6,IntKind.wrap .i64 (i2 + 1)))))) (some (.inr (l1)))
def nG (xa:Tq3) (xb:Int) (xc:Bool):Option (Tq3) :=
 (loop (qU xa xc) ((([(xb,false)]:List (Int×Bool)),0))).bind fun l1=>some (l1)
def GM:Hn Tryz.prog := .jn [] ⟨[(7,.own 95 Yq3),(11,.any)],[]⟩ [4] (.lp ⟨[(7,.own 95 Yq3),kdI 8],[]⟩ (.tw 16 (.mix [([0,1,2,3,4,5,6,7,8,9,10,11,12,13,14,15,16],17)] [] [18,19] [] (.two 32 .nil .nil)) .nil)) .nil
def HD:Spec:=⟨145,⟨[(0,.dat Yq8),kdI 1,kdB 2],[]⟩,[⟨[(0,.agg [.own 95 Yq3])],[]⟩],fun x=>nG x.1 x.2.1 x.2.2⟩
def FR:OkSpec Tryz.prog:=⟨HD,ae func145 GM (by kernel_rfl) (by kernel_rfl),call145⟩

def nB (xa:Tq3) (xb:Tq3) (xc:Int) (xd:Bool):Option (Tq9) :=
 (nG xa xc xd).bind fun l1=>(fg l1 xb).bind fun t2=>cond (!t2) (some (([],8))) ((aa xb 0).bind fun x3=>(subL xb 1 (xb.length:Int)).bind fun y4=>(f6 xa y4 1 1 (([(xc,x3.1,2,0,false)]:List Tq4))).bind fun l5=>some ((l5,0)))
def Ge:Hn Tryz.prog := .mix [([0,1,2,4],3)] [] [5,6] [] (.cl FR [] (.cl lV [4] (.tw 17 .nil (.mix [] [0,1,2,3,4,5] [6,7,8] [] (.cl ud [] .nil)))))
def Gu:Spec:=⟨122,⟨[(0,.dat Yq8),(1,.dat Yq8),kdI 2,kdB 3],[]⟩,[⟨[(0,.tup [.own 218 Yq6,.dat Yq2])],[]⟩],fun x=>nB x.1 x.2.1 x.2.2.1 x.2.2.2⟩
def GE:OkSpec Tryz.prog:=⟨Gu,ae func122 Ge (by kernel_rfl) (by kernel_rfl),call122⟩
def iL (xa:Tq3) (xd:Bool):Int->Option (Int⊕(Unit⊕Tq9)):=fun i1=>cond (decide (i1 < (xa.length:Int))) ((cond (xd) ((aa xa i1).bind fun x2=>some (!x2.2)) (some (false))).bind fun t3=>cond (t3) (some (.inr ((.inr (([],8)))))) (some (.inl (IntKind.wrap .i64 (i1 + 1))))) (some (.inr ((.inl ()))))
def nq (xa:Tq3) (xb:Tq3) (xc:Int) (xd:Bool):Option (Tq9) :=
 (cond (decide ((xa.length:Int)=0)) (some (true)) ((fg xa xb).bind fun t1=>some (!t1))).bind fun t2=>(cond (t2) (some (true)) ((aa xa 0).bind fun x3=>some (x3.2))).bind fun t4=>cond (t4) (some (([],8))) ((loop (iL xa xd) 1).bind fun o=>match o with | .inr r=>some r | .inl ()=>(aa xa 0).bind fun x5=>(aa xb 0).bind fun x6=>(subL xa 1 (xa.length:Int)).bind fun y7=>(subL xb 1 (xb.length:Int)).bind fun y8=>(f6 y7 y8 1 1 (([(x5.1,xc,3,0,false),(xc,x6.1,2,0,false)]:List Tq4))).bind fun l9=>some ((l9,0)))
def Hs:Hn Tryz.prog := .gj 4 ⟨[kdB 21],[]⟩ [] (.two 16 .nil (.cl lV [] .nil)) (.wt 22 (.gj 5 ⟨[kdB 28],[]⟩ [] (.two 22 .nil .nil) (.tw 28 .nil (.jx [] ⟨[],[]⟩ [] (.lp ⟨[kdI 10],[]⟩ (.tw 33 (.wt 37 (.gj 7 ⟨[kdB 45],[]⟩ [] (.two 37 .nil .nil) (.tw 45 .nil .nil))) .nil)) (.mix [([0,1,2,3,4,5,6,7,8,9,10,11,12,13],14)] [15] [] [] (.mix [] [0,1,2,3,4,5,6] [7,8,9] [] (.cl ud [] .nil)))))))
def Gr:Spec:=⟨123,⟨[(0,.dat Yq8),(1,.dat Yq8),kdI 2,kdB 3],[]⟩,[⟨[(0,.tup [.own 218 Yq6,.dat Yq2])],[]⟩],fun x=>nq x.1 x.2.1 x.2.2.1 x.2.2.2⟩
def HX:OkSpec Tryz.prog:=⟨Gr,ae func123 Hs (by kernel_rfl) (by kernel_rfl),call123⟩

def ck (xa:Tq4) (xb:(List Tq3)) (xc:Int):Option (Tq9) :=
 (iV (xa.1,xa.2.1,xa.2.2.1,xa.2.2.2.1,xa.2.2.2.2)).bind fun t1=>cond (!t1) (some (([],3))) ((gR xa.1).bind fun t2=>(cond (t2&&((decide (xa.2.1 < 0))||(decide ((xb.length:Int)<=xa.2.1)))) (some (true)) ((gO xa.1).bind fun t3=>some (t3&&((decide (xa.2.2.1 < 0))||(decide ((xb.length:Int)<=xa.2.2.1)))))).bind fun t4=>(cond (t4) (some (true)) ((gq xa.1).bind fun t5=>some (t5&&((decide (xa.2.2.2.1 < 0))||(decide (xc<=xa.2.2.2.1)))))).bind fun t6=>cond (t6) (some (([],7))) (cond (decide (xa.1=1)) ((aa xb xa.2.2.1).bind fun x7=>(aa xb xa.2.1).bind fun x8=>(gL x7 x8 1 0).bind fun (l9,i10)=>some ((l9,i10))) (cond (decide (xa.1=2)) ((aa xb xa.2.2.1).bind fun x11=>(aa xb xa.2.1).bind fun x12=>(nB x11 x12 xa.2.2.2.1 xa.2.2.2.2).bind fun (l13,i14)=>some ((l13,i14))) (cond (decide (xa.1=3)) ((aa xb xa.2.2.1).bind fun x15=>(aa xb xa.2.1).bind fun x16=>(nq x15 x16 xa.2.2.2.1 xa.2.2.2.2).bind fun (l17,i18)=>some ((l17,i18))) (some (([],0)))))))
def Hy:Hn Tryz.prog := .cl Hc [] (.tw 10 .nil (.cl zA [] (.gp 10 (.wt 26 (.gj 15 ⟨[kdB 42],[]⟩ [] (.two 26 .nil (.cl zM [] (.wt 30 (.gp 10 .nil)))) (.wt 43 (.gj 14 ⟨[kdB 58],[]⟩ [] (.two 43 .nil (.cl zf [] (.wt 47 (.gp 9 .nil)))) (.tw 58 .nil (.tw 61 (.mix [([0,1,2,3,4,5,6,7,8,9],10)] [11,12,13,14] [] [] (.cl pP [] .nil)) (.tw 77 (.mix [([0,1,2,3,4,5,6,7,8,9,10,11,12,13],14)] [15,16,17,18] [] [] (.cl GE [] .nil)) (.tw 97 (.mix [([0,1,2,3,4,5,6,7,8,9,10,11,12,13],14)] [15,16,17,18] [] [] (.cl HX [] .nil)) .nil)))))))))))
def HS:Spec:=⟨84,⟨[(0,.dat Yq6),(1,.dat (.sl Yq8)),kdI 2],[]⟩,[⟨[(0,.tup [.own 218 Yq6,.dat Yq2])],[]⟩],fun x=>ck x.1 x.2.1 x.2.2⟩
def HV:OkSpec Tryz.prog:=⟨HS,ae func84 Hy (by kernel_rfl) (by kernel_rfl),call84⟩

def fh (xa:Tq8):Option Int :=
 cond ((decide (xa.1 < 1))||(decide (4 < xa.1))) (some (3)) (cond (((((decide (xa.1=1))||(decide (xa.1=4)))&&(!decide ((xa.2.2.2.1.length:Int)=1)))||((decide (xa.1=2))&&(decide ((xa.2.2.2.1.length:Int)=0))))||((decide (xa.1=3))&&(!decide ((xa.2.2.2.1.length:Int)=0)))) (some (3)) (cond ((!decide (xa.1=4))&&(((!decide (xa.2.1=0))||(!decide (xa.2.2.1=0)))||(!decide ((xa.2.2.2.2.2.length:Int)=0)))) (some (3)) (cond (((decide (xa.1=1))||(decide (xa.1=3)))&&(!decide ((xa.2.2.2.2.1.length:Int)=0))) (some (3)) (cond (((decide (16 < (xa.2.2.2.1.length:Int)))||(decide (16 < (xa.2.2.2.2.1.length:Int))))||(decide (16 < (xa.2.2.2.2.2.length:Int)))) (some (6)) (some (0))))))
def G7:Hn Tryz.prog := .gp 3 (.tw 10 .nil (.wt 14 (.gp 3 (.wt 19 (.gp 4 (.wt 25 (.gp 9 (.wt 36 (.gp 9 (.tw 46 .nil (.wt 50 (.gp 14 (.tw 65 .nil (.wt 69 (.gp 3 (.wt 74 (.gp 4 (.tw 79 .nil (.wt 84 (.gp 4 (.wt 90 (.gp 4 (.tw 95 .nil .nil)))))))))))))))))))))))
def HZ:Spec:=⟨124,⟨[(0,.dat Yq5)],[]⟩,[⟨[kdI 0],[]⟩],fun x=>fh x⟩
def Hl:OkSpec Tryz.prog:=⟨HZ,ae func124 G7 (by kernel_rfl) (by kernel_rfl),call124⟩
def mU (xa:(List Int)) (xb:Int):Int->Option (Int⊕(Unit⊕Bool)):=fun i1=>cond (decide (i1 < (xa.length:Int))) ((aa xa i1).bind fun x2=>(cond (decide (x2 < 0)) (some (true)) ((aa xa i1).bind fun x3=>some (decide (xb<=x3)))).bind fun t4=>cond (t4) (some (.inr ((.inr (false))))) (some (.inl (IntKind.wrap .i64 (i1 + 1))))) (some (.inr ((.inl ()))))
def cZ (xa:(List Int)) (xb:Int):Option Bool :=
 (loop (mU xa xb) 0).bind fun o=>match o with | .inr r=>some r | .inl ()=>some (true)
def FW:Hn Tryz.prog := .jx [] ⟨[],[]⟩ [] (.lp ⟨[kdI 5],[]⟩ (.tw 9 (.wt 17 (.gj 6 ⟨[kdB 24],[]⟩ [] (.two 17 .nil .nil) (.tw 24 .nil .nil))) .nil)) .nil
def Gi:Spec:=⟨125,⟨[(0,.dat (.sl Yq2)),kdI 1],[]⟩,[⟨[kdB 0],[]⟩],fun x=>cZ x.1 x.2⟩
def lP:OkSpec Tryz.prog:=⟨Gi,ae func125 FW (by kernel_rfl) (by kernel_rfl),call125⟩
def kp (xa:Tq3) (xb:(List Int)):(Tq3×Int)->Option ((Tq3×Int)⊕(Tq3⊕(Tq3×Int))):=fun (l1,i2)=>cond (decide (i2 < (xa.length:Int))) ((aa xa i2).bind fun x3=>cond ((decide (x3.1 < 0))||(decide ((xb.length:Int)<=x3.1))) (some (.inr ((.inr (([],7)))))) ((aa xb x3.1).bind fun x4=>(aa xa i2).bind fun x5=>(app l1 (([(x4,x5.2)]:List (Int×Bool)))).bind fun z6=>some (.inl ((z6,IntKind.wrap .i64 (i2 + 1)))))) (some (.inr (.inl l1)))
def kK (xa:Tq3) (xb:(List Int)):Option ((Tq3×Int)) :=
 (loop (kp xa xb) ((([]:List (Int×Bool)),0))).bind fun o=>match o with | .inr r=>some r | .inl l1=>some ((l1,0))
def HT:Hn Tryz.prog := .jx [] ⟨[(6,.own 95 Yq3),(9,.any)],[bkC 2 26 [.nils]]⟩ [4,2] (.lp ⟨[(6,.own 95 Yq3),kdI 7],[bkC 2 26 [.nils]]⟩ (.tw 14 (.wt 25 (.gp 4 (.tw 30 .nil (.mix [([0,1,2,3,4,5,6,7,8,9,10,11],12)] [] [13,14] [] .nil)))) .nil)) .nil
def Hr:Spec:=⟨146,⟨[(0,.dat Yq8),(1,.dat (.sl Yq2))],[]⟩,[⟨[(0,.tup [.agg [.own 95 Yq3],.dat Yq2])],[]⟩],fun x=>kK x.1 x.2⟩
def zj:OkSpec Tryz.prog:=⟨Hr,ae func146 HT (by kernel_rfl) (by kernel_rfl),call146⟩
def na (xa:Tq5) (xb:(List Int)):Tq9->Option (Tq9⊕(List Tq4)):=fun (l1,i2)=>cond (decide (i2 < (xa.2.1.length:Int))) ((aa xa.2.1 i2).bind fun x3=>(aa xb x3.1).bind fun x4=>(aa xa.2.1 i2).bind fun x5=>(aa xb x5.2).bind fun x6=>(app l1 (([(x4,x6,4,i2,false)]:List Tq4))).bind fun z7=>some (.inl ((z7,IntKind.wrap .i64 (i2 + 1))))) (some (.inr (l1)))
def kx (xa:Tq5) (xb:(List Int)) (xc:(List Tq3)):Tq9->Option (Tq9⊕((List Tq4)⊕Tq9)):=fun (l1,i2)=>cond (decide (i2 < (xa.2.2.1.length:Int))) ((aa xa.2.2.1 i2).bind fun x3=>(kK x3 xb).bind fun (l4,i5)=>(aa xc i2).bind fun x6=>(gL x6 l4 5 (IntKind.wrap .i64 (16 * i2))).bind fun (l7,i8)=>cond (!decide (i8=0)) (some (.inr ((.inr (([],i8)))))) ((app l1 l7).bind fun z9=>some (.inl ((z9,IntKind.wrap .i64 (i2 + 1)))))) (some (.inr (.inl l1)))
def iU (xa:Tq5) (xb:(List Int)) (xc:(List Tq3)) (xd:Tq3):Option (Tq9) :=
 (gE (xa.1,xa.2.1,xa.2.2.1,xa.2.2.2)).bind fun i1=>cond (!decide (i1=0)) (some (([],i1))) (cond ((!decide ((xb.length:Int)=xa.1))||(!decide ((xc.length:Int)=(xa.2.2.1.length:Int)))) (some (([],2))) ((loop (na xa xb) ((([]:List Tq4),0))).bind fun l2=>(loop (kx xa xb xc) (l2,0)).bind fun o=>match o with | .inr r=>some r | .inl l3=>(kK xa.2.2.2 xb).bind fun (l4,i5)=>(gL l4 xd 6 0).bind fun (l6,i7)=>cond (!decide (i7=0)) (some (([],i7))) ((app l3 l6).bind fun z8=>some ((z8,0)))))
def He:Hn Tryz.prog := .cl zp [] (.tw 25 .nil (.wt 32 (.gp 6 (.tw 39 .nil (.jn [] ⟨[(11,.own 218 Yq6),(40,.any)],[]⟩ [4] (.lp ⟨[(11,.own 218 Yq6),kdI 12],[]⟩ (.tw 45 (.mix [([0,1,2,3,4,5,6,7,8,9,10,11,12,13,14,15,16,17,18,19,20],21)] [] [22,23] [] .nil) .nil)) (.jx [] ⟨[(11,.own 218 Yq6)],[]⟩ [6] (.lp ⟨[(11,.own 218 Yq6),kdI 13],[]⟩ (.tw 75 (.cl zj [] (.per 10 11 (.mix [([0,1,2,3,4,5,6],7)] [8,9,10,11,12] [] [] (.cl pP [] (.tw 100 .nil .nil))))) .nil)) (.cl zj [] (.per 10 11 (.cl pP [] (.tw 119 .nil .nil))))))))))
def Hx:Spec:=⟨126,⟨[(0,.dat Yq4),(1,.dat (.sl Yq2)),(2,.dat (.sl Yq8)),(3,.dat Yq8)],[]⟩,[⟨[(0,.tup [.own 218 Yq6,.dat Yq2])],[]⟩],fun x=>iU x.1 x.2.1 x.2.2.1 x.2.2.2⟩
def F6:OkSpec Tryz.prog:=⟨Hx,ae func126 He (by kernel_rfl) (by kernel_rfl),call126⟩
def iJ (xa:Tq8) (xb:jS):((List Tq3)×Int)->Option (((List Tq3)×Int)⊕(List Tq3)):=fun (l1,i2)=>cond (decide (i2 < (xa.2.2.2.2.1.length:Int))) ((aa xa.2.2.2.2.1 i2).bind fun x3=>(aa xb.2.2.1 x3).bind fun x4=>(app l1 (([x4]:List Tq3))).bind fun z5=>some (.inl ((z5,IntKind.wrap .i64 (i2 + 1))))) (some (.inr (l1)))
def cj (xa:Tq8) (xb:jS):Option (Tq9) :=
 (fh (xa.1,xa.2.1,xa.2.2.1,xa.2.2.2.1,xa.2.2.2.2.1,xa.2.2.2.2.2)).bind fun i1=>cond (!decide (i1=0)) (some (([],i1))) ((cZ xa.2.2.2.1 xb.1).bind fun t2=>(cond (!t2) (some (true)) ((cZ xa.2.2.2.2.1 (xb.2.2.1.length:Int)).bind fun t3=>some (!t3))).bind fun t4=>(cond (t4) (some (true)) ((cZ xa.2.2.2.2.2 xb.2.1).bind fun t5=>some (!t5))).bind fun t6=>cond (t6) (some (([],7))) ((cond (decide (xa.1=4)) ((cZ ([xa.2.2.1]:List Int) (xb.2.2.1.length:Int)).bind fun t7=>(cond (!t7) (some (true)) ((cZ ([xa.2.1]:List Int) (xb.2.2.2.2.length:Int)).bind fun t8=>some (!t8))).bind fun t9=>some (t9)) (some (false))).bind fun t10=>cond (t10) (some (([],7))) (cond ((decide (xa.1=3))&&(decide ((xb.2.2.1.length:Int)=0))) (some (([],14))) (cond (decide (xa.1=3)) ((aa xb.2.2.1 0).bind fun x11=>(gL x11 xb.2.2.2.1 7 0).bind fun (l12,i13)=>some ((l12,i13))) (cond (decide (xa.1=4)) ((loop (iJ xa xb) ((([]:List Tq3),0))).bind fun l14=>(aa xb.2.2.2.2 xa.2.1).bind fun x15=>(aa xb.2.2.1 xa.2.2.1).bind fun x16=>(iU (x15.1,x15.2.1,x15.2.2.1,x15.2.2.2) xa.2.2.2.2.2 l14 x16).bind fun (l17,i18)=>some ((l17,i18))) (some (([],0))))))))
def G2:Hn Tryz.prog := .cl Hl [] (.tw 12 .nil (.cl lP [] (.gj 7 ⟨[kdB 28],[]⟩ [] (.two 20 .nil (.cl lP [] .nil)) (.wt 29 (.gj 6 ⟨[kdB 36],[]⟩ [] (.two 29 .nil (.cl lP [] .nil)) (.tw 36 .nil (.wt 40 (.gj 18 ⟨[kdB 59],[]⟩ [] (.two 40 (.cl lP [4] (.wt 49 (.gj 8 ⟨[kdB 58],[]⟩ [] (.two 49 .nil (.cl lP [6] .nil)) .nil))) .nil) (.tw 59 .nil (.wt 63 (.gp 4 (.tw 68 .nil (.tw 71 (.mix [([0,1,2,3,4,5],6)] [7,8,9,10] [] [] (.cl pP [] .nil)) (.tw 83 (.jn [] ⟨[(7,.own 26 Yq8),(84,.any)],[]⟩ [4] (.lp ⟨[(7,.own 26 Yq8),kdI 8],[]⟩ (.tw 89 (.mix [([0,1,2,3,4,5,6,7,8,9],10)] [] [11,12] [] .nil) .nil)) (.mix [([0,1,2,3,4,5,6,7,8,9,10,11,12,13,14],15)] [16,17,18,19] [] [6] (.per 6 7 (.cl F6 [] .nil)))) .nil))))))))))))))
def Gz:Spec:=⟨85,⟨[(0,.dat Yq5),(1,.dat pX)],[]⟩,[⟨[(0,.tup [.own 218 Yq6,.dat Yq2])],[]⟩],fun x=>cj x.1 x.2⟩
def Gy:OkSpec Tryz.prog:=⟨Gz,ae func85 G2 (by kernel_rfl) (by kernel_rfl),call85⟩
end
section
open Go.RowKit _root_.Go.Proofs.Tryz
def uQ (xa:Tq1):(Int×Int)->Option ((Int×Int)⊕(Unit⊕Tq6)):=fun (i1,i2)=>cond (decide (i2 < (xa.2.2.2.2.2.2.length:Int))) ((aa xa.2.2.2.2.2.2 i2).bind fun x3=>cond (decide (65536 < (IntKind.wrap .i64 (i1 + (x3.1.length:Int))))) (some (.inr ((.inr ((6,5,i2,0)))))) (some (.inl ((IntKind.wrap .i64 (i1 + (x3.1.length:Int)),IntKind.wrap .i64 (i2 + 1)))))) (some (.inr ((.inl ()))))
def mS (xa:Tq1) (i1:Int) (x2:Tq2):Int->Option (Int⊕(Unit⊕(Int⊕(Unit⊕Tq6)))):=fun i3=>cond (decide (i3 < (x2.1.length:Int))) ((aa x2.1 i3).bind fun x4=>(ck (x4.1,x4.2.1,x4.2.2.1,x4.2.2.2.1,x4.2.2.2.2) xa.2.2.2.1 xa.2.1).bind fun (l5,i6)=>cond (!decide (i6=0)) (some (.inr ((.inr (.inr ((.inr ((i6,6,i1,i3))))))))) (some (.inl (IntKind.wrap .i64 (i3 + 1))))) (some (.inr ((.inl ()))))
def mV (xa:Tq1):Int->Option (Int⊕(Unit⊕Tq6)):=fun i1=>cond (decide (i1 < (xa.2.2.2.2.2.2.length:Int))) ((aa xa.2.2.2.2.2.2 i1).bind fun x2=>(loop (mS xa i1 x2) 0).bind fun o=>match o with | .inr r=>some r | .inl ()=>(aa xa.2.2.2.2.2.2 i1).bind fun x3=>(cj (x3.2.1,x3.2.2.1,x3.2.2.2.1,x3.2.2.2.2.1,x3.2.2.2.2.2.1,x3.2.2.2.2.2.2) (((xa.2.2.2.2.2.2.length:Int),xa.2.1,xa.2.2.2.1,xa.2.2.2.2.1,xa.2.2.2.2.2.1))).bind fun (l4,i5)=>cond (!decide (i5=0)) (some (.inr ((.inr ((i5,7,i1,0)))))) (some (.inl (IntKind.wrap .i64 (i1 + 1))))) (some (.inr ((.inl ()))))
def iO (xa:Tq1):Option Tq6 :=
 cond (decide ((xa.2.2.2.2.2.2.length:Int)=0)) (some ((14,5,0,0))) (cond (decide (65536 < (xa.2.2.2.2.2.2.length:Int))) (some ((6,5,0,0))) ((loop (uQ xa) (0,0)).bind fun o=>match o with | .inr r=>some r | .inl ()=>(loop (mV xa) 0).bind fun o=>match o with | .inr r=>some r | .inl ()=>some ((0,0,0,0))))
def Gw:Hn Tryz.prog := .tw 16 .nil (.tw 21 .nil (.jx [] ⟨[],[bkC 2 72 [.lit (.int .i64 0),.lit (.int .i64 0),.lit (.int .i64 0),.lit (.int .i64 0)]]⟩ [2] (.lp ⟨[kdI 3,kdI 4],[bkC 2 72 [.lit (.int .i64 0),.lit (.int .i64 0),.lit (.int .i64 0),.lit (.int .i64 0)]]⟩ (.tw 27 (.tw 40 .nil .nil) .nil)) (.jx [] ⟨[],[bkC 2 72 [.lit (.int .i64 0),.lit (.int .i64 0),.lit (.int .i64 0),.lit (.int .i64 0)]]⟩ [2] (.lp ⟨[kdI 6],[bkC 2 72 [.lit (.int .i64 0),.lit (.int .i64 0),.lit (.int .i64 0),.lit (.int .i64 0)]]⟩ (.tw 59 (.pl (.pl (.jx [] ⟨[],[bkC 2 72 [.lit (.int .i64 0),.lit (.int .i64 0),.lit (.int .i64 0),.lit (.int .i64 0)]]⟩ [2] (.lp ⟨[kdI 8],[bkC 2 72 [.lit (.int .i64 0),.lit (.int .i64 0),.lit (.int .i64 0),.lit (.int .i64 0)]]⟩ (.tw 71 (.mix [([0,1,2,3,4,5,6,7],8)] [9,10,11,12,13] [] [] (.cl HV [] (.tw 87 .nil .nil))) .nil)) (.mix [([0,1,2,3,4,5,6],7)] [8,9,10,11,12] [] [] (.cl Gy [] (.tw 104 .nil .nil)))))) .nil)) .nil)))
def Gn:Spec:=⟨48,⟨[(0,.dat Yq1)],[]⟩,[⟨[(0,.agg [.dat Yq2,.dat Yq2,.dat Yq2,.dat Yq2])],[]⟩],fun x=>iO x⟩
def HL:OkSpec Tryz.prog:=⟨Gn,ae func48 Gw (by kernel_rfl) (by kernel_rfl),call48⟩

def gG (xa:Tq1):Option Tq6 :=
 (nE xa).bind fun (i42,i43,i44,i45)=>cond (!decide (i42=0)) (some ((i42,i43,i44,i45))) ((nw xa).bind fun (i53,i54,i55,i56)=>cond (!decide (i53=0)) (some ((i53,i54,i55,i56))) ((iO xa).bind fun (i63,i65,i66,i67)=>some ((i63,i65,i66,i67))))
def GN:Hn Tryz.prog := .cl FX [] (.tw 8 .nil (.cl FO [] (.tw 14 .nil (.cl HL [] .nil))))
def GA:Spec:=⟨24,⟨[(0,.dat Yq1)],[]⟩,[⟨[(0,.agg [.dat Yq2,.dat Yq2,.dat Yq2,.dat Yq2])],[]⟩],fun x=>gG x⟩
def zx:OkSpec Tryz.prog:=⟨GA,ae func24 GN (by kernel_rfl) (by kernel_rfl),call24⟩

def gS (xa:Tq1):Option Bool :=
 (gG xa).bind fun (i15,i17,i18,i19)=>some (decide (i15=0))
def HY:Hn Tryz.prog := .cl zx [] .nil
def F9:Spec:=⟨22,⟨[(0,.dat Yq1)],[]⟩,[⟨[kdB 0],[]⟩],fun x=>gS x⟩
def zO:OkSpec Tryz.prog:=⟨F9,ae func22 HY (by kernel_rfl) (by kernel_rfl),call22⟩
def m6 (xa:(List Tq4)) (xb:Tq6):Tq9->Option (Tq9⊕(List Tq4)):=fun (l1,i2)=>cond (decide (i2 < (xa.length:Int))) (cond ((decide (xb.1=4))&&(decide (i2=xb.2.2.1))) ((aa xa (IntKind.wrap .i64 (i2 + 1))).bind fun x3=>(app l1 (([(x3.1,x3.2.1,x3.2.2.1,x3.2.2.2.1,x3.2.2.2.2)]:List Tq4))).bind fun z4=>some (.inl ((z4,IntKind.wrap .i64 (i2 + 1))))) (cond ((decide (xb.1=4))&&(decide (i2=(IntKind.wrap .i64 (xb.2.2.1 + 1))))) ((aa xa (IntKind.wrap .i64 (i2 - 1))).bind fun x5=>(app l1 (([(x5.1,x5.2.1,x5.2.2.1,x5.2.2.2.1,x5.2.2.2.2)]:List Tq4))).bind fun z6=>some (.inl ((z6,IntKind.wrap .i64 (i2 + 1))))) (cond (!decide (i2=xb.2.2.1)) ((aa xa i2).bind fun x7=>(app l1 (([(x7.1,x7.2.1,x7.2.2.1,x7.2.2.2.1,x7.2.2.2.2)]:List Tq4))).bind fun z8=>some (.inl ((z8,IntKind.wrap .i64 (i2 + 1))))) (cond (decide (xb.1=1)) ((app l1 (([(0,0,0,0,false)]:List Tq4))).bind fun z9=>some (.inl ((z9,IntKind.wrap .i64 (i2 + 1))))) (cond (decide (xb.1=3)) ((aa xa i2).bind fun x10=>(app l1 (([(x10.1,x10.2.1,x10.2.2.1,x10.2.2.2.1,x10.2.2.2.2)]:List Tq4))).bind fun z11=>(aa xa i2).bind fun x12=>(app z11 (([(x12.1,x12.2.1,x12.2.2.1,x12.2.2.2.1,x12.2.2.2.2)]:List Tq4))).bind fun z13=>some (.inl ((z13,IntKind.wrap .i64 (i2 + 1))))) (some (.inl ((l1,IntKind.wrap .i64 (i2 + 1)))))))))) (some (.inr (l1)))
def gz (xa:(List Tq4)) (xb:Tq6):Option (((List Tq4)×Bool)) :=
 cond (((decide (xb.2.2.1 < 0))||(decide ((xa.length:Int)<=xb.2.2.1)))||((decide (xb.1=4))&&(decide (xb.2.2.1=(IntKind.wrap .i64 ((xa.length:Int) - 1)))))) (some (([],false))) ((loop (m6 xa xb) ((([]:List Tq4),0))).bind fun l1=>some ((l1,true)))
def FU:Hn Tryz.prog := .gp 5 (.wt 18 (.gp 11 (.tw 30 .nil (.jn [] ⟨[(6,.own 63 Yq6),(31,.any)],[]⟩ [2] (.lp ⟨[(6,.own 63 Yq6),kdI 7],[]⟩ (.tw 35 (.wt 41 (.gp 4 (.tw 46 .nil (.wt 58 (.gp 5 (.tw 64 .nil (.tw 76 .nil (.tw 86 .nil (.tw 93 .nil .nil))))))))) .nil)) .nil))))
def Gf:Spec:=⟨44,⟨[(0,.dat (.sl Yq6)),(1,.dat cg)],[]⟩,[⟨[(0,.tup [.own 63 Yq6,.dat .bool])],[]⟩],fun x=>gz x.1 x.2⟩
def F3:OkSpec Tryz.prog:=⟨Gf,ae func44 FU (by kernel_rfl) (by kernel_rfl),call44⟩
def kv (xa:(List Tq3)) (xb:Tq6) (i1:Int):(Int×Tq3)->Option ((Int×Tq3)⊕Tq3):=fun (i2,l3)=>(aa xa i1).bind fun x4=>cond (decide (i2 < (x4.length:Int))) ((aa xa i1).bind fun x5=>(aa x5 i2).bind fun x6=>(cond ((decide (i1=xb.2.1))&&(decide (i2=xb.2.2.1))) (some (xb.2.2.2)) (some (x6.1)):Option Int).bind fun i7=>(app l3 (([(i7,x6.2)]:List (Int×Bool)))).bind fun z8=>some (.inl ((IntKind.wrap .i64 (i2 + 1),z8)))) (some (.inr (l3)))
def nc (xa:(List Tq3)) (xb:Tq6):((List Tq3)×Int)->Option (((List Tq3)×Int)⊕(List Tq3)):=fun (l1,i2)=>cond (decide (i2 < (xa.length:Int))) ((loop (kv xa xb i2) (0,[])).bind fun l3=>(app l1 (([l3]:List Tq3))).bind fun z4=>some (.inl ((z4,IntKind.wrap .i64 (i2 + 1))))) (some (.inr (l1)))
def kP (xa:(List Tq3)) (xb:Tq6):Option (((List Tq3)×Bool)) :=
 cond (decide (xb.2.1 < 0)) (some (([],false))) (cond (decide ((xa.length:Int)<=xb.2.1)) (some (([],false))) (cond (decide (xb.2.2.1 < 0)) (some (([],false))) ((aa xa xb.2.1).bind fun x1=>cond (decide ((x1.length:Int)<=xb.2.2.1)) (some (([],false))) ((loop (nc xa xb) ((([]:List Tq3),0))).bind fun l2=>some ((l2,true))))))
def Hk:Hn Tryz.prog := .mix [] [0,1,2,3,4,5,6,7,8,9,10,11,12,13,14,15,16,17,18,19,20,21,22,23,24,25,26] [] [] (.two 14 .nil (.two 21 .nil (.two 26 .nil (.tw 37 .nil (.jn [] ⟨[(6,.own 26 Yq8),(38,.any)],[]⟩ [2] (.lp ⟨[(6,.own 26 Yq8),kdI 7],[]⟩ (.tw 42 (.pl (.pl (.jn [] ⟨[],[bkC 6 26 [.own 95 Yq3]]⟩ [6] (.lp ⟨[kdI 9],[bkC 6 26 [.own 95 Yq3]]⟩ (.tw 53 (.pl (.pl (.sq [(12,1)] ⟨[],[bkC 12 95 [.dat Yq2,.is 1 (.any)],bkU 15]⟩ [12] (.wt 68 (.gp 4 (.tw 73 .nil .nil))) .nil))) .nil)) (.per 9 10 .nil)))) .nil)) .nil)))))
def GS:Spec:=⟨45,⟨[(0,.dat (.sl Yq8)),(1,.dat cg)],[]⟩,[⟨[(0,.tup [.own 26 Yq8,.dat .bool])],[]⟩],fun x=>kP x.1 x.2⟩
def HC:OkSpec Tryz.prog:=⟨GS,ae func45 Hk (by kernel_rfl) (by kernel_rfl),call45⟩
def fc (xa:Tq1) (xb:Tq6):(Tq7×Int)->Option ((Tq7×Int)⊕Tq7):=fun (l1,i2)=>cond (decide (i2 < (xa.2.2.1.length:Int))) (cond ((decide (xb.1=7))||(!decide (i2=xb.2.1))) ((aa xa.2.2.1 i2).bind fun x3=>(app l1 (([(x3.1,x3.2)]:List (Int×Int)))).bind fun z4=>some (.inl ((z4,IntKind.wrap .i64 (i2 + 1))))) (some (.inl ((l1,IntKind.wrap .i64 (i2 + 1)))))) (some (.inr (l1)))
def gl (xa:Tq1) (xb:Tq6):Option ((Int×Int×Tq7×(List Tq3)×Tq3×(List Tq5)×(List Tq2)×Bool)) :=
 cond ((decide (1<=xb.1))&&(decide (xb.1<=4))) (cond ((decide (xb.2.1 < 0))||(decide ((xa.2.2.2.2.2.2.length:Int)<=xb.2.1))) (some ((xa.1,xa.2.1,xa.2.2.1,xa.2.2.2.1,xa.2.2.2.2.1,xa.2.2.2.2.2.1,xa.2.2.2.2.2.2,false))) ((aa xa.2.2.2.2.2.2 xb.2.1).bind fun x1=>(gz x1.1 (xb.1,xb.2.1,xb.2.2.1,xb.2.2.2)).bind fun (l2,t3)=>(app (([]:List Tq2)) xa.2.2.2.2.2.2).bind fun z4=>(aa z4 xb.2.1).bind fun _=>(aa z4 xb.2.1).bind fun x5=>(aU xb.2.1 xb.2.1).bind fun _=>some ((xa.1,xa.2.1,xa.2.2.1,xa.2.2.2.1,xa.2.2.2.2.1,xa.2.2.2.2.2.1,z4.set xb.2.1.toNat ((l2,(x5.2.1,x5.2.2.1,x5.2.2.2.1,x5.2.2.2.2.1,x5.2.2.2.2.2.1,x5.2.2.2.2.2.2))),t3)))) ((cond (decide (xb.1=6)) (some ((IntKind.wrap .i64 (xa.2.1 + 1),xa.2.1))) (some ((xa.2.1,xb.2.2.2))):Option (Int×Int)).bind fun (i6,i7)=>cond ((decide (xb.1=5))||(decide (xb.1=6))) ((kP xa.2.2.2.1 (xb.1,xb.2.1,xb.2.2.1,i7)).bind fun (l8,t9)=>some ((xa.1,i6,xa.2.2.1,l8,xa.2.2.2.2.1,xa.2.2.2.2.2.1,xa.2.2.2.2.2.2,t9))) (cond ((!decide (xb.1=7))&&(((!decide (xb.1=8))||(decide (xb.2.1 < 0)))||(decide ((xa.2.2.1.length:Int)<=xb.2.1)))) (some ((xa.1,i6,xa.2.2.1,xa.2.2.2.1,xa.2.2.2.2.1,xa.2.2.2.2.2.1,xa.2.2.2.2.2.2,false))) ((loop (fc xa xb) ((([]:List (Int×Int)),0))).bind fun l10=>(cond (decide (xb.1=7)) ((app l10 (([(xb.2.1,xb.2.2.1)]:List (Int×Int)))).bind fun z11=>some (z11)) (some (l10)):Option (Tq7)).bind fun l12=>some ((xa.1,i6,l12,xa.2.2.2.1,xa.2.2.2.2.1,xa.2.2.2.2.2.1,xa.2.2.2.2.2.2,true)))))
def FY:Hn Tryz.prog := .gp 3 (.tw 20 (.wt 24 (.gp 6 (.tw 31 .nil (.mix [([0,1,2,3,4,5,6,7],8)] [9,10,11,12,13] [] [] (.cl F3 [] (.cls 10 11 (.wt 55 (.opn 10 1000037 (.per 6 7 (.wt 1000017 (.cls 10 14 (.per 10 17 .nil)))))))))))) (.sq [(0,0),(0,2),(0,3),(0,4),(0,5),(0,6),(2,0),(2,1),(2,2)] ⟨[],[bkC 0 30 [.is 2 (.any),.dat Yq2,.is 3 (.any),.is 4 (.any),.is 5 (.any),.is 6 (.any),.is 7 (.any)],bkC 2 42 [.is 8 (.any),.is 9 (.any),.is 10 (.any),.dat Yq2],bkU 6,bkU 7,bkU 8,bkU 9,bkU 10,bkU 11,bkU 12,bkU 13,bkU 14]⟩ [2,0] (.tw 62 .nil .nil) (.wt 73 (.gp 3 (.tw 77 (.cl HC [] (.per 17 18 .nil)) (.wt 92 (.gp 16 (.tw 109 .nil (.jn [] ⟨[(11,.own 84 Yq7),(111,.any)],[]⟩ [17] (.lp ⟨[(11,.own 84 Yq7),kdI 12],[]⟩ (.tw 116 (.wt 122 (.gp 4 (.tw 127 .nil .nil))) .nil)) (.sq [] ⟨[(11,.own 84 Yq7)],[]⟩ [19] (.tw 138 .nil .nil) (.per 21 22 .nil)))))))))))
def HK:Spec:=⟨23,⟨[(0,.dat Yq1),(1,.dat cg)],[]⟩,[⟨[(0,.tup [.agg [.dat Yq2,.dat Yq2,.dat (.sl Yq7),.dat (.sl Yq8),.dat (.sl Yq3),.dat (.sl Yq4),.dat Yq9],.dat .bool])],[]⟩],fun x=>gl x.1 x.2⟩
def GK:OkSpec Tryz.prog:=⟨HK,ae func23 FY (by kernel_rfl) (by kernel_rfl),call23⟩

def fe (xa:Tq1) (xb:Tq6):Option me :=
 (gS xa).bind fun t81=>cond (!t81) (some ((0,0,[],[],[],[],[],2))) ((gl xa (xb.1,xb.2.1,xb.2.2.1,xb.2.2.2)).bind fun (i88,i89,l90,l91,l92,l93,l94,t95)=>cond (!t95) (some ((0,0,[],[],[],[],[],7))) ((gG (i88,i89,l90,l91,l92,l93,l94)).bind fun (i1,i2,i3,i4)=>cond (!decide (i1=0)) (some ((0,0,[],[],[],[],[],i1))) (some ((i88,i89,l90,l91,l92,l93,l94,0)))))
def HQ:Hn Tryz.prog := .cl zO [] (.tw 11 .nil (.cl GK [] (.tw 20 .nil (.cl zx [] (.tw 26 (.mix [([0,1,2],3)] [4] [] [4] .nil) .nil)))))
def FS:Spec:=⟨9,⟨[(0,.dat Yq1),(1,.dat cg)],[]⟩,[⟨[(0,.tup [.agg [.dat Yq2,.dat Yq2,.dat (.sl Yq7),.dat (.sl Yq8),.dat (.sl Yq3),.dat (.sl Yq4),.dat Yq9],.dat Yq2])],[]⟩],fun x=>fe x.1 x.2⟩
def pm:OkSpec Tryz.prog:=⟨FS,ae func9 HQ (by kernel_rfl) (by kernel_rfl),call9⟩
def qN (xa:Tq7) (xb:Tq7):Int->Option (Int⊕(Unit⊕Bool)):=fun i1=>cond (decide (i1 < (xa.length:Int))) ((aa xa i1).bind fun x2=>(aa xb i1).bind fun x3=>cond (!((decide (x2.1=x3.1))&&((decide (x2.2=x3.2))))) (some (.inr ((.inr (false))))) (some (.inl (IntKind.wrap .i64 (i1 + 1))))) (some (.inr ((.inl ()))))
def kC (xa:Tq7) (xb:Tq7):Option Bool :=
 cond (!decide ((xa.length:Int)=(xb.length:Int))) (some (false)) ((loop (qN xa xb) 0).bind fun o=>match o with | .inr r=>some r | .inl ()=>some (true))
def G4:Hn Tryz.prog := .tw 10 .nil (.jx [] ⟨[],[]⟩ [] (.lp ⟨[kdI 5],[]⟩ (.tw 14 (.mix [] [0,1,2,3,4,5,6,7,8] [] [] (.tw 25 .nil .nil)) .nil)) .nil)
def G0:Spec:=⟨25,⟨[(0,.dat (.sl Yq7)),(1,.dat (.sl Yq7))],[]⟩,[⟨[kdB 0],[]⟩],fun x=>kC x.1 x.2⟩
def za:OkSpec Tryz.prog:=⟨G0,ae func25 G4 (by kernel_rfl) (by kernel_rfl),call25⟩
def ne (xa:Tq3) (xb:Tq3):Int->Option (Int⊕(Unit⊕Bool)):=fun i1=>cond (decide (i1 < (xa.length:Int))) ((aa xa i1).bind fun x2=>(aa xb i1).bind fun x3=>cond (!decide (x2.1=x3.1)) (some (.inr ((.inr (false))))) (some (.inl (IntKind.wrap .i64 (i1 + 1))))) (some (.inr ((.inl ()))))
def iT (xa:Tq3) (xb:Tq3):Option Bool :=
 (fg xa xb).bind fun t1=>cond (!t1) (some (false)) ((loop (ne xa xb) 0).bind fun o=>match o with | .inr r=>some r | .inl ()=>some (true))
def GH:Hn Tryz.prog := .cl lV [] (.tw 9 .nil (.jx [] ⟨[],[]⟩ [] (.lp ⟨[kdI 5],[]⟩ (.tw 14 (.mix [] [0,1,2,3,4,5,6,7,8,9,10,11,12] [] [] (.tw 29 .nil .nil)) .nil)) .nil))
def FK:Spec:=⟨27,⟨[(0,.dat Yq8),(1,.dat Yq8)],[]⟩,[⟨[kdB 0],[]⟩],fun x=>iT x.1 x.2⟩
def tW:OkSpec Tryz.prog:=⟨FK,ae func27 GH (by kernel_rfl) (by kernel_rfl),call27⟩
def qP (xa:(List Tq3)) (xb:(List Tq3)):Int->Option (Int⊕(Unit⊕Bool)):=fun i1=>cond (decide (i1 < (xa.length:Int))) ((aa xa i1).bind fun x2=>(aa xb i1).bind fun x3=>(iT x2 x3).bind fun t4=>cond (!t4) (some (.inr ((.inr (false))))) (some (.inl (IntKind.wrap .i64 (i1 + 1))))) (some (.inr ((.inl ()))))
def kE (xa:(List Tq3)) (xb:(List Tq3)):Option Bool :=
 cond (!decide ((xa.length:Int)=(xb.length:Int))) (some (false)) ((loop (qP xa xb) 0).bind fun o=>match o with | .inr r=>some r | .inl ()=>some (true))
def FM:Hn Tryz.prog := .tw 10 .nil (.jx [] ⟨[],[]⟩ [] (.lp ⟨[kdI 5],[]⟩ (.tw 14 (.mix [] [0,1,2,3,4,5,6,7] [8,9] [] (.cl tW [] (.tw 26 .nil .nil))) .nil)) .nil)
def Hz:Spec:=⟨26,⟨[(0,.dat (.sl Yq8)),(1,.dat (.sl Yq8))],[]⟩,[⟨[kdB 0],[]⟩],fun x=>kE x.1 x.2⟩
def zl:OkSpec Tryz.prog:=⟨Hz,ae func26 FM (by kernel_rfl) (by kernel_rfl),call26⟩

def qZ (xa:Tq5) (xb:Tq5):Option Bool :=
 (cond (decide (xa.1=xb.1)) ((kC xa.2.1 xb.2.1).bind fun t62=>some (t62)) (some (false))).bind fun t58=>(cond (t58) ((kE xa.2.2.1 xb.2.2.1).bind fun t77=>some (t77)) (some (false))).bind fun t73=>(cond (t73) ((iT xa.2.2.2 xb.2.2.2).bind fun t92=>some (t92)) (some (false))).bind fun t88=>some (t88)
def GD:Hn Tryz.prog := .gj 5 ⟨[kdB 16],[]⟩ [] (.two 10 (.cl za [] .nil) .nil) (.wt 17 (.gj 5 ⟨[kdB 23],[]⟩ [] (.two 17 (.cl zl [] .nil) .nil) (.wt 24 (.gj 5 ⟨[kdB 30],[]⟩ [] (.two 24 (.cl tW [] .nil) .nil) .nil))))
def GT:Spec:=⟨28,⟨[(0,.dat Yq4),(1,.dat Yq4)],[]⟩,[⟨[kdB 0],[]⟩],fun x=>qZ x.1 x.2⟩
def G1:OkSpec Tryz.prog:=⟨GT,ae func28 GD (by kernel_rfl) (by kernel_rfl),call28⟩
def nf (xa:(List Int)) (xb:(List Int)):Int->Option (Int⊕(Unit⊕Bool)):=fun i1=>cond (decide (i1 < (xa.length:Int))) ((aa xa i1).bind fun x2=>(aa xb i1).bind fun x3=>cond (!decide (x2=x3)) (some (.inr ((.inr (false))))) (some (.inl (IntKind.wrap .i64 (i1 + 1))))) (some (.inr ((.inl ()))))
def gI (xa:(List Int)) (xb:(List Int)):Option Bool :=
 cond (!decide ((xa.length:Int)=(xb.length:Int))) (some (false)) ((loop (nf xa xb) 0).bind fun o=>match o with | .inr r=>some r | .inl ()=>some (true))
def GR:Hn Tryz.prog := .tw 10 .nil (.jx [] ⟨[],[]⟩ [] (.lp ⟨[kdI 5],[]⟩ (.tw 14 (.mix [] [0,1,2,3,4,5,6,7,8] [] [] (.tw 25 .nil .nil)) .nil)) .nil)
def Gb:Spec:=⟨50,⟨[(0,.dat (.sl Yq2)),(1,.dat (.sl Yq2))],[]⟩,[⟨[kdB 0],[]⟩],fun x=>gI x.1 x.2⟩
def ua:OkSpec Tryz.prog:=⟨Gb,ae func50 GR (by kernel_rfl) (by kernel_rfl),call50⟩

def q9 (xa:Tq8) (xb:Tq8):Option Bool :=
 (cond (((decide (xa.1=xb.1))&&(decide (xa.2.1=xb.2.1)))&&(decide (xa.2.2.1=xb.2.2.1))) ((gI xa.2.2.2.1 xb.2.2.2.1).bind fun t70=>some (t70)) (some (false))).bind fun t66=>(cond (t66) ((gI xa.2.2.2.2.1 xb.2.2.2.2.1).bind fun t85=>some (t85)) (some (false))).bind fun t81=>(cond (t81) ((gI xa.2.2.2.2.2 xb.2.2.2.2.2).bind fun t1=>some (t1)) (some (false))).bind fun t96=>some (t96)
def G3:Hn Tryz.prog := .gp 5 (.wt 17 (.gp 5 (.wt 24 (.gj 5 ⟨[kdB 30],[]⟩ [] (.two 24 (.cl ua [] .nil) .nil) (.wt 31 (.gj 5 ⟨[kdB 37],[]⟩ [] (.two 31 (.cl ua [] .nil) .nil) (.wt 38 (.gj 5 ⟨[kdB 44],[]⟩ [] (.two 38 (.cl ua [] .nil) .nil) .nil))))))))
def HN:Spec:=⟨29,⟨[(0,.dat Yq5),(1,.dat Yq5)],[]⟩,[⟨[kdB 0],[]⟩],fun x=>q9 x.1 x.2⟩
def GF:OkSpec Tryz.prog:=⟨HN,ae func29 G3 (by kernel_rfl) (by kernel_rfl),call29⟩
def qR (xa:Tq1) (xb:Tq1):Int->Option (Int⊕(Unit⊕Bool)):=fun i1=>cond (decide (i1 < (xa.2.2.2.2.2.1.length:Int))) ((aa xa.2.2.2.2.2.1 i1).bind fun x2=>(aa xb.2.2.2.2.2.1 i1).bind fun x3=>(qZ (x2.1,x2.2.1,x2.2.2.1,x2.2.2.2) (x3.1,x3.2.1,x3.2.2.1,x3.2.2.2)).bind fun t4=>cond (!t4) (some (.inr ((.inr (false))))) (some (.inl (IntKind.wrap .i64 (i1 + 1))))) (some (.inr ((.inl ()))))
def qQ (x1:Tq2) (x2:Tq2):Int->Option (Int⊕(Unit⊕(Int⊕(Unit⊕Bool)))):=fun i3=>cond (decide (i3 < (x1.1.length:Int))) ((aa x1.1 i3).bind fun x4=>(aa x2.1 i3).bind fun x5=>cond (!((decide (x4.1=x5.1))&&((decide (x4.2.1=x5.2.1))&&((decide (x4.2.2.1=x5.2.2.1))&&((decide (x4.2.2.2.1=x5.2.2.2.1))&&(x4.2.2.2.2 == x5.2.2.2.2)))))) (some (.inr ((.inr (.inr ((.inr (false)))))))) (some (.inl (IntKind.wrap .i64 (i3 + 1))))) (some (.inr ((.inl ()))))
def qS (xa:Tq1) (xb:Tq1):Int->Option (Int⊕(Unit⊕Bool)):=fun i1=>cond (decide (i1 < (xa.2.2.2.2.2.2.length:Int))) ((aa xa.2.2.2.2.2.2 i1).bind fun x2=>(aa xb.2.2.2.2.2.2 i1).bind fun x3=>cond (!decide ((x2.1.length:Int)=(x3.1.length:Int))) (some (.inr ((.inr (false))))) ((aa xa.2.2.2.2.2.2 i1).bind fun x4=>(aa xb.2.2.2.2.2.2 i1).bind fun x5=>(q9 (x4.2.1,x4.2.2.1,x4.2.2.2.1,x4.2.2.2.2.1,x4.2.2.2.2.2.1,x4.2.2.2.2.2.2) (x5.2.1,x5.2.2.1,x5.2.2.2.1,x5.2.2.2.2.1,x5.2.2.2.2.2.1,x5.2.2.2.2.2.2)).bind fun t6=>cond (!t6) (some (.inr ((.inr (false))))) ((loop (qQ x2 x3) 0).bind fun o=>match o with | .inr r=>some r | .inl ()=>some (.inl (IntKind.wrap .i64 (i1 + 1)))))) (some (.inr ((.inl ()))))
def gK (xa:Tq1) (xb:Tq1):Option Bool :=
 (cond ((!decide (xa.1=xb.1))||(!decide (xa.2.1=xb.2.1))) (some (true)) ((kC xa.2.2.1 xb.2.2.1).bind fun t1=>some (!t1))).bind fun t2=>(cond (t2) (some (true)) ((kE xa.2.2.2.1 xb.2.2.2.1).bind fun t3=>some (!t3))).bind fun t4=>(cond (t4) (some (true)) ((iT xa.2.2.2.2.1 xb.2.2.2.2.1).bind fun t5=>some (!t5))).bind fun t6=>cond ((t6||(!decide ((xa.2.2.2.2.2.1.length:Int)=(xb.2.2.2.2.2.1.length:Int))))||(!decide ((xa.2.2.2.2.2.2.length:Int)=(xb.2.2.2.2.2.2.length:Int)))) (some (false)) ((loop (qR xa xb) 0).bind fun o=>match o with | .inr r=>some r | .inl ()=>(loop (qS xa xb) 0).bind fun o=>match o with | .inr r=>some r | .inl ()=>some (true))
def GC:Hn Tryz.prog := .gp 5 (.wt 22 (.gj 6 ⟨[kdB 29],[]⟩ [] (.two 22 .nil (.cl za [] .nil)) (.wt 30 (.gj 6 ⟨[kdB 37],[]⟩ [] (.two 30 .nil (.cl zl [] .nil)) (.wt 38 (.gj 6 ⟨[kdB 45],[]⟩ [] (.two 38 .nil (.cl tW [] .nil)) (.wt 46 (.gp 7 (.wt 55 (.gp 7 (.tw 63 .nil (.jx [] ⟨[],[]⟩ [] (.lp ⟨[kdI 5],[]⟩ (.tw 68 (.mix [] [0,1,2,3,4,5,6,7,8,9] [10,11] [] (.cl G1 [] (.tw 82 .nil .nil))) .nil)) (.jx [] ⟨[],[]⟩ [] (.lp ⟨[kdI 6],[]⟩ (.tw 87 (.mix [] [0,1,2,3,4,5,6,7,8,9,10,11,12,13] [] [] (.mix [] [0,1,2,3,4,5,6,7,8,9,10,11,12,13,14,15,16,17] [18,19,20] [] (.two 107 .nil (.cl GF [] (.tw 122 .nil (.jx [] ⟨[],[]⟩ [] (.lp ⟨[kdI 9],[]⟩ (.tw 126 (.mix [] [0,1,2,3,4,5,6,7,8] [] [] (.tw 137 .nil .nil)) .nil)) .nil)))))) .nil)) .nil)))))))))))))
def HW:Spec:=⟨10,⟨[(0,.dat Yq1),(1,.dat Yq1)],[]⟩,[⟨[kdB 0],[]⟩],fun x=>gK x.1 x.2⟩
def zD:OkSpec Tryz.prog:=⟨HW,ae func10 GC (by kernel_rfl) (by kernel_rfl),call10⟩
def gC (xb:(List Tq6)):pZ->Option (pZ⊕lZ):=fun (i1,i2,i3,i4,l5,l6,l7,l8,l9)=>cond (decide (i2 < (xb.length:Int))) ((aa xb i2).bind fun x10=>(eh (i3,i4,l5,l6,l7,l8,l9) (x10.1,x10.2.1,x10.2.2.1,x10.2.2.2)).bind fun (i11,i12,l13,l14,l15,l16,l17,i18)=>cond (!decide (i18=0)) (some (.inl ((IntKind.wrap .i64 (i1 + 1),IntKind.wrap .i64 (i2 + 1),i3,i4,l5,l6,l7,l8,l9)))) (some (.inl ((i1,IntKind.wrap .i64 (i2 + 1),i11,i12,l13,l14,l15,l16,l17))))) (some (.inr (((i1,i3,i4,l5,l6,l7,l8,l9)))))
def k7 (xa:Tq1) (xb:(List Tq6)):Option me :=
 (gV xa).bind fun t1=>cond (!t1) (some ((0,0,[],[],[],[],[],(xb.length:Int)))) ((gJ xa).bind fun (i2,i3,l4,l5,l6,l7,l8)=>(loop (gC xb) (0,0,i2,i3,l4,l5,l6,l7,l8)).bind fun (i9,i10,i11,l12,l13,l14,l15,l16)=>some ((i10,i11,l12,l13,l14,l15,l16,i9)))
def Hj:Hn Tryz.prog := .cl Aq [] (.tw 14 .nil (.cl Ah [] (.per 6 7 (.per 12 13 (.jn [] ⟨[kdI 7,(19,.any)],[bkC 14 30 [.dat Yq2,.dat Yq2,.dat (.sl Yq7),.dat (.sl Yq8),.dat (.sl Yq3),.dat (.sl Yq4),.dat Yq9]]⟩ [14,10,8,4,0] (.per 4 5 (.per 8 9 (.per 10 11 (.lp ⟨[kdI 7,kdI 22],[bkC 14 30 [.dat Yq2,.dat Yq2,.dat (.sl Yq7),.dat (.sl Yq8),.dat (.sl Yq3),.dat (.sl Yq4),.dat Yq9]]⟩ (.tw 23 (.cl pC [] (.tw 33 .nil (.per 21 22 (.per 23 24 (.per 25 26 .nil))))) .nil))))) .nil)))))
def Gp:Spec:=⟨11,⟨[(0,.dat Yq1),(1,.dat (.sl cg))],[]⟩,[⟨[(0,.tup [.agg [.dat Yq2,.dat Yq2,.dat (.sl Yq7),.dat (.sl Yq8),.dat (.sl Yq3),.dat (.sl Yq4),.dat Yq9],.dat Yq2])],[]⟩],fun x=>k7 x.1 x.2⟩
def Gx:OkSpec Tryz.prog:=⟨Gp,ae func11 Hj (by kernel_rfl) (by kernel_rfl),call11⟩
def gt (xb:(List Tq6)):pZ->Option (pZ⊕lZ):=fun (i1,i2,i3,i4,l5,l6,l7,l8,l9)=>cond (decide (i2 < (xb.length:Int))) (((aa xb i2).bind fun x10=>((fe (i3,i4,l5,l6,l7,l8,l9) (x10.1,x10.2.1,x10.2.2.1,x10.2.2.2)).bind fun (i11,i12,l13,l14,l15,l16,l17,i18)=>some ((i18,i11,i12,l13,l14,l15,l16,l17))).bind fun x19=>((fe (i3,i4,l5,l6,l7,l8,l9) (x10.1,x10.2.1,x10.2.2.1,x10.2.2.2)).bind fun (i20,i21,l22,l23,l24,l25,l26,i27)=>some ((i27,i20,i21,l22,l23,l24,l25,l26))).bind fun y28=>agr x19 y28 (some x19):Option (lZ)).bind fun (i29,i30,i31,l32,l33,l34,l35,l36)=>cond (decide (i29=0)) (some (.inl ((i1,IntKind.wrap .i64 (i2 + 1),i30,i31,l32,l33,l34,l35,l36)))) (some (.inl ((IntKind.wrap .i64 (i1 + 1),IntKind.wrap .i64 (i2 + 1),i3,i4,l5,l6,l7,l8,l9))))) (some (.inr (((i1,i3,i4,l5,l6,l7,l8,l9)))))
def kR (xa:Tq1) (xb:(List Tq6)):Option me :=
 (gS xa).bind fun t1=>cond (!t1) (some ((0,0,[],[],[],[],[],(xb.length:Int)))) ((loop (gt xb) (0,0,xa.1,xa.2.1,xa.2.2.1,xa.2.2.2.1,xa.2.2.2.2.1,xa.2.2.2.2.2.1,xa.2.2.2.2.2.2)).bind fun (i2,i3,i4,l5,l6,l7,l8,l9)=>some ((i3,i4,l5,l6,l7,l8,l9,i2)))
def HI:Hn Tryz.prog := .cl zO [] (.tw 12 .nil (.jn [] ⟨[kdI 6],[bkC 0 30 [.dat Yq2,.dat Yq2,.dat (.sl Yq7),.dat (.sl Yq8),.dat (.sl Yq3),.dat (.sl Yq4),.dat Yq9]]⟩ [0] (.lp ⟨[kdI 6,kdI 7],[bkC 0 30 [.dat Yq2,.dat Yq2,.dat (.sl Yq7),.dat (.sl Yq8),.dat (.sl Yq3),.dat (.sl Yq4),.dat Yq9]]⟩ (.tw 19 (.tr (.still [0,1,2,3,4] (.alt 5 (.still [6,7,8] (.alt 9 (.alt 10 (.leaf [11]) .done) .done)) (.alt 9 (.alt 5 (.still [6,7,8] (.alt 10 (.leaf [11]) .done)) .done) .done))) ⟨[(8,.ptr 0 0),kdI 9],[bkN 30 [.dat Yq2,.dat Yq2,.dat (.sl Yq7),.dat (.sl Yq8),.dat (.sl Yq3),.dat (.sl Yq4),.dat Yq9]]⟩ [] (.two 0 (.cl pm [] .nil) (.cl pm [] .nil)) (.tw 32 .nil .nil)) .nil)) .nil))
def Hh:Spec:=⟨12,⟨[(0,.dat Yq1),(1,.dat (.sl cg))],[]⟩,[⟨[(0,.tup [.agg [.dat Yq2,.dat Yq2,.dat (.sl Yq7),.dat (.sl Yq8),.dat (.sl Yq3),.dat (.sl Yq4),.dat Yq9],.dat Yq2])],[]⟩],fun x=>kR x.1 x.2⟩
def Ga:OkSpec Tryz.prog:=⟨Hh,ae func12 HI (by kernel_rfl) (by kernel_rfl),call12⟩

def iS (xa:Int):Option aT :=
 cond ((decide (xa < 1))||(decide (8 < xa))) (some (([63]:List UInt8))) ((aa (([([98,108,97,110,107]:List UInt8),([100,114,111,112]:List UInt8),([116,119,105,99,101]:List UInt8),([115,119,97,112]:List UInt8),([114,101,103,105,111,110]:List UInt8),([108,111,110,101]:List UInt8),([100,101,99,108,97,114,101]:List UInt8),([117,110,100,101,99,108,97,114,101]:List UInt8)]:List aT)) (IntKind.wrap .i64 (xa - 1))).bind fun x21=>some (x21))
def GG:Hn Tryz.prog := .gp 2 (.tw 8 .nil .nil)
def HP:Spec:=⟨14,⟨[kdI 0],[]⟩,[⟨[(0,.dat .str)],[]⟩],fun x=>iS x⟩
def zt:OkSpec Tryz.prog:=⟨HP,ae func14 GG (by kernel_rfl) (by kernel_rfl),call14⟩
def kj (xa:Tq1) (xb:(List Tq6)) (l1:(List Tq6)):Int->Option (Int⊕(Unit⊕Bool)):=fun i2=>cond (decide (i2 < (xb.length:Int))) (((aa l1 i2).bind fun x3=>((eh xa (x3.1,x3.2.1,x3.2.2.1,x3.2.2.2)).bind fun (i4,i5,l6,l7,l8,l9,l10,i11)=>some ((i11,i4,i5,l6,l7,l8,l9,l10))).bind fun x12=>((eh xa (x3.1,x3.2.1,x3.2.2.1,x3.2.2.2)).bind fun (i13,i14,l15,l16,l17,l18,l19,i20)=>some ((i20,i13,i14,l15,l16,l17,l18,l19))).bind fun y21=>agr x12 y21 (some x12):Option (lZ)).bind fun (i22,i23,i24,l25,l26,l27,l28,l29)=>((aa xb i2).bind fun x30=>((fe xa (x30.1,x30.2.1,x30.2.2.1,x30.2.2.2)).bind fun (i31,i32,l33,l34,l35,l36,l37,i38)=>some ((i38,i31,i32,l33,l34,l35,l36,l37))).bind fun x39=>((fe xa (x30.1,x30.2.1,x30.2.2.1,x30.2.2.2)).bind fun (i40,i41,l42,l43,l44,l45,l46,i47)=>some ((i47,i40,i41,l42,l43,l44,l45,l46))).bind fun y48=>agr x39 y48 (some x39):Option (lZ)).bind fun (i49,i50,i51,l52,l53,l54,l55,l56)=>(gK (i23,i24,l25,l26,l27,l28,l29) (i50,i51,l52,l53,l54,l55,l56)).bind fun t57=>cond ((!t57)||(!decide (i22=i49))) (some (.inr ((.inr (false))))) (some (.inl (IntKind.wrap .i64 (i2 + 1))))) (some (.inr ((.inl ()))))
def qM (xa:Tq1) (xb:(List Tq6)) (xc:Int):Option Bool :=
 (gF xa).bind fun t1=>cond ((!t1)||(decide (5 < (xb.length:Int)))) ((kI).bind fun t2=>some (t2)) ((nD xb).bind fun l3=>(loop (kj xa xb l3) 0).bind fun o=>match o with | .inr r=>some r | .inl ()=>(k7 xa l3).bind fun (i4,i5,l6,l7,l8,l9,l10,i11)=>(kR xa xb).bind fun (i12,i13,l14,l15,l16,l17,l18,i19)=>(iS xc).bind fun s20=>(ek s20).bind fun (i21,t22)=>(gK (i4,i5,l6,l7,l8,l9,l10) (i12,i13,l14,l15,l16,l17,l18)).bind fun t23=>(cond (t23&&(decide (i11=i19))) ((fp xc).bind fun s24=>(iS xc).bind fun s25=>some (decide (s24=s25))) (some (false))).bind fun t26=>(cond ((t26&&(t22 == ((decide (1<=xc))&&(decide (xc<=8)))))&&((decide (i21=xc))||((!((decide (1<=xc))&&(decide (xc<=8))))&&(decide (i21=0))))) ((kI).bind fun t27=>some (t27)) (some (false))).bind fun t28=>some (t28))
def Ay:Hn Tryz.prog := .cl oQ2 [] (.gp 3 (.tw 27 (.cl uY [] .nil) (.cl AV [] (.jx [] ⟨[],[]⟩ [] (.lp ⟨[kdI 8],[]⟩ (.tw 34 (.tr (.still [0,1,2,3,4] (.alt 5 (.still [6,7,8] (.alt 9 (.alt 10 (.leaf [11]) .done) .done)) (.alt 9 (.alt 5 (.still [6,7,8] (.alt 10 (.leaf [11]) .done)) .done) .done))) ⟨[(9,.ptr 0 0),kdI 10],[bkN 30 [.dat Yq2,.dat Yq2,.own 84 Yq7,.dat (.sl Yq8),.own 95 Yq3,.own 55 Yq4,.dat Yq9]]⟩ [] (.two 0 (.cl pC [] .nil) (.cl pC [] .nil)) (.tr (.still [0,1,2,3,4] (.alt 5 (.still [6,7,8] (.alt 9 (.alt 10 (.leaf [11]) .done) .done)) (.alt 9 (.alt 5 (.still [6,7,8] (.alt 10 (.leaf [11]) .done)) .done) .done))) ⟨[(11,.ptr 0 0),kdI 12],[bkN 30 [.dat Yq2,.dat Yq2,.dat (.sl Yq7),.dat (.sl Yq8),.dat (.sl Yq3),.dat (.sl Yq4),.dat Yq9]]⟩ [] (.two 0 (.cl pm [] .nil) (.cl pm [] .nil)) (.cl zD [5,7,9] (.gp 3 (.tw 63 .nil .nil))))) .nil)) (.per 2 3 (.cl Gx [] (.cl Ga [] (.cl zt [] (.cl zb [] (.gp 2 (.cl zD [] (.gp 3 (.wt 96 (.gj 5 ⟨[kdB 102],[]⟩ [] (.two 96 (.cl y6 [] (.cl zt [] .nil)) .nil) (.wt 103 (.gp 3 (.wt 108 (.gp 11 (.wt 121 (.gj 1 ⟨[kdB 123],[]⟩ [] (.two 121 (.cl uY [] .nil) .nil) .nil))))))))))))))))))))
def uP:Spec:=⟨3,⟨[(0,.dat Yq1),(1,.dat (.sl cg)),kdI 2],[]⟩,[⟨[kdB 0],[]⟩],fun x=>qM x.1 x.2.1 x.2.2⟩
theorem Aw:cE Tryz.prog uP:=ae func3 Ay (by kernel_rfl) (by kernel_rfl)
end
section
section
variable {σ β:Type} {body:σ->Option (σ⊕β)}
theorem bd (st:Nat->σ) (n:Nat) {b:β} (h:∀ k,k < n->body (st k)=some (.inl (st (k + 1)))) (he:body (st n)=some (.inr b)):loop body (st 0)=some b:=by
 have:∀ m k,k + m=n->loop body (st k)=some b:=by
   intro m
   induction m with
   | zero => intro k hk; have : k = n := by omega
             subst this; exact bO he
   | succ m ih=>intro k hk; rw [di (h k (by omega))]; exact ih (k + 1) (by omega)
 exact this n 0 (by omega)
theorem zo (p:Nat->Prop):∀ n,(∃ k,k < n/\p k/\∀ j,j < k->¬ p j)\/∀ j,j < n->¬ p j
 | 0 => .inr (fun j hj=>by omega)
 | n + 1=>by
   rcases zo p n with ⟨k,h1,h2,h3⟩ | h
   . exact .inl ⟨k,by omega,h2,h3⟩
   . by_cases hp:p n
     . exact .inl ⟨n,by omega,hp,h⟩
     . exact .inr (fun j hj=>if e:j=n then e ▸ hp else h j (by omega))
theorem gZ (p:Nat->Prop) (st:Nat->σ) (n:Nat) (hit:Nat->β) (e:β) (hgo:∀ k,k < n->¬ p k->body (st k)=some (.inl (st (k + 1)))) (hhit:∀ k,k < n->p k->body (st k)=some (.inr (hit k))) (hend:body (st n)=some (.inr e)) :
   (∃ k,k < n/\p k/\(∀ j,j < k->¬ p j)/\loop body (st 0)=some (hit k))\/((∀ j,j < n->¬ p j)/\loop body (st 0)=some e):=by
 rcases zo p n with ⟨k,h1,h2,h3⟩ | h
 . exact .inl ⟨k,h1,h2,h3,bd st k (fun j hj=>hgo j (by omega) (h3 j hj)) (hhit k h1 h2)⟩
 . exact .inr ⟨h,bd st n (fun k hk=>hgo k hk (h k hk)) hend⟩
open Classical in
theorem DN (p:Nat->Prop) (st:Nat->σ) (n:Nat) (b e:β) (hgo:∀ k,k < n->¬ p k->body (st k)=some (.inl (st (k + 1)))) (hhit:∀ k,k < n->p k->body (st k)=some (.inr b)) (hend:body (st n)=some (.inr e)) :
   loop body (st 0)=some (if ∃ k,k < n/\p k then b else e):=by
 rcases gZ p st n (fun _=>b) e hgo hhit hend with ⟨k,h1,h2,h3,h4⟩ | ⟨h1,h2⟩
 . rw [if_pos ⟨k,h1,h2⟩]; exact h4
 . rw [if_neg (fun ⟨k,h3,h4⟩=>h1 k h3 h4)]; exact h2
end
theorem w64 {x:Int} (h1 : -9223372036854775808<=x) (h2:x<=9223372036854775807):IntKind.wrap .i64 x=x:=by
 rw [IntWalk.i64_left,IntWalk.wrap64_in _ ⟨h1,h2⟩]
theorem ak {k n:Nat} (h:k < n) (hn:n<=9223372036854775807):IntKind.wrap .i64 ((k:Int) + 1)=((k + 1:Nat):Int):=by
 rw [w64 (by omega) (by omega)]; rfl
theorem ah {α:Type} {l:List α} {k:Nat} (h:k < l.length):aa l (k:Int)=some l[k]:=yi rfl h
theorem Cz {α γ:Type} (xa:List α) (f:γ->α->γ) (c0:γ) (hn:xa.length<=9223372036854775807) {body:γ×Int->Option ((γ×Int)⊕γ)}
   (hb:∀ k x,xa[k]? = some x->body ((xa.take k).foldl f c0,(k:Int))=some (.inl (f ((xa.take k).foldl f c0) x,IntKind.wrap .i64 ((k:Int) + 1)))) (he:body (xa.foldl f c0,(xa.length:Int))=some (.inr (xa.foldl f c0))):loop body (c0,0)=some (xa.foldl f c0):=by
 have h:=bd (body:=body) (fun k:Nat=>((xa.take k).foldl f c0,(k:Int))) xa.length (b:=xa.foldl f c0) ?_ ?_
 . simpa using h
 . intro k hk;rw [hb k xa[k] (by simp [hk]),ak hk hn]
   congr 3
   rw [Y3 hk,aE0]; rfl
 . simpa using he
theorem vV {α γ:Type} (g:α->γ) (xa:List α) (c:List γ):xa.foldl (fun c x=>c++[g x]) c=c++xa.map g:=by
 induction xa generalizing c with
 | nil=>simp
 | cons x xa ih=>simp [ih]
theorem wQ {α γ:Type} (xa:List α) (g:α->γ) (c0:List γ) (hn:c0.length + xa.length<=1073741824) {body:List γ×Int->Option ((List γ×Int)⊕List γ)}
   (hb:∀ (c:List γ) (i:Int),body (c,i)=cond (decide (i < ((xa.length:Nat):Int))) ((aa xa i).bind fun x=>(app c [g x]).bind fun z=>some (.inl (z,IntKind.wrap .i64 (i + 1)))) (some (.inr c))):loop body (c0,0)=some (c0++xa.map g):=by
 rw [<- vV];refine Cz xa (fun c x=>c++[g x]) c0 (by omega) (fun k x hx=>?_) ?_
 . have hk:=(T1.1 hx).1;rw [hb,vV];have hx':xa[k]=x:=by rw [R0 hk] at hx; exact P4 hx
   have ha:=aq (a:=c0++(xa.take k).map g) (b:=[g x]) (by simp; omega);simp only [M0,ah hk,hx',ha,S9.2 hk,decide_true,cond_true]
 . rw [hb]; simp
end
section
theorem iv {α:Type} {l:List α} {i:Int} (h0:0<=i) (h1:i < (l.length:Nat)):aa l i=some (l[i.toNat]'(by omega)):=by
 unfold aa; rw [if_pos h0]; simp
theorem zJ {α:Type} {l:List α} {k:Nat} (h:k + 1 < l.length):aa l ((k:Int) + 1)=some l[k + 1]:=yi rfl h
theorem dlt {k n:Nat} (h:k < n):decide ((k:Int) < (n:Int))=true:=by simp; omega
theorem dge {k n:Nat} (h:¬ k < n):decide ((k:Int) < (n:Int))=false:=by simp; omega
theorem xQ {α:Type} [DecidableEq α] (a b:α):(a == b)=decide (a=b):=O6 a b
section
variable {α β γ σ:Type}
theorem BO {body:σ->Option (σ⊕β)} (n:Nat) (st:Nat->σ) (stop:Nat->Option β) (e:β) (h:∀ k,k < n->body (st k)=some (match stop k with | none => .inl (st (k + 1)) | some b => .inr b)) (he:body (st n)=some (.inr e)) :
   loop body (st 0)=some (((U3 n).findSome? stop).getD e):=by
 rcases gZ (fun k=>(stop k).isSome=true) st n (fun k=>(stop k).getD e) e (fun k hk hp=>by
     rw [h k hk]; cases hs:stop k with
     | none=>rfl
     | some b=>simp [hs] at hp) (fun k hk hp=>by
     rw [h k hk]; cases hs:stop k with
     | none=>simp [hs] at hp
     | some b=>rfl) he with ⟨k,h1,h2,h3,h4⟩ | ⟨h1,h2⟩
 . rw [h4];obtain ⟨b,hb⟩:=ae0.1 h2;have:(U3 n).findSome? stop=some b:=by
     rw [List.findSome?_eq_some_iff];refine ⟨U3 k,k,(List.range' (k + 1) (n - k - 1)),?_,hb,fun a ha=>?_⟩
     . rw [ar0,ar0,<- List.range'_succ (s:=k) (n:=n - k - 1)];rw [show n - k - 1 + 1=n - k by omega];have:=List.range'_append_1 (s:=0) (m:=k) (n:=n - k);rw [O2,show k + (n - k)=n by omega] at this;exact this.symm
     . have:=h3 a (W8.1 ha);cases hs:stop a with
       | none=>rfl
       | some b=>simp [hs] at this
   rw [this,hb]
 . rw [h2];have:(U3 n).findSome? stop=none:=by
     rw [List.findSome?_eq_none_iff];intro a ha;have:=h1 a (W8.1 ha);cases hs:stop a with
     | none=>rfl
     | some b=>simp [hs] at this
   rw [this]; rfl
theorem bv {body:Int->Option (Int⊕β)} (xa:List α) (t:α->Bool) (hit:Nat->β) (e:β) (hb:∀ (k:Nat) (h:k < xa.length),body (k:Int)=some (if t xa[k] then .inr (hit k) else .inl ((k + 1:Nat):Int))) (he:body (xa.length:Int)=some (.inr e)) :
   loop body 0=some (match xa.findIdx? t with | some k=>hit k | none=>e):=by
 rcases gZ (fun k=>∃ h:k < xa.length,t xa[k]=true) (fun k:Nat=>(k:Int)) xa.length hit e (fun k hk hp=>by
     rw [hb k hk,if_neg (fun h=>hp ⟨hk,h⟩)]) (fun k hk ⟨_,hp⟩=>by rw [hb k hk,if_pos hp]) he with ⟨k,h1,⟨_,h2⟩,h3,h4⟩ | ⟨h1,h2⟩
 . rw [show ((0:Int))=((0:Nat):Int) from rfl,h4];have:xa.findIdx? t=some k:=by
     rw [R1];exact ⟨h1,h2,fun j hj=>fun hc=>h3 j hj ⟨by omega,by simpa using hc⟩⟩
   rw [this]
 . rw [show ((0:Int))=((0:Nat):Int) from rfl,h2];have:xa.findIdx? t=none:=by
     rw [U1];intro x hx;obtain ⟨k,hk,rfl⟩:=X3 hx;cases hc:t xa[k] with
     | false=>rfl
     | true=>exact absurd ⟨hk,hc⟩ (h1 k hk)
   rw [this]
theorem hI {body:Int->Option (Int⊕β)} (xa:List α) (t:α->Bool) (hit e:β) (hb:∀ (k:Nat) (h:k < xa.length),body (k:Int)=some (if t xa[k] then .inr hit else .inl ((k + 1:Nat):Int))) (he:body (xa.length:Int)=some (.inr e)) :
   loop body 0=some (if xa.any t then hit else e):=by
 rw [bv xa t (fun _=>hit) e hb he];cases h:xa.findIdx? t with
 | none =>
   have:xa.any t=false:=by
     rw [W3]; intro x hx; have:=U1.1 h x hx; simp [this]
   rw [this]; rfl
 | some k =>
   obtain ⟨hk,h1,_⟩:=R1.1 h;have:xa.any t=true:=R6.2 ⟨_,U0 hk,h1⟩;rw [this]; rfl
theorem jb {δ:Type} {body:(γ×Int)->Option ((γ×Int)⊕δ)} (xa:List α) (acc:Nat->γ) (out:δ) (hb:∀ (k:Nat) (h:k < xa.length),body (acc k,(k:Int))=some (.inl (acc (k + 1),((k + 1:Nat):Int)))) (he:body (acc xa.length,(xa.length:Int))=some (.inr out)) :
   loop body (acc 0,0)=some out:=bd (fun k=>(acc k,(k:Int))) xa.length hb he
theorem rz [DecidableEq α] {body:Int->Option (Int⊕β)} (xa xb:List α) (hit e:β) (hl:xa.length=xb.length) (hb:∀ (k:Nat) (h:k < xa.length),body (k:Int)=some (if xa[k]=(xb[k]'(by omega)) then .inl ((k + 1:Nat):Int) else .inr hit)) (he:body (xa.length:Int)=some (.inr e)) :
   loop body 0=some (if xa=xb then e else hit):=by
 rw [bv (U3 xa.length) (fun k=>decide (xa[k]?≠xb[k]?)) (fun _=>hit) e (fun k h=>by
     simp at h;rw [hb k h];have h2:k < xb.length:=by omega
     by_cases hq:xa[k]=xb[k] <;> simp [h,h2,hq]) (by simpa using he)]
 by_cases hq:xa=xb
 . subst hq;have:(U3 xa.length).findIdx? (fun k=>decide (xa[k]?≠xa[k]?))=none:=by rw [U1]; simp
   rw [this]; simp
 . cases h:(U3 xa.length).findIdx? (fun k=>decide (xa[k]?≠xb[k]?)) with
   | some k=>simp [hq]
   | none =>
     exfalso; apply hq;rw [U1] at h;apply bL0;intro k;by_cases hk:k < xa.length
     . simpa using h k (W8.2 hk)
     . rw [R3 (by omega),R3 (by omega)]
theorem bw {l:List α} {k:Nat} (h:k < l.length):l.take (k + 1)=l.take k++[l[k]]:=Y3 h
theorem ir {a b:Nat} (h:a=b):(!decide ((a:Int)=(b:Int)))=false:=by simp [h]
theorem pI {a b:Nat} (h:¬ a=b):(!decide ((a:Int)=(b:Int)))=true:=by simp; omega
end
theorem iw {α:Type} {l:List α} (h:1<=l.length):subL l 1 ((l.length:Nat):Int)=some (l.drop 1):=by
 rw [sG (by omega) (by omega) (by omega)]; simp
end
open Go.RowKit
namespace Lb
def u8 (n:Int):UInt8:=aJ0 n.toNat
theorem lk (n:Int) (h0:0<=n) (h1:n < 256):((u8 n).toNat:Int)=n:=by
 have:(u8 n).toNat=n.toNat % 256:=by simp [u8]
 omega
theorem yC (n:Int) (h0:0<=n):u8 (n % 256)=u8 n:=by
 apply aI0.1;have a:(u8 (n % 256)).toNat=(n % 256).toNat % 256:=by simp [u8]
 have b:(u8 n).toNat=n.toNat % 256:=by simp [u8]
 omega
def ax (n:Int):Nat:=if n<=0 then 0 else if n < 256 then 1 else if n < 65536 then 2 else if n < 16777216 then 3 else 4
theorem B9 (m:Int) (h0:0 < m) (h1:m<=4294967295):ax m=ax (m / 256) + 1:=by
 unfold ax;have:0<=m / 256/\(m / 256) * 256<=m/\m < (m / 256) * 256 + 256:=by omega
 repeat (first | rw [if_pos (by omega)] | rw [if_neg (by omega)])
 split
 . repeat (first | rw [if_pos (by omega)] | rw [if_neg (by omega)])
 . split
   . repeat (first | rw [if_pos (by omega)] | rw [if_neg (by omega)])
   . split
     . repeat (first | rw [if_pos (by omega)] | rw [if_neg (by omega)])
     . repeat (first | rw [if_pos (by omega)] | rw [if_neg (by omega)])
theorem lu (m:Int):ax m<=4:=by unfold ax; repeat (split <;> try omega)
theorem sn (m:Int) (h:0 < m):1<=ax m:=by unfold ax; rw [if_neg (by omega)]; repeat (split <;> try omega)
def low:Nat->Int->List UInt8
 | 0,_=>[]
 | j + 1,n=>u8 (n / 256 ^ j % 256) :: low j n
theorem nW (j:Nat) (n:Int):(low j n).length=j:=by induction j <;> simp_all [low]
theorem sw:∀ (j:Nat) (n:Int),0<=n->low (j + 1) n=low j (n / 256)++[u8 (n % 256)]
 | 0,n,h=>by simp [low]
 | j + 1,n,h=>by
   have ih:=sw j n h;show u8 (n / 256 ^ (j + 1) % 256) :: low (j + 1) n=u8 (n / 256 / 256 ^ j % 256) :: low j (n / 256)++[u8 (n % 256)];rw [ih,Int.ediv_ediv_of_nonneg (by omega:(0:Int)<=256)];have:(256:Int) * 256 ^ j=256 ^ (j + 1):=by rw [bo0,Int.mul_comm]
   rw [this]; rfl
def valid (n:Int):Bool:=decide (0<=n)&&decide (n<=4294967295)
def put (n:Int):List UInt8:=if n < 0\/4294967295 < n then [] else if n < 248 then [u8 n] else u8 (247 + ax n) :: low (ax n) n
def size (n:Int):Int:=if n < 0\/4294967295 < n then 0 else if n < 248 then 1 else 1 + ax n
theorem k9 (n:Int):((put n).length:Int)=size n:=by
 unfold put size;split
 . rfl
 . split
   . rfl
   . simp [nW]; omega
def val:List UInt8->Int
 | l=>l.foldl (fun n c=>n * 256 + c.toNat) 0
theorem oc (l:List UInt8) (c:UInt8):val (l++[c])=val l * 256 + c.toNat:=by simp [val]
theorem tq:∀ (l:List UInt8),0<=val l/\val l < 256 ^ l.length:=by
 intro l;refine wS (P:=fun l=>0<=val l/\val l < 256 ^ l.length) ?_ (fun l c ih=>?_) l
 . simp [val]
 . rw [oc];have hc:(c.toNat:Int) < 256:=by have:=c.toNat_lt; omega
   simp only [P0,bn0,bo0];omega
theorem EL:∀ l:List UInt8,low l.length (val l)=l:=by
 intro l;refine wS (P:=fun l=>low l.length (val l)=l) ?_ (fun l c ih=>?_) l
 . rfl
 . have hb:=tq l;have hc:(c.toNat:Int) < 256:=by have:=c.toNat_lt; omega
   rw [oc,P0,bn0,sw _ _ (by omega)];have e1:(val l * 256 + c.toNat) / 256=val l:=by omega
   have e2:(val l * 256 + c.toNat) % 256=c.toNat:=by omega
   rw [e1,e2,ih];have:u8 (c.toNat:Int)=c:=by apply aI0.1; have:=lk c.toNat (by omega) hc; omega
   rw [this]
theorem x9:∀ (j:Nat) (n:Int),0<=n->n < 256 ^ j->val (low j n)=n
 | 0,n,h0,h1=>by simp at h1; simp [low,val]; omega
 | j + 1,n,h0,h1=>by
   rw [bo0] at h1;rw [sw j n h0,oc,x9 j (n / 256) (by omega) (by omega),lk _ (by omega) (by omega)];omega
theorem Bf (n:Int) (h0:0<=n) (h1:n<=4294967295):n < 256 ^ ax n:=by
 unfold ax;split
 . simp; omega
 . split
   . simp; omega
   . split
     . simp; omega
     . split <;> simp <;> omega
theorem Bh (n:Int) (j:Nat) (h:n < 256 ^ j) (hj:j<=4):ax n<=j:=by
 unfold ax
 rcases j with _ | _ | _ | _ | _ | j
 case succ.succ.succ.succ.succ=>omega
 all_goals (simp at h; repeat (split <;> try omega))
def take (l:List UInt8):Int×Int×Int :=
 match l with
 | []=>(0,0,4)
 | c :: r =>
   if c.toNat < 248 then (c.toNat,1,0)
   else if 251 < c.toNat then (0,0,3)
   else if r.length < c.toNat - 247 then (0,0,4)
   else if val (r.take (c.toNat - 247)) < 248\/ax (val (r.take (c.toNat - 247))) < c.toNat - 247 then (0,0,3)
   else (val (r.take (c.toNat - 247)),1 + ((c.toNat - 247:Nat):Int),0)
theorem zI (c:UInt8):u8 c.toNat=c:=by
 apply aI0.1;have:=lk c.toNat (by omega) (by have:=c.toNat_lt; omega);omega
theorem D2 (c:UInt8) (r:List UInt8) (hc:248<=c.toNat) (hc':c.toNat<=251) (hr:c.toNat - 247<=r.length) :
   (put (val (r.take (c.toNat - 247)))=c :: r.take (c.toNat - 247))↔¬ (val (r.take (c.toNat - 247)) < 248\/ax (val (r.take (c.toNat - 247))) < c.toNat - 247):=by
 have hl:(r.take (c.toNat - 247)).length=c.toNat - 247:=by rw [Z0]; omega
 generalize hk:c.toNat - 247=k at *;have hb:=tq (r.take k);have hlow:=EL (r.take k);rw [hl] at hb hlow;generalize hd:r.take k=d at *;have hk4:k<=4:=by omega
 have hbd:val d<=4294967295:=by
   have:(256:Int) ^ k<=256 ^ 4:=by rcases k with _ | _ | _ | _ | _ | k <;> first | omega | decide
   have e4:(256:Int) ^ 4=4294967296:=by decide
   omega
 have hdg:=Bh (val d) k hb.2 hk4;constructor
 . intro e;unfold put at e;rw [if_neg (by omega)] at e;split at e
   . have:=congrArg N1 e; simp [hl] at this; omega
   . rename_i h1;have h2:=(List.cons.inj e).2;have h3:=congrArg N1 h2;rw [nW,hl] at h3;omega
 . intro h;unfold put;rw [if_neg (by omega),if_neg (by omega)];have e:ax (val d)=k:=by omega
   rw [e,hlow];have:(247 + (k:Int))=c.toNat:=by omega
   rw [this,zI]
theorem oo (n:Int) (h:put n≠[]) (s:List UInt8):take (put n++s)=(n,size n,0):=by
 unfold put at h ⊢;unfold size;split at h
 . exact absurd rfl h
 . rename_i hv;rw [if_neg hv,if_neg hv];by_cases h1:n < 248
   . rw [if_pos h1,if_pos h1];have:=lk n (by omega) (by omega);unfold take;simp only [al0];rw [if_pos (by omega),this]
   . rw [if_neg h1,if_neg h1];have hd:=lu n;have hp:=sn n (by omega);have hu:=lk (247 + ax n) (by omega) (by omega);have hn:(u8 (247 + ax n)).toNat - 247=ax n:=by omega
     unfold take;simp only [N4];rw [hn,if_neg (by omega),if_neg (by omega),if_neg (by simp [nW])];have e:(low (ax n) n++s).take (ax n)=low (ax n) n:=by
       have:=aR0 (l₁:=low (ax n) n) (l₂:=s); rwa [nW] at this
     rw [e,x9 _ _ (by omega) (Bf n (by omega) (by omega)),if_neg (by omega)]
theorem CG (l:List UInt8) (h:(take l).2.2=0):1<=(take l).2.1/\(take l).2.1<=l.length/\put (take l).1=l.take (take l).2.1.toNat:=by
 unfold take at h ⊢
 match l with
 | []=>simp at h
 | c :: r =>
   simp only at h ⊢;by_cases h1:c.toNat < 248
   . simp only [if_pos h1];refine ⟨by omega,by simp; omega,?_⟩;unfold put;rw [if_neg (by omega),if_pos (by omega),zI]; rfl
   . simp only [if_neg h1] at h ⊢;by_cases h2:251 < c.toNat
     . simp [if_pos h2] at h
     . simp only [if_neg h2] at h ⊢;by_cases h3:r.length < c.toNat - 247
       . simp [if_pos h3] at h
       . simp only [if_neg h3] at h ⊢;by_cases h4:val (r.take (c.toNat - 247)) < 248\/ax (val (r.take (c.toNat - 247))) < c.toNat - 247
         . simp [if_pos h4] at h
         . simp only [if_neg h4];refine ⟨by omega,by simp; omega,?_⟩;rw [(D2 c r (by omega) (by omega) (by omega)).2 h4];have:(1 + ((c.toNat - 247:Nat):Int)).toNat=(c.toNat - 247) + 1:=by omega
           rw [this,av0]
theorem aQ (n:Int):(put n).length<=5:=by
 have h1:=k9 n;have h2:=lu n;unfold size at h1;split at h1
 . omega
 . split at h1 <;> omega
theorem q8 (m:List Int):(m.flatMap put).length<=m.length * 5:=by
 induction m with
 | nil=>simp
 | cons a r ih =>
   have:=aQ a;simp only [P3,P0,V1];omega
theorem Bb (l:List Int) (k:Nat) (h:k < l.length):(l.take (k + 1)).flatMap put=(l.take k).flatMap put++put (l.getD k 0):=by
 rw [Y3 h,N3];simp [S1,R0 h]
theorem dJ (n:Int):put n=[]↔(n < 0\/4294967295 < n):=by
 unfold put;split
 . simp [*]
 . split <;> simp [*]
end Lb
set_option linter.unnecessarySimpa false
set_option linter.unusedSimpArgs false
section
open Go.RowKit Lb
theorem Ad:(2:Int) ^ (min (Z6 8) (IntKind.bits .i64))=256:=by decide
theorem Ev (n:Int) (h:0<=n):bd0 n ((2:Int) ^ (min (Z6 8) (IntKind.bits .i64)))=n / 256:=by rw [Ad,aQ0 _ (by omega)]
theorem Gk (a b:Nat) (ha:a < 1099511627776) (hb:b < 256):IntKind.wrap .i64 ((T3 (IntKind.bits .i64) (IntKind.wrap .i64 ((a:Int) * 2 ^ (min (Z6 8) (IntKind.bits .i64)))) ||| T3 (IntKind.bits .i64) (IntKind.wrap .i64 (b:Int))).toNat:Int)=(a:Int) * 256 + b:=by
 rw [Ad,w64 (x:=(a:Int) * 256) (by omega) (by omega),w64 (x:=(b:Int)) (by omega) (by omega)];have h:IntKind.wrap .i64 ((T3 64 ((a * 256:Nat):Int) ||| T3 64 (b:Int)).toNat:Int)=((a * 256 ||| b:Nat):Int):=Ft (a * 256) b (by omega) (by omega);have e:((a * 256:Nat):Int)=(a:Int) * 256:=by omega
 rw [e] at h;show IntKind.wrap .i64 ((T3 64 _ ||| T3 64 _).toNat:Int)=_;rw [h];clear h;have e2:a * 256 ||| b=a * 256 + b:=by
   have:=Nat.shiftLeft_add_eq_or_of_lt (i:=8) (b:=b) hb a;rw [Nat.shiftLeft_eq] at this;exact this.symm
 rw [e2,Int.natCast_add,e]
theorem tc (s:List UInt8) (n:Int) (h0:0<=n) (hs:s.length<=1000000):wrB s (IntKind.wrap .u8 n)=some (s++[u8 n]):=by
 unfold wrB;have e:IntKind.wrap .u8 n=n % 256:=IntKind.wrap_u8' n;rw [e,if_pos (by omega),aq (by simp; omega)];have:=yC n h0;unfold u8 at this;rw [this]; rfl
theorem xo {n:Int} (h:0<=n) (h2:n<=4294967295):put n=if n < 248 then [u8 n] else u8 (247 + ax n) :: low (ax n) n:=by
 unfold put; rw [if_neg (by omega)]
theorem Cm {m:Int} (h:ax m=0):m<=0:=by
 rcases Int.lt_or_le 0 m with h' | h'
 . have:=sn m h'; omega
 . exact h'
theorem ou (c:UInt8):IntKind.wrap .i64 ((c.toNat:Nat):Int)=(c.toNat:Int):=by
 have:=c.toNat_lt;exact w64 (by omega) (by omega)
theorem ra (n:Int) (h:n<=4294967295):iR n=some (ax n:Int):=by
 have key:∀ (k:Nat) (m:Int) (c:Nat),ax m=k->m<=4294967295->c + k<=100->loop m8 (m,(c:Int))=some ((c + k:Nat):Int):=by
   intro k
   induction k with
   | zero =>
     intro m c hk _ _;have:=Cm hk;exact bO (by unfold m8; simp only [decide_eq_false (show ¬ 0 < m by omega),cond_false]; rfl)
   | succ k ih =>
     intro m c hk hm hc;have hp:0 < m:=by
       rcases Int.lt_or_le 0 m with h' | h'
       . exact h'
       . unfold ax at hk; rw [if_pos h'] at hk; omega
     have hs:=B9 m hp hm;have hw:IntKind.wrap .i64 ((c:Int) + 1)=((c + 1:Nat):Int):=ak (n:=200) (by omega) (by omega);rw [di (s':=(m / 256,((c + 1:Nat):Int))),ih (m / 256) (c + 1) (by omega) (by omega) (by omega)]
     . congr 1; omega
     . unfold m8;simp only [hp,decide_true,cond_true,Ev m (by omega),hw]
 unfold iR;have h4:=lu n;have:=key (ax n) n 0 rfl h (by omega);rw [show ((0:Int))=((0:Nat):Int) from rfl,this];simp
theorem By (n:Int):nL n=some (size n):=by
 unfold nL size;by_cases h:n < 0\/4294967295 < n
 . rw [if_pos h];have:(decide (n < 0)||decide (4294967295 < n))=true:=by simpa using h
   rw [this]; rfl
 . rw [if_neg h];have:(decide (n < 0)||decide (4294967295 < n))=false:=by simp; omega
   rw [this,cond_false];by_cases h2:n < 248
   . simp [h2]
   . have h4:=lu n;rw [ra n (by omega)];simp only [h2,decide_false,cond_false,M0,if_false];rw [w64 (by omega) (by omega)]
theorem A1 (x:Int) (h:0<=x):∀ (j:Nat),j<=7->∀ s:List UInt8,s.length + j<=1000000->loop (nC x) (8 * ((j:Int) - 1),s)=some (s++low j x):=by
 intro j
 induction j with
 | zero=>intro _ s _; exact bO (by simp [nC,low])
 | succ j ih =>
   intro hj s hs;rw [di (s':=(8 * ((j:Int) - 1),s++[u8 (x / 256 ^ j)])),ih (by omega) _ (by simp; omega)]
   . simp only [low,O0,al0];have:=yC (x / 256 ^ j) (ca0 h (ap0 (bz0 (by omega))));rw [this]
   . have e1:(8 * (((j + 1:Nat):Int) - 1))=((8 * j:Nat):Int):=by omega
     unfold nC;rw [e1];have e2:(2:Int) ^ (min (Z6 ((8 * j:Nat):Int)) (IntKind.bits .i64))=256 ^ j:=by
       have hb:IntKind.bits .i64=64:=rfl;rw [O1,hb,U4 (by omega),show (256:Int)=2 ^ 8 by decide,<- Int.pow_mul]
     have e3:bd0 x (256 ^ j)=x / 256 ^ j:=aQ0 _ (ap0 (bz0 (by omega)));have e4:IntKind.wrap .i64 (((8 * j:Nat):Int) - 8)=8 * ((j:Int) - 1):=by rw [w64 (by omega) (by omega)]; omega
     have e5:decide (0<=((8 * j:Nat):Int))=true:=by simp; omega
     simp only [e5,cond_true,Fu (show 0<=((8 * j:Nat):Int) by omega),M0,e2,e3,e4];rw [tc _ _ (ca0 h (ap0 (bz0 (by omega)))) (by omega)];rfl
theorem g8 (l:List Int) (hl:l.length<=100000):de l=some (l.flatMap put):=by
 have key:=bd (body:=kN l) (fun k:Nat=>((k:Int),(l.take k).flatMap put)) l.length (b:=l.flatMap put) ?_ ?_
 . unfold de;simp only [S6,Q5] at key;have key':loop (kN l) (0,([]:List UInt8))=some (l.flatMap put):=key;rw [key']; rfl
 . intro k hk;have hlen:=q8 (l.take k);simp only [Z0] at hlen;have e:=Bb l k hk;have hgd:l.getD k 0=l[k]:=by simp [S1,hk]
   rw [hgd] at e;have hs:((l.take k).flatMap put).length<=500000:=by omega
   unfold kN;simp only [dlt hk,cond_true,ah hk,M0,By,ak hk (by omega:l.length<=9223372036854775807),e];generalize (l.take k).flatMap put=S at *;generalize hx:l[k]=x;have h4:=lu x;by_cases h0:x < 0\/4294967295 < x
   . have a1:size x=0:=by unfold size; rw [if_pos h0]
     have a2:put x=[]:=(dJ x).2 h0;simp [a1,a2]
   . by_cases h1:x < 248
     . have a1:size x=1:=by unfold size; rw [if_neg h0,if_pos h1]
       have a2:put x=[u8 x]:=by rw [xo (by omega) (by omega),if_pos h1]
       rw [a1,a2];simp only [show (decide ((1:Int)=0))=false from rfl,cond_false,decide_true,cond_true];rw [tc _ _ (by omega) (by omega)]; rfl
     . have a1:size x=1 + ax x:=by unfold size; rw [if_neg h0,if_neg h1]
       have a2:put x=u8 (247 + ax x) :: low (ax x) x:=by rw [xo (by omega) (by omega),if_neg h1]
       have hp:=sn x (by omega);rw [a1,a2];have c1:decide ((1:Int) + ax x=0)=false:=by simp; omega
       have c2:decide ((1:Int) + ax x=1)=false:=by simp; omega
       have c3:IntKind.wrap .i64 ((IntKind.wrap .i64 (247 + (1 + (ax x:Int)))) - 1)=247 + ax x:=by
         rw [w64 (x:=247 + (1 + (ax x:Int))) (by omega) (by omega),w64 (by omega) (by omega)]; omega
       have c4:IntKind.wrap .i64 (8 * (IntKind.wrap .i64 ((1 + (ax x:Int)) - 2)))=8 * ((ax x:Int) - 1):=by
         rw [w64 (x:=(1 + (ax x:Int)) - 2) (by omega) (by omega),w64 (by omega) (by omega)]; omega
       rw [c1,c2,cond_false,cond_false,c3,c4,tc _ _ (by omega) (by omega),M0,A1 x (by omega) _ (by omega) _ (by simp; omega)];simp
 . simp [kN]
theorem CQ (r:List UInt8) (k:Nat) (h:k < r.length):val (r.take (k + 1))=val (r.take k) * 256 + r[k].toNat:=by
 rw [bw h,oc]
theorem wg (r:List UInt8) (k:Nat) (h:k<=4):0<=val (r.take k)/\val (r.take k)<=4294967295:=by
 have hb:=tq (r.take k);have hl:(r.take k).length<=4:=by simp; omega
 generalize (r.take k).length=m at *;have:(256:Int) ^ m<=256 ^ 4:=by rcases m with _ | _ | _ | _ | _ | m <;> first | omega | decide
 have e4:(256:Int) ^ 4=4294967296:=by decide
 omega
theorem gX (l:List UInt8) (hl:l.length<=1073741824):en l=some (take l):=by
 unfold en take
 match l with
 | []=>rfl
 | c :: r =>
   have hne:decide (c :: r=([]:List UInt8))=false:=by simp
   have hc:=c.toNat_lt;simp only [hne,cond_false,show aa (c :: r) 0=some c from rfl,M0,ou];by_cases h1:c.toNat < 248
   . have:decide ((c.toNat:Int) < 248)=true:=by simp; omega
     rw [this,if_pos h1]; rfl
   . have e1 : decide ((c.toNat : Int) < 248) = false := by simp; omega
     have e2:IntKind.wrap .i64 ((c.toNat:Int) - 247)=((c.toNat - 247:Nat):Int):=by rw [w64 (by omega) (by omega)]; omega
     rw [e1,if_neg h1,cond_false,ra _ (by omega),M0,e2];have ed:ax 4294967295=4:=by decide
     rw [ed];generalize hk:c.toNat - 247=k;by_cases h2:251 < c.toNat
     . have:decide (((4:Nat):Int) < (k:Int))=true:=by simp; omega
       rw [this,if_pos h2]; rfl
     . have:decide (((4:Nat):Int) < (k:Int))=false:=by simp; omega
       rw [this,if_neg h2,cond_false];by_cases h3:r.length < k
       . have:decide ((((c :: r).length:Nat):Int)<=(k:Int))=true:=by simp; omega
         rw [this,if_pos h3]; rfl
       . have:decide ((((c :: r).length:Nat):Int)<=(k:Int))=false:=by simp; omega
         rw [this,if_neg h3,cond_false];have hloop:loop (kF (c :: r) c) (0,1)=some (val (r.take k)):=by
           have:=bd (body:=kF (c :: r) c) (fun j:Nat=>(val (r.take j),((j + 1:Nat):Int))) k (b:=val (r.take k)) ?_ ?_
           . simpa [val] using this
           . intro j hj;have hjr:j < r.length:=by omega
             have hjl:j + 1 < (c :: r).length:=by simp; omega
             have hv:=wg r j (by omega);have hx:=(r[j]).toNat_lt;have d1:decide (((j + 1:Nat):Int)<=(k:Int))=true:=by simp; omega
             have d2:(c :: r)[j + 1]=r[j]:=rfl;have d3:((j + 1:Nat):Int) + 1=((j + 1 + 1:Nat):Int):=by omega
             obtain ⟨a,ha⟩:=Y0 hv.1;have d4:=Gk a r[j].toNat (by omega) (by omega);unfold kF;simp only [ou,e2,hk,d1,cond_true];rw [ah hjl,M0,d2,CQ r j hjr,ha];rw [ou] at d4;rw [d4,w64 (x:=((j + 1:Nat):Int) + 1) (by omega) (by omega),d3]
           . unfold kF;have d1:decide (((k + 1:Nat):Int)<=(k:Int))=false:=by simp; omega
             simp only [ou,e2,hk,d1,cond_false]
         rw [hloop,M0];have hv:=wg r k (by omega);have e5:IntKind.wrap .i64 (1 + (k:Int))=1 + (k:Int):=w64 (by omega) (by omega);rw [e5,ra _ hv.2];by_cases h4:val (r.take k) < 248
         . simp [h4]
         . by_cases h5:ax (val (r.take k)) < k
           . have:decide (((ax (val (r.take k)):Nat):Int) < (k:Int))=true:=by simp; omega
             simp [h4,h5]
           . have:decide (((ax (val (r.take k)):Nat):Int) < (k:Int))=false:=by simp; omega
             simp [h4,h5]
theorem db (l:List UInt8):(∃ (n:Int) (k:Nat),take l=(n,(k:Int),0)/\0<=n/\n<=4294967295/\1<=k/\k<=l.length/\put n=l.take k)\/(∃ e,take l=(0,0,e)/\e≠0):=by
 by_cases h:(take l).2.2=0
 . obtain ⟨h1,h2,h3⟩:=CG l h;refine .inl ⟨(take l).1,(take l).2.1.toNat,?_,?_,?_,by omega,by omega,h3⟩
   . generalize take l=t at *;obtain ⟨a,b,c⟩:=t;dsimp only at *;rw [h,by0 (by omega)]
   all_goals
     have hne:¬ put (take l).1=[]:=by
       intro h0; rw [h0] at h3;have:=congrArg N1 h3;simp at this; omega
     have hb:¬ ((take l).1 < 0\/4294967295 < (take l).1):=fun q=>hne ((dJ (take l).1).2 q)
     omega
 . refine .inr ⟨(take l).2.2,?_,h⟩;have:(take l).2.2=0\/take l=(0,0,(take l).2.2):=by
     unfold take;split
     . exact .inr rfl
     . split
       . exact .inl rfl
       . split
         . exact .inr rfl
         . split
           . exact .inr rfl
           . split
             . exact .inr rfl
             . exact .inl rfl
   rcases this with h' | h'
   . exact absurd h' h
   . exact h'
def aO:List Bool->List UInt8->Int×List Int×Nat
 | [],_=>(0,[],0)
 | false :: hs,s=>((aO hs s).1,0 :: (aO hs s).2.1,(aO hs s).2.2)
 | true :: hs,s=>if (take s).2.2≠0 then ((take s).2.2,[],0) else ((aO hs (s.drop (take s).2.1.toNat)).1,(take s).1 :: (aO hs (s.drop (take s).2.1.toNat)).2.1,(take s).2.1.toNat + (aO hs (s.drop (take s).2.1.toNat)).2.2)
def bJ:List Bool->List Int->List UInt8
 | true :: hs,n :: ns=>put n++bJ hs ns
 | false :: hs,_ :: ns=>bJ hs ns
 | _,_=>[]
theorem wN:∀ (hs:List Bool) (ns:List Int) (s:List UInt8),hs.length=ns.length->(∀ k (h1:k < hs.length) (h2:k < ns.length),(hs[k]=true->put ns[k]≠[])/\(hs[k]=false->ns[k]=0))->aO hs (bJ hs ns++s)=(0,ns,(bJ hs ns).length)
 | [],[],s,_,_=>rfl
 | [],_ :: _,_,h,_=>by simp at h
 | _ :: _,[],_,h,_=>by simp at h
 | b :: hs,n :: ns,s,h,hp=>by
   have ih:=fun s=>wN hs ns s (by simpa using h) (fun k h1 h2=>hp (k + 1) (by simpa using h1) (by simpa using h2))
   have h0:=hp 0 (by simp) (by simp);simp only [O9] at h0;cases b with
   | false=>rw [h0.2 rfl]; simp only [aO,bJ,ih]
   | true =>
     have ht:=oo n (h0.1 rfl) (bJ hs ns++s);have hl:=k9 n;simp only [aO,bJ,O0,ht,ne_eq,not_true_eq_false,if_false];have e:(size n).toNat=(put n).length:=by omega
     rw [e,S5,ih,P0]
theorem sh:∀ (hs:List Bool) (s:List UInt8),(aO hs s).1=0->(aO hs s).2.2<=s.length/\bJ hs (aO hs s).2.1=s.take (aO hs s).2.2/\(aO hs s).2.1.length=hs.length/\∀ k (h1:k < hs.length) (h2:k < (aO hs s).2.1.length),(0<=(aO hs s).2.1[k]/\(aO hs s).2.1[k]<=4294967295)/\(hs[k]=false->(aO hs s).2.1[k]=0)
 | [],s,_=>by simp [aO,bJ]
 | false :: hs,s,h=>by
   obtain ⟨h1,h2,h3,h4⟩:=sh hs s h;refine ⟨h1,h2,by simp [aO,h3],fun k k1 k2=>?_⟩;cases k with
   | zero=>simp [aO]
   | succ k=>exact h4 k (by simpa using k1) (by simpa [aO] using k2)
 | true :: hs,s,h=>by
   rcases db s with ⟨n,m,ht,n0,n1,m0,m1,hp⟩ | ⟨e,ht,he⟩
   . simp only [aO,ht,ne_eq,not_true_eq_false,if_false,O1] at h ⊢;obtain ⟨h1,h2,h3,h4⟩:=sh hs (s.drop m) h;simp only [T0] at h1;refine ⟨by omega,?_,by simp [h3],fun k k1 k2=>?_⟩
     . simp only [bJ,hp,h2,Q7]
     . cases k with
       | zero=>exact ⟨⟨n0,n1⟩,fun h=>by simp at h⟩
       | succ k=>exact h4 k (by simpa using k1) (by simpa using k2)
   . simp [aO,ht,he] at h
end
section
open Go.RowKit Lb
abbrev Ps (α:Type):=List UInt8->Int⊕(α×Nat)
section
variable {α β γ δ σ ρ:Type}
def aC (x:α):Ps α:=fun _ => .inr (x,0)
def tT (e:Int):Ps α:=fun _ => .inl e
def pb (p:Ps α) (q:α->Ps β):Ps β:=fun s =>
 match p s with
 | .inl e => .inl e
 | .inr (x,m)=>match q x (s.drop m) with
   | .inl e => .inl e
   | .inr (y,k) => .inr (y,m + k)
def bx:Ps Int:=fun s=>if (take s).2.2=0 then .inr ((take s).1,(take s).2.1.toNat) else .inl (take s).2.2
def bL (p:Ps α):Nat->Ps (List α)
 | 0=>aC []
 | n + 1=>pb p fun x=>pb (bL p n) fun xs=>aC (x :: xs)
def du (most:Int):Ps Int:=pb bx fun n=>if most < n then tT 6 else aC n
def aJ (most:Int) (p:Ps α):Ps (List α):=pb (du most) fun n=>bL p n.toNat
def qf (f:α->β) (p:Ps α):Ps β:=pb p fun x=>aC (f x)
theorem bF {p:Ps α} {q:α->Ps β} {s:List UInt8} {y:β} {k:Nat} (h:pb p q s = .inr (y,k)):∃ x m j,p s = .inr (x,m)/\q x (s.drop m) = .inr (y,j)/\k=m + j:=by
 unfold pb at h;cases h1:p s with
 | inl e=>rw [h1] at h; cases h
 | inr xm =>
   obtain ⟨x,m⟩:=xm;rw [h1] at h;dsimp only at h;cases h2:q x (s.drop m) with
   | inl e=>rw [h2] at h; cases h
   | inr yj =>
     obtain ⟨y',j⟩:=yj;rw [h2] at h;cases h;exact ⟨x,m,j,rfl,h2,rfl⟩
theorem fG {p:Ps α} {q:α->Ps β} {s:List UInt8} {e:Int} (h:pb p q s = .inl e):p s = .inl e\/∃ x m,p s = .inr (x,m)/\q x (s.drop m) = .inl e:=by
 unfold pb at h;cases h1:p s with
 | inl e=>rw [h1] at h; cases h; exact .inl rfl
 | inr xm =>
   obtain ⟨x,m⟩:=xm;rw [h1] at h;dsimp only at h;cases h2:q x (s.drop m) with
   | inl e=>rw [h2] at h; cases h; exact .inr ⟨x,m,rfl,h2⟩
   | inr yj=>rw [h2] at h; cases h
def eU (m:Nat):Int⊕(α×Nat)->Int⊕(α×Nat)
 | .inl e => .inl e
 | .inr (y,k) => .inr (y,m + k)
theorem bH {p:Ps α} {q:α->Ps β} {s:List UInt8} {x:α} {m:Nat} (h:p s = .inr (x,m)):pb p q s=eU m (q x (s.drop m)):=by
 unfold pb; rw [h]; rfl
theorem fI {p:Ps α} {q:α->Ps β} {s:List UInt8} {e:Int} (h:p s = .inl e):pb p q s = .inl e:=by unfold pb; rw [h]
structure Sane (p:Ps α):Prop where
 err:∀ s e,p s = .inl e->e≠0
 len:∀ s x m,p s = .inr (x,m)->m<=s.length
theorem Sane.ret (x:α):Sane (aC x):=⟨fun s e h=>(by cases h),fun s y m h=>(by cases h; omega)⟩
theorem Sane.fail {e:Int} (h:e≠0):Sane (tT e:Ps α):=⟨fun s e' h'=>(by cases h'; exact h),fun s y m h=>(by cases h)⟩
theorem Sane.pb {p:Ps α} {q:α->Ps β} (hp:Sane p) (hq:∀ x,Sane (q x)):Sane (pb p q) :=
 ⟨fun s e h=>by
   rcases fG h with h | ⟨x,m,h1,h2⟩
   . exact hp.err s e h
   . exact (hq x).err _ e h2,
 fun s y k h=>by
   obtain ⟨x,m,j,h1,h2,rfl⟩:=bF h;have:=hp.len s x m h1;have h3:=(hq x).len _ y j h2;rw [T0] at h3; omega⟩
theorem cO {s:List UInt8} {n:Int} {m:Nat} (h:bx s = .inr (n,m)):take s=(n,(m:Int),0)/\0<=n/\n<=4294967295/\1<=m/\m<=s.length/\put n=s.take m:=by
 unfold bx at h;split at h
 . rename_i h0;simp only [ax0,Y5] at h;obtain ⟨rfl,rfl⟩:=h
   rcases db s with ⟨n,k,h1,h2,h3,h4,h5,h6⟩ | ⟨e,h1,h2⟩
   . rw [h1]; simp only [O1]; exact ⟨trivial,h2,h3,h4,h5,h6⟩
   . rw [h1] at h0; exact absurd h0 h2
 . cases h
theorem dG {s:List UInt8} {e:Int} (h:bx s = .inl e):take s=(0,0,e)/\e≠0:=by
 unfold bx at h;split at h
 . cases h
 . rename_i h0;cases h
   rcases db s with ⟨n,k,h1,h2,h3,h4,h5,h6⟩ | ⟨e,h1,h2⟩
   . rw [h1] at h0; exact absurd rfl h0
   . rw [h1]; exact ⟨rfl,h2⟩
theorem Sane.num:Sane bx:=⟨fun s e h=>(dG h).2,fun s x m h=>(cO h).2.2.2.2.1⟩
theorem Sane.map {f:α->β} {p:Ps α} (hp:Sane p):Sane (qf f p):=hp.pb (fun x=>Sane.ret _)
theorem Sane.count (most:Int):Sane (du most):=Sane.num.pb (fun n=>by split; exact Sane.fail (by decide); exact Sane.ret _)
theorem Sane.many {p:Ps α} (hp:Sane p):∀ n,Sane (bL p n)
 | 0=>Sane.ret _
 | n + 1=>hp.pb (fun x=>(Sane.many hp n).pb (fun xs=>Sane.ret _))
theorem Sane.list {p:Ps α} (most:Int) (hp:Sane p):Sane (aJ most p):=(Sane.count most).pb (fun n=>Sane.many hp _)
theorem k8 {most:Int} {s:List UInt8} {n:Int} {m:Nat} (h:du most s = .inr (n,m)):bx s = .inr (n,m)/\n<=most:=by
 obtain ⟨x,a,j,h1,h2,rfl⟩:=bF h;split at h2
 . cases h2
 . cases h2; exact ⟨h1,by omega⟩
structure Cod (p:Ps α) (w:α->List UInt8) (ok:α->Prop):Prop where
 back:∀ s x m,p s = .inr (x,m)->ok x/\s.take m=w x
 to:∀ x T,ok x->p (w x++T) = .inr (x,(w x).length)
theorem Cod.num:Cod bx put (fun n=>0<=n/\n<=4294967295) :=
 ⟨fun s n m h=>by obtain ⟨_,h0,h1,_,_,h2⟩:=cO h; exact ⟨⟨h0,h1⟩,h2.symm⟩,
 fun n T ⟨h0,h1⟩=>by
   have hp:put n≠[]:=fun h=>by have:=(dJ n).1 h; omega
   have:=k9 n;unfold bx;rw [oo n hp T];simp only [if_true,ax0,Y5,true_and];omega⟩
theorem Cod.many {p:Ps α} {w:α->List UInt8} {ok:α->Prop} (hp:Cod p w ok):∀ n,Cod (bL p n) (fun l=>l.flatMap w) (fun l=>l.length=n/\∀ x∈l,ok x)
 | 0=>⟨fun s l m h=>by cases h; simp,fun l T h=>by obtain rfl:=V0.1 h.1; rfl⟩
 | n + 1=>by
   have ih:=Cod.many hp n;refine ⟨fun s l m h=>?_,fun l T h=>?_⟩
   . obtain ⟨x,a,j,h1,h2,rfl⟩:=bF h;obtain ⟨xs,b,j',h3,h4,rfl⟩:=bF h2;cases h4;obtain ⟨o1,t1⟩:=hp.back _ _ _ h1;obtain ⟨⟨o2,o3⟩,t2⟩:=ih.back _ _ _ h3;refine ⟨⟨by simp [o2],fun y hy=>?_⟩,?_⟩
     . rcases T2.1 hy with rfl | hy
       . exact o1
       . exact o3 y hy
     . rw [Z3,Q7,t1,t2]; rfl
   . match l,h with
     | x :: l,⟨h1,h2⟩ =>
       show pb p _ _=_;simp only [P3,O0];rw [bH (hp.to x _ (h2 x (by simp))),S5];have:=ih.to l T ⟨by simpa using h1,fun y hy=>h2 y (by simp [hy])⟩;rw [bH this];simp [aC,eU]
theorem Cod.list {p:Ps α} {w:α->List UInt8} {ok:α->Prop} {most:Int} (hm:most<=4294967295) (hp:Cod p w ok):Cod (aJ most p) (fun l=>put (l.length:Int)++l.flatMap w) (fun l=>(l.length:Int)<=most/\∀ x∈l,ok x):=by
 refine ⟨fun s l m h=>?_,fun l T ⟨h1,h2⟩=>?_⟩
 . obtain ⟨n,a,j,h1,h2,rfl⟩:=bF h;obtain ⟨h3,h4⟩:=k8 h1;obtain ⟨_,n0,n1,_,_,hp1⟩:=cO h3;obtain ⟨⟨o1,o2⟩,t⟩:=(hp.many n.toNat).back _ _ _ h2;have e:(l.length:Int)=n:=by omega
   refine ⟨⟨by omega,o2⟩,?_⟩;rw [Q7,t,e,hp1]
 . have hn:=Cod.num.to (l.length:Int) (l.flatMap w++T) ⟨by omega,by omega⟩;have hc:du most (put (l.length:Int)++(l.flatMap w++T)) = .inr ((l.length:Int),(put (l.length:Int)).length):=by
     unfold du; rw [bH hn];rw [if_neg (by omega)]; simp [aC,eU]
   unfold aJ;rw [O0,bH hc,S5];have:=(hp.many l.length).to l T ⟨rfl,h2⟩;rw [O1,this];simp [eU]
theorem Cod.pair {p:Ps α} {w:α->List UInt8} {ok:α->Prop} {q:α->Ps β} {v:α->β->List UInt8} {ok':α->β->Prop} (hp:Cod p w ok) (hq:∀ x,ok x->Cod (q x) (v x) (ok' x)) :
   Cod (pb p fun x=>pb (q x) fun y=>aC (x,y)) (fun z=>w z.1++v z.1 z.2) (fun z=>ok z.1/\ok' z.1 z.2):=by
 refine ⟨fun s z m h=>?_,fun z T ⟨h1,h2⟩=>?_⟩
 . obtain ⟨x,a,j,h1,h2,rfl⟩:=bF h;obtain ⟨y,b,j',h3,h4,rfl⟩:=bF h2;cases h4;obtain ⟨o1,t1⟩:=hp.back _ _ _ h1;obtain ⟨o2,t2⟩:=(hq x o1).back _ _ _ h3;exact ⟨⟨o1,o2⟩,by rw [Z3,Q7,t1,t2]⟩
 . obtain ⟨x,y⟩:=z;dsimp only at *;rw [O0,bH (hp.to x _ h1),S5,bH ((hq x h1).to y T h2)];simp [aC,eU]
theorem Cod.map {p:Ps α} {w:α->List UInt8} {ok:α->Prop} (f:α->β) (g:β->α) (hp:Cod p w ok) (hg:∀ x,ok x->g (f x)=x):Cod (qf f p) (fun y=>w (g y)) (fun y=>ok (g y)/\f (g y)=y):=by
 refine ⟨fun s y m h=>?_,fun y T ⟨h1,h2⟩=>?_⟩
 . obtain ⟨x,a,j,h1,h2,rfl⟩:=bF h;cases h2;obtain ⟨o1,t1⟩:=hp.back _ _ _ h1;exact ⟨⟨by rw [hg x o1]; exact o1,by rw [hg x o1]⟩,by rw [Z3,hg x o1]; exact t1⟩
 . unfold qf;rw [bH (hp.to _ T h1)];simp [aC,eU,h2]
theorem Cod.imp {p:Ps α} {w w':α->List UInt8} {ok ok':α->Prop} (hp:Cod p w ok) (h:∀ x,ok x↔ok' x) (hw:∀ x,ok x->w x=w' x):Cod p w' ok' :=
 ⟨fun s x m h1=>by obtain ⟨h2,h3⟩:=hp.back s x m h1; exact ⟨(h x).1 h2,by rw [h3,hw x h2]⟩,fun x T h1=>by have:=(h x).2 h1; rw [<- hw x this]; exact hp.to x T this⟩
def Goes (m:Option γ) (ok:α->Nat->γ) (E:Int->γ->Prop):Int⊕(α×Nat)->Prop
 | .inr (x,j)=>m=some (ok x j)
 | .inl e=>∃ g,m=some g/\E e g
theorem Goes.bind {m:Option γ} {f:γ->Option δ} {p:Ps α} {q:α->Ps β} {s:List UInt8} {okp:α->Nat->γ} {okq:β->Nat->δ} {Ep:Int->γ->Prop} {Eq:Int->δ->Prop}
   (h:Goes m okp Ep (p s)) (h1:∀ x j,p s = .inr (x,j)->Goes (f (okp x j)) (fun y i=>okq y (j + i)) Eq (q x (s.drop j))) (h2:∀ e g,p s = .inl e->Ep e g->∃ d,f g=some d/\Eq e d) :
   Goes (m.bind f) okq Eq (pb p q s):=by
 cases hs:p s with
 | inl e =>
   rw [hs] at h;obtain ⟨g,rfl,hg⟩:=h;rw [fI hs];exact h2 e g hs hg
 | inr xm =>
   obtain ⟨x,j⟩:=xm;rw [hs] at h;obtain rfl:m=_:=h;rw [bH hs,M0];have h3:=h1 x j hs;cases h4:q x (s.drop j) with
   | inl e=>rw [h4] at h3; exact h3
   | inr yk=>rw [h4] at h3; exact h3
theorem Goes.map {m:Option γ} {f:γ->Option δ} {ok:α->Nat->γ} {ok':α->Nat->δ} {E:Int->γ->Prop} {E':Int->δ->Prop} {r:Int⊕(α×Nat)} (h:Goes m ok E r)
   (h1:∀ x j,r = .inr (x,j)->f (ok x j)=some (ok' x j)) (h2:∀ e g,r = .inl e->E e g->∃ d,f g=some d/\E' e d):Goes (m.bind f) ok' E' r:=by
 cases r with
 | inl e=>obtain ⟨g,rfl,hg⟩:=h; exact h2 e g rfl hg
 | inr x=>obtain ⟨x,j⟩:=x; obtain rfl:m=_:=h; exact h1 x j rfl
theorem Goes.of {m:Option γ} {ok ok':α->Nat->γ} {E:Int->γ->Prop} {r:Int⊕(α×Nat)} (h:Goes m ok E r) (k:∀ x j,ok x j=ok' x j):Goes m ok' E r:=by
 cases r with
 | inl e=>exact h
 | inr x=>obtain ⟨x,j⟩:=x; exact (show m=_ from h).trans (by rw [k])
theorem rR {p:Ps α} (hp:Sane p) (hpos:∀ s x m,p s = .inr (x,m)->1<=m) (s:List UInt8) {body:σ->Option (σ⊕ρ)} (n:Nat) (st:List α->Nat->σ) (fin:List α->Nat->ρ) (E:Int->ρ->Prop)
   (hgo:∀ acc k,acc.length < n->acc.length<=k->k<=s.length->(∀ x m,p (s.drop k) = .inr (x,m)->body (st acc k)=some (.inl (st (acc++[x]) (k + m)))) /\
     (∀ e,p (s.drop k) = .inl e->∃ r,E e r/\(body (st acc k)=some (.inr r)\/∃ s',body (st acc k)=some (.inl s')/\body s'=some (.inr r))))
   (hend:∀ acc k,acc.length=n->k<=s.length->body (st acc k)=some (.inr (fin acc k))) {k0:Nat} (hk0:k0<=s.length) :
   Goes (loop body (st [] k0)) (fun xs j=>fin xs (k0 + j)) E (bL p n (s.drop k0)):=by
 have gen:∀ (m:Nat) (acc:List α) (k:Nat),acc.length + m=n->acc.length<=k->k<=s.length->Goes (loop body (st acc k)) (fun xs j=>fin (acc++xs) (k + j)) E (bL p m (s.drop k)):=by
   intro m
   induction m with
   | zero =>
     intro acc k h1 h2 h3;show loop body (st acc k)=some _;rw [bO (hend acc k (by omega) h3)]; simp
   | succ m ih =>
     intro acc k h1 h2 h3;obtain ⟨g1,g2⟩:=hgo acc k (by omega) h2 h3;cases hs:p (s.drop k) with
     | inl e =>
       obtain ⟨r,hr,h4⟩:=g2 e hs;have:bL p (m + 1) (s.drop k) = .inl e:=fI hs;rw [this];refine ⟨r,?_,hr⟩
       rcases h4 with h4 | ⟨s',h4,h5⟩
       . exact bO h4
       . rw [di h4]; exact bO h5
     | inr xm =>
       obtain ⟨x,a⟩:=xm;rw [di (g1 x a hs)];have e1:=hp.len _ _ _ hs;have e2:=hpos _ _ _ hs;rw [T0] at e1;have h6:=ih (acc++[x]) (k + a) (by simp; omega) (by simp; omega) (by omega);have e3:bL p (m + 1) (s.drop k)=(match bL p m (s.drop (k + a)) with | .inl e => .inl e | .inr (xs,j) => .inr (x :: xs,a + j)):=by
         show pb p _ _=_;rw [bH hs,M4];cases h7:bL p m (s.drop (k + a)) with
         | inl e=>rw [fI h7]; rfl
         | inr xj=>obtain ⟨xs,j⟩:=xj; rw [bH h7]; simp [aC,eU]
       rw [e3];cases h7:bL p m (s.drop (k + a)) with
       | inl e=>rw [h7] at h6; exact h6
       | inr xj =>
         obtain ⟨xs,j⟩:=xj;rw [h7] at h6;have h6':loop body (st (acc++[x]) (k + a))=some (fin (acc++[x]++xs) (k + a + j)):=h6;show loop body _=some (fin (acc++x :: xs) (k + (a + j)));rw [h6'];simp [V2]
 have:=gen n [] k0 (by simp) (by simp) hk0;simpa using this
end
theorem lr (l:List UInt8) (k:Nat) (h:k<=l.length):subL l (k:Int) ((l.length:Nat):Int)=some (l.drop k):=by
 rw [sG (by omega) (by omega) (by omega)]; simp
theorem lq (s:List UInt8) (x:Int) (m:Nat) (h:bx s = .inr (x,m)):1<=m:=(cO h).2.2.2.1
theorem jH {α β:Type} {p:Ps α} {q:α->Ps β} (hp:∀ s x m,p s = .inr (x,m)->1<=m) (s:List UInt8) (y:β) (k:Nat) (h:pb p q s = .inr (y,k)):1<=k:=by
 obtain ⟨x,m,j,h1,h2,rfl⟩:=bF h;have:=hp _ _ _ h1; omega
end
abbrev St:=Int×Bool
def shp (xa xb:List St):Bool:=decide (xa.map (·.2)=xb.map (·.2))
theorem vp (xa xb:List St) {body:Int->Option (Int⊕(Unit⊕Bool))} (hl:xa.length=xb.length) (hb:∀ (k:Nat) (h:k < xa.length),body (k:Int)=some (if xa[k].2=(xb[k]'(by omega)).2 then .inl ((k + 1:Nat):Int) else .inr (.inr false))) (he:body (xa.length:Int)=some (.inr (.inl ()))) :
   loop body 0=some (if shp xa xb then .inl () else .inr false):=by
 have:=rz (body:=body) (xa.map (·.2)) (xb.map (·.2)) (.inr false) (.inl ()) (by simp [hl]) (fun k h=>by simpa using hb k (by simpa using h)) (by simpa using he);rw [this]; unfold shp;by_cases h:xa.map (·.2)=xb.map (·.2) <;> simp [h]
theorem sM {xa xb:List St} (h:¬ xa.length=xb.length):shp xa xb=false:=by
 unfold shp; simp only [decide_eq_false_iff_not];intro e; exact h (by simpa using congrArg N1 e)
theorem lm {xa xb:List St} (h:shp xa xb=true):xa.length=xb.length:=by
 unfold shp at h; simpa using congrArg N1 (of_decide_eq_true h)
theorem hU (xa xb:List St):shp xa xb=shp xb xa:=by unfold shp; simp only [eq_comm]
theorem tv (xa:List St) (n:Int):gQ xa n=some (decide ((xa.length:Int)<=n)):=rfl
theorem kY (xa xb:List St) (hn:xa.length<=1073741824):fg xa xb=some (shp xa xb):=by
 unfold fg;by_cases hl:xa.length=xb.length
 . rw [ir hl,cond_false,vp xa xb hl ?_ ?_]
   . cases shp xa xb <;> rfl
   . intro k h; unfold qO;have h2:k < xb.length:=by omega
     by_cases q:xa[k].2=xb[k].2 <;> simp [ah h,ah h2,h,q,ak h (by omega),xQ]
   . simp [qO]
 . rw [pI hl,cond_true,sM hl]
theorem gW (xa xb:List St) (hn:xa.length<=1073741824):dB xa xb=some (shp xa xb):=by
 unfold dB mq;by_cases hl:xa.length=xb.length
 . rw [ir hl,cond_false,vp xa xb hl ?_ ?_]
   . cases shp xa xb <;> rfl
   . intro k h; unfold qm qW;have h2:k < xb.length:=by omega
     by_cases q:xa[k].2=xb[k].2 <;> simp [ah h,ah h2,h,q,ak h (by omega),xQ]
   . simp [qm]
 . rw [pI hl,cond_true,sM hl]; rfl
theorem Cf (xa:List St) (n:Int) (m:Bool) (hn:xa.length<=1000000000):nU xa n m=some ((n,false) :: xa.map fun x=>(x.1,x.2||m)):=by
 unfold nU;have:=wQ xa (fun x:St=>(x.1,x.2||m)) [(n,false)] (by simp; omega) (body:=uZ xa m) (fun c i=>rfl);rw [this]; rfl
theorem BW (xa:List St) (n:Int) (m:Bool) (hn:xa.length<=1000000000):nG xa n m=some ((n,false) :: xa.map fun x=>(x.1,x.2||m)):=by
 unfold nG;have:=wQ xa (fun x:St=>(x.1,x.2||m)) [(n,false)] (by simp; omega) (body:=qU xa m) (fun c i=>by
   unfold qU;cases hg:aa xa i with
   | none=>simp [hg]
   | some x=>cases h2:x.2 <;> simp [hg,h2])
 rw [this]; rfl
theorem vI {α:Type} (xa:List α) (t:α->Bool):(∃ k,xa.findIdx? t=some k/\xa.any t=true)\/(xa.findIdx? t=none/\xa.any t=false):=by
 cases h:xa.findIdx? t with
 | none =>
   refine .inr ⟨rfl,?_⟩;rw [W3]; intro x hx; have:=U1.1 h x hx; simp [this]
 | some k =>
   obtain ⟨hk,h1,_⟩:=R1.1 h;exact .inl ⟨k,rfl,R6.2 ⟨_,U0 hk,h1⟩⟩
def rin (n:Int) (xa:List St):Bool:=xa.any fun x=>decide (x.1 < 0)||decide (n<=x.1)
def rck (n:Int) (xa:List St):Int:=if 16 < xa.length then 6 else if rin n xa then 7 else 0
def sbs (xb:List Int) (x:St):St:=(xb.getD x.1.toNat 0,x.2)
theorem B5 {n:Int} {xa:List St} (h:rin n xa=false) {k:Nat} {x:St} (hx:xa[k]? = some x):0<=x.1/\x.1 < n:=by
 unfold rin at h;have:=W3.1 h x (V8 hx);simp at this; omega
theorem oJ {xb:List Int} {i:Int} (h:0<=i) (h2:i < (xb.length:Nat)):aa xb i=some (xb.getD i.toNat 0):=by
 unfold aa; rw [if_pos h];have:i.toNat < xb.length:=by omega
 simp [this]
theorem vh (xa:List St) (n:Int) (hn:xa.length<=1073741824):kO xa n=some (!rin n xa):=by
 unfold kO qr qt;rw [bv (body:=mr xa n) xa (fun x=>decide (x.1 < 0)||decide (n<=x.1)) (fun k => .inr (k:Int)) (.inl ()) ?_ ?_]
 . rcases vI xa (fun x=>decide (x.1 < 0)||decide (n<=x.1)) with ⟨k,h1,h2⟩ | ⟨h1,h2⟩
   . rw [h1]; unfold rin; simp [h2]
   . rw [h1]; unfold rin; simp [h2]
 . intro k hk;unfold mr qL;simp only [dlt hk,cond_true,ah hk,M0,ak hk (by omega:xa.length<=9223372036854775807)];cases (decide (xa[k].1 < 0)||decide (n<=xa[k].1)) <;> rfl
 . simp [mr]
theorem nI (xa:List St) (n:Int) (hn:xa.length<=1073741824):dC xa n=some (rck n xa):=by
 unfold dC rck;rw [vh xa n hn];by_cases h:16 < xa.length
 . rw [decide_eq_true (by omega),if_pos h]; rfl
 . rw [decide_eq_false (by omega),if_neg h,cond_false];cases rin n xa <;> rfl
theorem nJ (xa:List St) (n:Int):gH xa n=some (rck n xa):=by
 unfold gH rck;by_cases h:16 < xa.length
 . rw [decide_eq_true (by omega),if_pos h]; rfl
 . rw [decide_eq_false (by omega),if_neg h,cond_false];rw [hI (body:=mY xa n) xa (fun x=>decide (x.1 < 0)||decide (n<=x.1)) (.inr 7) (.inl ()) ?_ ?_]
   . unfold rin; cases (xa.any fun x=>decide (x.1 < 0)||decide (n<=x.1)) <;> rfl
   . intro k hk;unfold mY;by_cases q:xa[k].1 < 0 <;> by_cases q2:n<=xa[k].1 <;> simp [hk,ah hk,ak hk (by omega:xa.length<=9223372036854775807),q,q2]
   . simp [mY]
theorem A7 (xa:List St) (hn:xa.length<=1073741824):nH xa=some xa:=by
 unfold nH qC;rw [DT]
 . rw [aq (by simpa using hn)]; simp
 . rintro rfl; rw [aq (by simp)]; rfl
theorem vw (xa:List St) (xb:List Int) (hn:xa.length<=1073741824):kT xa xb=some (if rin xb.length xa then ([],7) else (xa.map (sbs xb),0)):=by
 unfold kT;rw [vh xa _ hn,M0,A7 xa hn];cases h:rin xb.length xa with
 | true=>simp
 | false =>
   simp only [V6,X0,cond_false,M0,N2,if_false];have hl:=bd (body:=kD xb xa) (fun k:Nat=>((xa.take k).map (sbs xb)++xa.drop k,(k:Int))) xa.length (b:=xa.map (sbs xb)) ?_ ?_
   . simp only [S6,N6,O4,X2] at hl;have hl':loop (kD xb xa) (xa,0)=some (xa.map (sbs xb)):=hl;rw [hl']; rfl
   . intro k hk;have hg:aa ((xa.take k).map (sbs xb)++xa.drop k) (k:Int)=some xa[k]:=by
       rw [ah (by simp; omega)];rw [List.getElem_append_right (by simp; omega)];simp [bJ0,U4 (Nat.le_of_lt hk)]
     have hr:=B5 h (k:=k) (x:=xa[k]) (by simp [hk]);unfold kD;dsimp only;rw [hg];simp only [M0,oJ hr.1 hr.2,S9.2 hk,decide_true,cond_true,ak hk (by omega:xa.length<=9223372036854775807),O1]
     congr 3
     rw [Y3 hk,Y8 hk,am0 _ _ (by simp; omega)];rw [U8,Z0,U4 (Nat.le_of_lt hk),Z9,List.set_cons_zero,Y2,O0];rfl
   . simp [kD]
theorem rj (xa:List St) (xb:List Int) (hn:xa.length<=1073741824):kK xa xb=some (if rin xb.length xa then ([],7) else (xa.map (sbs xb),0)):=by
 unfold kK;have hl:=gZ (body:=kp xa xb)
   (fun k=>∃ x,xa[k]? = some x/\(x.1 < 0\/(xb.length:Int)<=x.1)) (fun k:Nat=>((xa.take k).map (sbs xb),(k:Int))) xa.length (fun _ => .inr ([],7)) (.inl (xa.map (sbs xb))) ?_ ?_ ?_
 . simp only [S6,N6] at hl
   rcases hl with ⟨k,h1,⟨x,h2,h2'⟩,_,h3⟩ | ⟨h1,h3⟩
   . have:rin xb.length xa=true:=R6.2 ⟨x,V8 h2,by simpa using h2'⟩;rw [this]; erw [h3]; rfl
   . have:rin xb.length xa=false:=by
       cases hh:rin xb.length xa with
       | false=>rfl
       | true =>
         obtain ⟨x,h4,h5⟩:=R6.1 hh;obtain ⟨k,h6,rfl⟩:=X3 h4;exact absurd ⟨xa[k],by simp [h6],by simpa using h5⟩ (h1 k h6)
     rw [this]; erw [h3]; rfl
 . intro k hk hp;have hx:¬ (xa[k].1 < 0\/(xb.length:Int)<=xa[k].1):=fun h=>hp ⟨_,by simp [hk],h⟩
   have h1:((decide (xa[k].1 < 0))||(decide (((xb.length:Nat):Int)<=xa[k].1)))=false:=by simp; omega
   have ha:=aq (a:=(xa.take k).map (sbs xb)) (b:=[sbs xb xa[k]]) (by simp; omega);have h5:aa xb xa[k].1=some (xb.getD xa[k].1.toNat 0):=oJ (by omega) (by omega);unfold kp;dsimp only;simp only [M0,ah hk,h1,cond_false,h5,S9.2 hk,decide_true,cond_true,ak hk (by omega:xa.length<=9223372036854775807)];rw [show app ((xa.take k).map (sbs xb)) [(xb.getD xa[k].1.toNat 0,xa[k].2)]=_ from ha,Y3 hk,Y2];rfl
 . rintro k hk ⟨x,h1,h2⟩;have hx:xa[k]=x:=by rw [R0 hk] at h1; exact P4 h1
   have h1:((decide (xa[k].1 < 0))||(decide (((xb.length:Nat):Int)<=xa[k].1)))=true:=by rw [hx]; simpa using h2
   unfold kp;dsimp only;simp only [M0,ah hk,h1,cond_true,S9.2 hk,decide_true]
 . simp [kp]
section
open Go.RowKit Lb
abbrev Sgt:=Int×List (Int×Int)×List (List St)×List St
def pE:Ps St:=qf (fun n=>(n / 2,decide (n % 2=1))) bx
def bB:Ps (List St):=aJ 16 pE
def pd:Ps (Int×Int):=pb bx fun a=>pb bx fun b=>aC (a,b)
def dK (most:Int):Ps (List (Int×Int)):=aJ most pd
def o9:Ps (List (List St)):=aJ 16 bB
def bX:Ps Sgt:=pb bx fun n=>pb (dK 16) fun B=>pb o9 fun A=>pb bB fun R=>aC (n,B,A,R)
theorem Sane.slot:Sane pE:=Sane.num.map
theorem Sane.type:Sane bB:=Sane.slot.list 16
theorem Sane.bound:Sane pd:=Sane.num.pb fun _=>Sane.num.pb fun _=>Sane.ret _
theorem Sane.bounds (most:Int):Sane (dK most):=Sane.bound.list most
theorem Sane.types:Sane o9:=Sane.type.list 16
theorem Sane.sig:Sane bX:=Sane.num.pb fun _=>(Sane.bounds 16).pb fun _=>Sane.types.pb fun _=>Sane.type.pb fun _=>Sane.ret _
theorem De:∀ (s:List UInt8) (x:St) (m:Nat),pE s = .inr (x,m)->1<=m:=fun s x m h=>jH (p:=bx) (q:=fun n=>aC (n / 2,decide (n % 2=1))) lq s x m h
theorem B0:∀ (s:List UInt8) (x:Int×Int) (m:Nat),pd s = .inr (x,m)->1<=m:=fun s x m h=>jH lq s x m h
theorem si {α:Type} {p:Ps α} {most:Int}:∀ (s:List UInt8) (x:List α) (m:Nat),aJ most p s = .inr (x,m)->1<=m:=fun s x m h=>jH (jH lq) s x m h
theorem sy:∀ (s:List UInt8) (x:List St) (m:Nat),bB s = .inr (x,m)->1<=m:=fun s x m h=>si s x m h
theorem Lp {n:Int} (h0:0<=n) (h1:n<=4294967295):(IntKind.wrap .i64 (aq0 n 2),decide ((aB0 n 2)=1))=(n / 2,decide (n % 2=1)):=by
 rw [X9 h0,aP0 h0,w64 (by omega) (by omega)]
theorem jF (s:List UInt8) (k:Nat) (h:k<=s.length) (hl:s.length<=1073741824):Goes (cY s (k:Int)) (fun n j=>(n,(0:Int),((k + j:Nat):Int))) (fun e g=>g.2.1=e) (bx (s.drop k)):=by
 unfold cY;rw [lr s k h,M0,gX _ (by simp; omega),M0];cases hs:bx (s.drop k) with
 | inl e=>obtain ⟨h1,_⟩:=dG hs; rw [h1]; exact ⟨_,rfl,rfl⟩
 | inr x =>
   obtain ⟨n,m⟩:=x;obtain ⟨h1,_,_,_,h2,_⟩:=cO hs;rw [T0] at h2;rw [h1];show some _=some _;rw [w64 (by omega) (by omega)]; rfl
theorem sK (most:Int) (s:List UInt8) (k:Nat) (h:k<=s.length) (hl:s.length<=1073741824):Goes (iF most s (k:Int)) (fun n j=>(n,(0:Int),((k + j:Nat):Int))) (fun e g=>g.2.1=e) (du most (s.drop k)):=by
 unfold iF;refine Goes.bind (jF s k h hl) (fun n j hs=>?_) (fun e g hs hg=>?_)
 . dsimp only;by_cases q:most < n
   . rw [if_pos q]; simp only [decide_true,q,S7,cond_true]; exact ⟨_,rfl,rfl⟩
   . rw [if_neg q]; simp [q,Goes,aC]
 . obtain ⟨a,b,c⟩:=g;obtain rfl:b=e:=hg;have:=(dG hs).2;refine ⟨(a,b,c),?_,rfl⟩;simp [this]
theorem sX (s:List UInt8) (k:Nat) (h:k<=s.length) (hl:s.length<=1073741824):Goes (fa s (k:Int)) (fun l j=>(l,(0:Int),((k + j:Nat):Int))) (fun e g=>g.2.1=e/\g.1.length<=1000000) (bB (s.drop k)):=by
 unfold fa;refine Goes.bind (sK 16 s k h hl) (fun n j hs=>?_) (fun e g hs hg=>?_)
 . obtain ⟨h1,h2⟩:=k8 hs;obtain ⟨_,n0,n1,_,m1,_⟩:=cO h1;rw [T0] at m1;rw [M4];have hl:=rR Sane.slot De s (body:=eZ s n) n.toNat (fun acc k=>((0:Int),((acc.length:Nat):Int),(k:Int),acc)) (fun acc k=>((0:Int),(k:Int),acc)) (fun e r=>r.1=e/\r.2.2.length<=1000000) ?_ ?_ (k0:=k + j) (by omega)
   . refine Goes.map hl (fun l i hl'=>?_) (fun e g hl' hg=>⟨_,rfl,hg⟩);simp [V2]
   . intro acc k' a1 a2 a3;have hn:=jF s k' a3 hl;have hb:∀ g:Int×Int×Int,cY s (k':Int)=some g->eZ s n ((0:Int),((acc.length:Nat):Int),(k':Int),acc)=some (.inl (g.2.1,((acc.length + 1:Nat):Int),g.2.2,acc++[(IntKind.wrap .i64 (aq0 g.1 2),decide ((aB0 g.1 2)=1))])):=by
       intro g hg;unfold eZ;dsimp only;rw [decide_eq_true (by omega),show decide ((0:Int)=0)=true from rfl,S7,cond_true,hg,M0];rw [aq (by simp; omega),M0,w64 (by omega) (by omega)];rfl
     refine ⟨fun x m hx=>?_,fun e he=>?_⟩
     . obtain ⟨n',m',j',b1,b2,rfl⟩:=bF (p:=bx) (q:=fun n=>aC (n / 2,decide (n % 2=1))) hx;cases b2;rw [b1] at hn;rw [hb _ hn];obtain ⟨_,c0,c1,_⟩:=cO b1;rw [Lp c0 c1];simp
     . rcases fG (p:=bx) (q:=fun n=>aC (n / 2,decide (n % 2=1))) he with he | ⟨_,_,_,he⟩
       . rw [he] at hn;obtain ⟨g,g1,g2⟩:=hn;obtain rfl:g.2.1=e:=g2;refine ⟨(g.2.1,g.2.2,acc++[(IntKind.wrap .i64 (aq0 g.1 2),decide ((aB0 g.1 2)=1))]),⟨rfl,by simp; omega⟩,.inr ⟨_,hb g g1,?_⟩⟩;have:=(dG he).2;unfold eZ;simp [this]
       . cases he
   . intro acc k' a1 a2;unfold eZ;dsimp only;rw [decide_eq_false (by omega)];rfl
 . obtain ⟨a,b,c⟩:=g;obtain rfl:b=e:=hg;have:=(Sane.count 16).err _ _ hs;have hl:=bO (body:=eZ s a) (s:=(b,0,c,[])) (b:=(b,c,[])) (by unfold eZ; simp [this]);dsimp only;rw [hl];exact ⟨_,rfl,rfl,by simp⟩
theorem wC (most:Int) (s:List UInt8) (k:Nat) (h:k<=s.length) (hl:s.length<=1000000):Goes (iE most s (k:Int)) (fun l j=>(l,(0:Int),((k + j:Nat):Int))) (fun e g=>g.2.1=e) (dK most (s.drop k)):=by
 unfold iE;refine Goes.bind (sK most s k h (by omega)) (fun n j hs=>?_) (fun e g hs hg=>?_)
 . obtain ⟨h1,h2⟩:=k8 hs;obtain ⟨_,n0,n1,_,m1,_⟩:=cO h1;rw [T0] at m1;rw [M4];have hl':=rR Sane.bound B0 s (body:=dZ s n) n.toNat (fun acc k=>(acc,(0:Int),((acc.length:Nat):Int),(k:Int))) (fun acc k=>(acc,(0:Int),(k:Int))) (fun e r=>r.2.1=e) ?_ ?_ (k0:=k + j) (by omega)
   . refine Goes.map hl' (fun l i hl'=>?_) (fun e g hl' hg=>⟨_,rfl,hg⟩);simp [V2]
   . intro acc k' a1 a2 a3;have hn:=jF s k' a3 (by omega);have hb:∀ g g':Int×Int×Int,cY s (k':Int)=some g->g'=(0,g.2.1,g.2.2)/\g.2.1≠0\/g.2.1=0/\cY s g.2.2=some g'->dZ s n (acc,(0:Int),((acc.length:Nat):Int),(k':Int))=some (.inl (acc++[(g.1,g'.1)],g'.2.1,((acc.length + 1:Nat):Int),g'.2.2)):=by
       intro g g' hg hg';unfold dZ;dsimp only;rw [decide_eq_true (by omega),show decide ((0:Int)=0)=true from rfl,S7,cond_true,hg,M0]
       rcases hg' with ⟨rfl,h0⟩ | ⟨h0,h1⟩
       . rw [decide_eq_false h0,cond_false,M0];rw [aq (by simp; omega),M0,w64 (by omega) (by omega)];rfl
       . rw [decide_eq_true h0,cond_true,h1,M0,M0];rw [aq (by simp; omega),M0,w64 (by omega) (by omega)];rfl
     have hbad:∀ g:Int×Int×Int,g.2.1≠0->∀ l c,dZ s n (l,g.2.1,c,g.2.2)=some (.inr (l,g.2.1,g.2.2)):=by
       intro g hg l c;unfold dZ;simp [hg]
     refine ⟨fun x m hx=>?_,fun e he=>?_⟩
     . obtain ⟨n',m',j',b1,b2,rfl⟩:=bF hx;obtain ⟨n2,m2,j2,b3,b4,rfl⟩:=bF b2;cases b4;have c1:=(cO b1).2.2.2.2.1;rw [T0] at c1;rw [b1] at hn;have hn2:=jF s (k' + m') (by omega) (by omega);rw [M4] at b3;rw [b3] at hn2;rw [hb _ _ hn (.inr ⟨rfl,hn2⟩)];simp [V2]
     . rcases fG he with he | ⟨n',m',b1,he⟩
       . rw [he] at hn;obtain ⟨g,g1,g2⟩:=hn;obtain rfl:g.2.1=e:=g2;have:=(dG he).2;exact ⟨_,rfl,.inr ⟨_,hb g _ g1 (.inl ⟨rfl,this⟩),hbad (0,g.2.1,g.2.2) this _ _⟩⟩
       . rcases fG he with he | ⟨_,_,_,he⟩
         . have c1:=(cO b1).2.2.2.2.1;rw [T0] at c1;rw [b1] at hn;have hn2:=jF s (k' + m') (by omega) (by omega);rw [M4] at he;rw [he] at hn2;obtain ⟨g,g1,g2⟩:=hn2;obtain rfl:g.2.1=e:=g2;have:=(dG he).2;exact ⟨_,rfl,.inr ⟨_,hb _ g hn (.inr ⟨rfl,g1⟩),hbad g this _ _⟩⟩
         . cases he
   . intro acc k' a1 a2;unfold dZ;dsimp only;rw [decide_eq_false (by omega)];rfl
 . obtain ⟨a,b,c⟩:=g;obtain rfl:b=e:=hg;have:=(Sane.count most).err _ _ hs;have hl:=bO (body:=dZ s a) (s:=([],b,0,c)) (b:=([],b,c)) (by unfold dZ; simp [this]);dsimp only;rw [hl];exact ⟨_,rfl,rfl⟩
theorem CV (s:List UInt8) (k:Nat) (h:k<=s.length) (hl:s.length<=1000000):Goes (mN s (k:Int)) (fun l j=>(l,(0:Int),((k + j:Nat):Int))) (fun e g=>g.2.1=e) (o9 (s.drop k)):=by
 unfold mN;refine Goes.bind (sK 16 s k h (by omega)) (fun n j hs=>?_) (fun e g hs hg=>?_)
 . obtain ⟨h1,h2⟩:=k8 hs;obtain ⟨_,n0,n1,_,m1,_⟩:=cO h1;rw [T0] at m1;rw [M4];have hl':=rR Sane.type sy s (body:=eY s n) n.toNat (fun acc k=>(acc,(0:Int),((acc.length:Nat):Int),(k:Int))) (fun acc k=>(acc,(0:Int),(k:Int))) (fun e r=>r.2.1=e) ?_ ?_ (k0:=k + j) (by omega)
   . refine Goes.map hl' (fun l i hl'=>?_) (fun e g hl' hg=>⟨_,rfl,hg⟩);simp [V2]
   . intro acc k' a1 a2 a3;have hn:=sX s k' a3 (by omega);have hb:∀ g:List St×Int×Int,fa s (k':Int)=some g->eY s n (acc,(0:Int),((acc.length:Nat):Int),(k':Int))=some (.inl (acc++[g.1],g.2.1,((acc.length + 1:Nat):Int),g.2.2)):=by
       intro g hg;unfold eY;dsimp only;rw [decide_eq_true (by omega),show decide ((0:Int)=0)=true from rfl,S7,cond_true,hg,M0];rw [aq (by simp; omega),M0,w64 (by omega) (by omega)];rfl
     refine ⟨fun x m hx=>?_,fun e he=>?_⟩
     . rw [hx] at hn;rw [hb _ hn];simp
     . rw [he] at hn;obtain ⟨g,g1,g2,_⟩:=hn;obtain rfl:g.2.1=e:=g2;have:=Sane.type.err _ _ he;refine ⟨(acc++[g.1],g.2.1,g.2.2),rfl,.inr ⟨_,hb g g1,?_⟩⟩;unfold eY;simp [this]
   . intro acc k' a1 a2;unfold eY;dsimp only;rw [decide_eq_false (by omega)];rfl
 . obtain ⟨a,b,c⟩:=g;obtain rfl:b=e:=hg;have:=(Sane.count 16).err _ _ hs;have hl:=bO (body:=eY s a) (s:=([],b,0,c)) (b:=([],b,c)) (by unfold eY; simp [this]);dsimp only;rw [hl];exact ⟨_,rfl,rfl⟩
def uf (r:Int⊕(List St×Nat)):List St×Int×Int:=match r with | .inr (t,m)=>(t,(m:Int),0) | .inl e=>([],0,e)
def uI (r:Int⊕(List (Int×Int)×Nat)):List (Int×Int)×Int×Int:=match r with | .inr (t,m)=>(t,(m:Int),0) | .inl e=>([],0,e)
def LG (r:Int⊕(Sgt×Nat)):Int×List (Int×Int)×List (List St)×List St×Int×Int:=match r with | .inr (g,m)=>(g.1,g.2.1,g.2.2.1,g.2.2.2,(m:Int),0) | .inl e=>(0,[],[],[],0,e)
theorem uX (s:List UInt8) (hl:s.length<=1000000):kz s=some (uf (bB s)):=by
 unfold kz;have h:=sX s 0 (by omega) (by omega);rw [X2] at h;cases hs:bB s with
 | inl e =>
   rw [hs] at h;obtain ⟨⟨a,b,c⟩,g1,g2,_⟩:=h;obtain rfl:b=e:=g2;have:=Sane.type.err _ _ hs;rw [show ((0:Nat):Int)=0 from rfl] at g1;rw [g1]; simp [uf,this]
 | inr x =>
   obtain ⟨x,m⟩:=x;rw [hs] at h;have h':fa s 0=some (x,0,((0 + m:Nat):Int)):=h;rw [h']; simp [uf]
theorem uT (s:List UInt8) (most:Int) (hl:s.length<=1000000):mW s most=some (uI (dK most s)):=by
 unfold mW;have h:=wC most s 0 (by omega) (by omega);rw [X2] at h;cases hs:dK most s with
 | inl e =>
   rw [hs] at h;obtain ⟨⟨a,b,c⟩,g1,g2⟩:=h;obtain rfl:b=e:=g2;have:=(Sane.bounds most).err _ _ hs;rw [show ((0:Nat):Int)=0 from rfl] at g1;rw [g1]; simp [uI,this]
 | inr x =>
   obtain ⟨x,m⟩:=x;rw [hs] at h;have h':iE most s 0=some (x,0,((0 + m:Nat):Int)):=h;rw [h']; simp [uI]
theorem vX (s:List UInt8) (hl:s.length<=1000000):iZ s=some (LG (bX s)):=by
 have key:Goes (iZ s) (fun (g:Sgt) j=>(g.1,g.2.1,g.2.2.1,g.2.2.2,(j:Int),(0:Int))) (fun e g=>g=(0,[],[],[],0,e)) (bX s):=by
   unfold iZ qI qG qJ qF;have h1:=jF s 0 (by omega) (by omega);rw [X2] at h1;rw [af0];refine Goes.bind h1 (fun n j hs=>?_) (fun e g hs hg=>?_)
   . simp only [M0,decide_true,X0,cond_false,O2];have e1:=Sane.num.len _ _ _ hs;rw [af0];refine Goes.bind (wC 16 s j (by omega) hl) (fun B j2 hs2=>?_) (fun e g hs2 hg=>?_)
     . simp only [M0,decide_true,X0,cond_false];have e2:=(Sane.bounds 16).len _ _ _ hs2;rw [T0] at e2;rw [af0,M4];refine Goes.bind (CV s (j + j2) (by omega) hl) (fun A j3 hs3=>?_) (fun e g hs3 hg=>?_)
       . simp only [M0,decide_true,X0,cond_false];have e3:=Sane.types.len _ _ _ hs3;rw [T0] at e3;rw [af0,M4];refine Goes.bind (sX s (j + j2 + j3) (by omega) (by omega)) (fun R j4 hs4=>?_) (fun e g hs4 hg=>?_)
         . simp [Goes,aC,V2]
         . obtain ⟨a,b,c⟩:=g;obtain rfl:b=e:=hg.1;have:=Sane.type.err _ _ hs4;exact ⟨(0,[],[],[],0,b),by simp [this],rfl⟩
       . obtain ⟨a,b,c⟩:=g;obtain rfl:b=e:=hg;have:=Sane.types.err _ _ hs3;exact ⟨(0,[],[],[],0,b),by simp [this],rfl⟩
     . obtain ⟨a,b,c⟩:=g;obtain rfl:b=e:=hg;have:=(Sane.bounds 16).err _ _ hs2;exact ⟨(0,[],[],[],0,b),by simp [this],rfl⟩
   . obtain ⟨a,b,c⟩:=g;obtain rfl:b=e:=hg;have:=(dG hs).2;exact ⟨(0,[],[],[],0,b),by simp [this],rfl⟩
 cases hs:bX s with
 | inl e=>rw [hs] at key; obtain ⟨g,g1,rfl⟩:=key; rw [g1]; rfl
 | inr x=>obtain ⟨x,m⟩:=x; rw [hs] at key; exact key
end
section
open Go.RowKit Lb
end
end
end Go.Proofs.YtcocmnheohgndaaGreat
