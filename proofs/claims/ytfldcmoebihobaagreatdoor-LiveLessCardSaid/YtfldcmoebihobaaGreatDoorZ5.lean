/- A part of the proof: what lies ahead of the law. Nothing is claimed here. -/
import Derived.Test.YtfldcmoebihobaaGreatDoorZ4
import Derived.Test.YtfldcmoebihobaaGreatDoorRows
namespace Go.Proofs.YtfldcmoebihobaaGreatDoor
noncomputable section
set_option linter.unusedVariables false
set_option maxRecDepth 100000
set_option maxHeartbeats 4000000
section
open Go.RowKit _root_.Go.Proofs.Tryz
abbrev bkO (i:Nat) (o:OT):Bk:=⟨some i,0,[],false,false,some o,false⟩
abbrev bkC (i:Nat) (e:TypeId) (ks:List Kd):Bk:=⟨some i,e,ks,false,false,none,false⟩
abbrev bkN (e:TypeId) (ks:List Kd):Bk:=⟨none,e,ks,false,false,none,false⟩
abbrev bkU (i:Nat):Bk:=⟨some i,0,[],false,true,none,false⟩
abbrev bkM:Bk:=⟨none,0,[],false,true,none,false⟩
abbrev kdI (i:Nat):Nat×Kd:=(i,.dat (.int .i64))
abbrev kdB (i:Nat):Nat×Kd:=(i,.dat .bool)
abbrev Yq1:Tp:=(.cons (.int .i64) (.cons (.int .i64) (.cons (.sl (.cons (.int .i64) (.one (.int .i64)))) (.cons (.sl (.one (.sl (.cons (.int .i64) (.one .bool))))) (.cons (.one (.sl (.cons (.int .i64) (.one .bool)))) (.cons (.sl (.cons (.int .i64) (.cons (.sl (.cons (.int .i64) (.one (.int .i64)))) (.cons (.sl (.one (.sl (.cons (.int .i64) (.one .bool))))) (.one (.one (.sl (.cons (.int .i64) (.one .bool))))))))) (.one (.sl (.cons (.sl (.cons (.int .i64) (.cons (.int .i64) (.cons (.int .i64) (.cons (.int .i64) (.one .bool)))))) (.one (.cons (.int .i64) (.cons (.int .i64) (.cons (.int .i64) (.cons (.sl (.int .i64)) (.cons (.sl (.int .i64)) (.one (.sl (.int .i64))))))))))))))))))
abbrev Tq1:Type:=(Int×Int×(List (Int×Int))×(List (List (Int×Bool)))×(List (Int×Bool))×(List (Int×(List (Int×Int))×(List (List (Int×Bool)))×(List (Int×Bool))))×(List ((List (Int×Int×Int×Int×Bool))×(Int×Int×Int×(List Int)×(List Int)×(List Int)))))
abbrev Yq2:Tp:=(.int .i64)
abbrev Yq3:Tp:=(.cons Yq2 (.one .bool))
abbrev Tq2:Type:=(List (Int×Bool))
abbrev Tq3:Type:=(Int×Int×Int×Int×Bool)
abbrev Tq4:Type:=((List Int)×(List Int))
abbrev Tq5:Type:=(List (Int×Int))
abbrev Yq4:Tp:=(.cons (.sl Yq2) (.one (.sl Yq2)))
abbrev Yq5:Tp:=(.sl (.cons Yq2 (.one Yq2)))
abbrev Tq6:Type:=(Int×Int×Int×(List Int)×(List Int)×(List Int))
abbrev Yq6:Tp:=(.cons Yq2 (.cons Yq2 (.cons Yq2 Yq3)))
abbrev Tq7:Type:=(Int×(List Int))
abbrev Yq7:Tp:=(.one (.sl Yq3))
abbrev Tq8:Type:=(Int×Int×Int×Int)
abbrev Tq9:Type:=((List Int)×(List Int)×Int×Int×(Option Tq5))
abbrev fH:Type:=(Int×(List Int)×(List Int)×Int×Int×(Option Tq5))
abbrev bK:Type:=(Int×Tq5×(List Tq2)×Tq2)
abbrev dN:Type:=(Int×(List Int)×Int×Int×(Option Tq5))
abbrev Yq8:Tp:=(.ptr (.cons Yq2 (.one (.sl (.int .u64)))))
abbrev dP:Type:=((List Int)×Int×Int×(Option Tq5))
abbrev aQ:Type:=((List Int)×Int)
abbrev Yq9:Tp:=(.ptr (.cons Yq2 (.cons Yq5 (.cons Yq4 (.one Yq4)))))
abbrev db:Tp:=(.cons Yq2 (.cons Yq2 (.cons Yq2 (.cons (.sl Yq2) Yq4))))
abbrev bW:Type:=(Int×(List (Option Tq7)))
abbrev cq:Type:=(Option (Int×Tq5×Tq4×Tq4))
abbrev aT:Type:=((List Tq3)×Int)
abbrev fJ:Tp:=(.cons Yq2 (.cons Yq5 (.cons (.sl Yq7) (.one Yq7))))
abbrev bU:Type:=(List (Int×Int×Bool))
abbrev cC:Tp:=(.ptr (.cons (.sl Yq2) (.one Yq2)))
abbrev hY:Type:=((List Tq4)×(List Tq4))
abbrev bw:Type:=(Int×Int)
abbrev jH:Type:=(Int×Int×(List Tq2)×Tq2×(List bK))
abbrev pC:Tp:=(.cons Yq2 (.cons Yq2 (.cons (.sl Yq7) (.cons Yq7 (.one (.sl fJ))))))
abbrev cM:Tp:=(.cons Yq2 (.one Yq2))
abbrev ew:Tp:=(.cons Yq2 (.one (.sl Yq8)))
instance nob:BldA:=⟨1000000000,fun b _=>Cl b 1000000000 [.pointer none,.slice none 0 0],fun h=>h,tzGk,tzGk.mono⟩
def HM:OkSpec Tryz.prog:=⟨tM,IF (fun _ h=>h),call100⟩

def gE (xa:Tq2) (xb:Int):Option Bool :=
 some (decide ((xa.length:Int)≤xb))
def hQ0:Hn Tryz.prog := .nil
def sQ0:Spec:=⟨20,⟨[(0,.dat Yq7),kdI 1],[]⟩,[⟨[kdB 0],[]⟩],fun x=>gE x.1 x.2⟩
def oQ0:OkSpec Tryz.prog:=⟨sQ0,ae func20 hQ0 (by kernel_rfl) (by kernel_rfl),call20⟩
def uD (xa:bK):Int→Option (Int⊕(Unit⊕Bool)):=fun i1=>cond (decide (i1 < (xa.2.2.1.length:Int))) ((aa xa.2.2.1 i1).bind fun x2=>(gE x2 20).bind fun t3=>cond (!t3) (some (.inr ((.inr (false))))) (some (.inl (IntKind.wrap .i64 (i1 + 1))))) (some (.inr ((.inl ()))))
def eV (xa:bK):Option Bool :=
 (cond ((decide (20 < (xa.2.1.length:Int)))||(decide (20 < (xa.2.2.1.length:Int)))) (some (true)) ((gE xa.2.2.2 20).bind fun t1=>some (!t1))).bind fun t2=>cond (t2) (some (false)) ((loop (uD xa) 0).bind fun o=>match o with | .inr r=>some r | .inl ()=>some (true))
def hQ1:Hn Tryz.prog := .gp 4 (.wt 14 (.gj 4 ⟨[kdB 19],[]⟩ [] (.two 14 .nil (.cl oQ0 [] .nil)) (.tw 19 .nil (.jx [] ⟨[],[]⟩ [] (.lp ⟨[kdI 3],[]⟩ (.tw 24 (.cl oQ0 [] (.tw 33 .nil .nil)) .nil)) .nil))))
def sQ1:Spec:=⟨21,⟨[(0,.dat fJ)],[]⟩,[⟨[kdB 0],[]⟩],fun x=>eV x⟩
def oQ1:OkSpec Tryz.prog:=⟨sQ1,ae func21 hQ1 (by kernel_rfl) (by kernel_rfl),call21⟩
def uC (xa:Tq1):Int→Option (Int⊕(Unit⊕Bool)):=fun i1=>cond (decide (i1 < (xa.2.2.2.1.length:Int))) ((aa xa.2.2.2.1 i1).bind fun x2=>(gE x2 20).bind fun t3=>cond (!t3) (some (.inr ((.inr (false))))) (some (.inl (IntKind.wrap .i64 (i1 + 1))))) (some (.inr ((.inl ()))))
def ik (xa:Tq1):Int→Option (Int⊕(Unit⊕Bool)):=fun i1=>cond (decide (i1 < (xa.2.2.2.2.2.1.length:Int))) ((aa xa.2.2.2.2.2.1 i1).bind fun x2=>(eV (x2.1,x2.2.1,x2.2.2.1,x2.2.2.2)).bind fun t3=>cond (!t3) (some (.inr ((.inr (false))))) (some (.inl (IntKind.wrap .i64 (i1 + 1))))) (some (.inr ((.inl ()))))
def gg (xa:Tq1):bw→Option (bw⊕(Int⊕Bool)):=fun (i1,i2)=>cond (decide (i2 < (xa.2.2.2.2.2.2.length:Int))) ((aa xa.2.2.2.2.2.2 i2).bind fun x3=>(aa xa.2.2.2.2.2.2 i2).bind fun x4=>cond (((decide (20 < (x3.2.2.2.2.1.length:Int)))||(decide (20 < (x3.2.2.2.2.2.1.length:Int))))||(decide (20 < (x3.2.2.2.2.2.2.length:Int)))) (some (.inr ((.inr (false))))) (some (.inl ((IntKind.wrap .i64 (i1 + (x4.1.length:Int)),IntKind.wrap .i64 (i2 + 1)))))) (some (.inr (.inl i1)))
def gy (xa:Tq1):Option Bool :=
 (cond ((((decide (20 < (xa.2.2.1.length:Int)))||(decide (10 < (xa.2.2.2.1.length:Int))))||(decide (4 < (xa.2.2.2.2.2.1.length:Int))))||(decide (8 < (xa.2.2.2.2.2.2.length:Int)))) (some (true)) ((gE xa.2.2.2.2.1 20).bind fun t1=>some (!t1))).bind fun t2=>cond (t2) (some (false)) ((loop (uC xa) 0).bind fun o=>match o with | .inr r=>some r | .inl ()=>(loop (ik xa) 0).bind fun o=>match o with | .inr r=>some r | .inl ()=>(loop (gg xa) (0,0)).bind fun o=>match o with | .inr r=>some r | .inl i3=>some (decide (i3≤24)))
def hQ2:Hn Tryz.prog := .gp 4 (.wt 18 (.gp 4 (.wt 24 (.gp 4 (.wt 30 (.gj 4 ⟨[kdB 35],[]⟩ [] (.two 30 .nil (.cl oQ0 [] .nil)) (.tw 35 .nil (.jx [] ⟨[],[]⟩ [] (.lp ⟨[kdI 3],[]⟩ (.tw 40 (.cl oQ0 [] (.tw 49 .nil .nil)) .nil)) (.jx [] ⟨[],[]⟩ [] (.lp ⟨[kdI 4],[]⟩ (.tw 54 (.cl oQ1 [] (.tw 63 .nil .nil)) .nil)) (.jx [] ⟨[kdI 5],[]⟩ [] (.lp ⟨[kdI 5,kdI 6],[]⟩ (.tw 68 (.wt 90 (.gp 4 (.wt 96 (.gp 4 (.tw 101 .nil .nil))))) .nil)) .nil))))))))))
def sQ2:Spec:=⟨5,⟨[(0,.dat Yq1)],[]⟩,[⟨[kdB 0],[]⟩],fun x=>gy x⟩
def oQ2:OkSpec Tryz.prog:=⟨sQ2,ae func5 hQ2 (by kernel_rfl) (by kernel_rfl),call5⟩
def gl (xa:Tq1):Int→Option (Int⊕(Unit⊕Tq8)):=fun i1=>cond (decide (i1 < (xa.2.2.1.length:Int))) ((aa xa.2.2.1 i1).bind fun x2=>cond ((((decide (x2.1 < 0))||(decide (xa.1≤x2.1)))||(decide (x2.2 < 0)))||(decide (xa.1≤x2.2))) (some (.inr ((.inr ((7,1,i1,0)))))) (some (.inl (IntKind.wrap .i64 (i1 + 1))))) (some (.inr ((.inl ()))))
def gB (xa:Tq1):Option Tq8 :=
 cond ((decide (xa.1 < 1))||(decide (xa.2.1 < xa.1))) (some ((7,0,0,0))) (cond (decide (65536 < xa.2.1)) (some ((6,0,0,0))) (cond (decide (65536 < (xa.2.2.1.length:Int))) (some ((6,1,0,0))) ((loop (gl xa) 0).bind fun o=>match o with | .inr r=>some r | .inl ()=>some ((0,0,0,0)))))
def hQ3:Hn Tryz.prog := .gp 5 (.tw 14 .nil (.tw 18 .nil (.tw 23 .nil (.jx [] ⟨[],[bkC 2 84 [.lit (.int .i64 0),.lit (.int .i64 0),.lit (.int .i64 0),.lit (.int .i64 0)]]⟩ [2] (.lp ⟨[kdI 3],[bkC 2 84 [.lit (.int .i64 0),.lit (.int .i64 0),.lit (.int .i64 0),.lit (.int .i64 0)]]⟩ (.tw 29 (.wt 40 (.gp 5 (.wt 47 (.gp 3 (.wt 52 (.gp 5 (.tw 58 .nil .nil))))))) .nil)) .nil))))
def sQ3:Spec:=⟨61,⟨[(0,.dat Yq1)],[]⟩,[⟨[(0,.agg [.dat Yq2,.dat Yq2,.dat Yq2,.dat Yq2])],[]⟩],fun x=>gB x⟩
def oQ3:OkSpec Tryz.prog:=⟨sQ3,ae func61 hQ3 (by kernel_rfl) (by kernel_rfl),call61⟩
def mG (xa:Tq2) (xb:Int):Int→Option (Int⊕(Unit⊕Int)):=fun i1=>cond (decide (i1 < (xa.length:Int))) ((aa xa i1).bind fun x2=>(cond (decide (x2.1 < 0)) (some (true)) ((aa xa i1).bind fun x3=>some (decide (xb≤x3.1)))).bind fun t4=>cond (t4) (some (.inr ((.inr (7))))) (some (.inl (IntKind.wrap .i64 (i1 + 1))))) (some (.inr ((.inl ()))))
def gA (xa:Tq2) (xb:Int):Option Int :=
 cond (decide (16 < (xa.length:Int))) (some (6)) ((loop (mG xa xb) 0).bind fun o=>match o with | .inr r=>some r | .inl ()=>some (0))
def hQ4:Hn Tryz.prog := .tw 9 .nil (.jx [] ⟨[],[]⟩ [] (.lp ⟨[kdI 5],[]⟩ (.tw 14 (.wt 24 (.gj 8 ⟨[kdB 33],[]⟩ [] (.two 24 .nil .nil) (.tw 33 .nil .nil))) .nil)) .nil)
def sQ4:Spec:=⟨86,⟨[(0,.dat Yq7),kdI 1],[]⟩,[⟨[kdI 0],[]⟩],fun x=>gA x.1 x.2⟩
def oQ4:OkSpec Tryz.prog:=⟨sQ4,ae func86 hQ4 (by kernel_rfl) (by kernel_rfl),call86⟩
def qg (xa:Tq2) (xb:Tq2):Int→Option (Int⊕(Unit⊕Bool)):=fun i1=>cond (decide (i1 < (xa.length:Int))) ((aa xa i1).bind fun x2=>(aa xb i1).bind fun x3=>cond (!(x2.2 == x3.2)) (some (.inr ((.inr (false))))) (some (.inl (IntKind.wrap .i64 (i1 + 1))))) (some (.inr ((.inl ()))))
def gv (xa:Tq2) (xb:Tq2):Option Bool :=
 cond (!decide ((xa.length:Int)=(xb.length:Int))) (some (false)) ((loop (qg xa xb) 0).bind fun o=>match o with | .inr r=>some r | .inl ()=>some (true))
def hQ5:Hn Tryz.prog := .tw 12 .nil (.jx [] ⟨[],[]⟩ [] (.lp ⟨[kdI 5],[]⟩ (.tw 17 (.mix [] [0,1,2,3,4,5,6,7,8,9,10,11,12] [] [] (.tw 32 .nil .nil)) .nil)) .nil)
def sQ5:Spec:=⟨87,⟨[(0,.dat Yq7),(1,.dat Yq7)],[]⟩,[⟨[kdB 0],[]⟩],fun x=>gv x.1 x.2⟩
def oQ5:OkSpec Tryz.prog:=⟨sQ5,ae func87 hQ5 (by kernel_rfl) (by kernel_rfl),call87⟩
def mC (xa:bK):Int→Option (Int⊕(Unit⊕Int)):=fun i1=>cond (decide (i1 < (xa.2.1.length:Int))) ((aa xa.2.1 i1).bind fun x2=>cond ((((decide (x2.1 < 0))||(decide (xa.1≤x2.1)))||(decide (x2.2 < 0)))||(decide (xa.1≤x2.2))) (some (.inr ((.inr (7))))) (some (.inl (IntKind.wrap .i64 (i1 + 1))))) (some (.inr ((.inl ()))))
def mH (xa:bK):Int→Option (Int⊕(Unit⊕Int)):=fun i1=>cond (decide (i1 < (xa.2.2.1.length:Int))) ((aa xa.2.2.1 i1).bind fun x2=>(gA x2 xa.1).bind fun i3=>cond (!decide (i3=0)) (some (.inr ((.inr (i3))))) (some (.inl (IntKind.wrap .i64 (i1 + 1))))) (some (.inr ((.inl ()))))
def eR (xa:bK):Option Int :=
 cond (decide (xa.1 < 0)) (some (7)) (cond (((decide (16 < xa.1))||(decide (16 < (xa.2.1.length:Int))))||(decide (16 < (xa.2.2.1.length:Int)))) (some (6)) ((loop (mC xa) 0).bind fun o=>match o with | .inr r=>some r | .inl ()=>(loop (mH xa) 0).bind fun o=>match o with | .inr r=>some r | .inl ()=>(gA xa.2.2.2 xa.1).bind fun i1=>some (i1)))
def hQ6:Hn Tryz.prog := .tw 9 .nil (.wt 13 (.gp 4 (.wt 19 (.gp 4 (.tw 24 .nil (.jx [] ⟨[],[]⟩ [] (.lp ⟨[kdI 3],[]⟩ (.tw 29 (.wt 40 (.gp 5 (.wt 47 (.gp 3 (.wt 52 (.gp 5 (.tw 58 .nil .nil))))))) .nil)) (.jx [] ⟨[],[]⟩ [] (.lp ⟨[kdI 5],[]⟩ (.tw 63 (.mix [] [0,1,2,3,4,5,6] [7,8] [] (.cl oQ4 [] (.tw 75 .nil .nil))) .nil)) (.cl oQ4 [] .nil))))))))
def sQ6:Spec:=⟨88,⟨[(0,.dat fJ)],[]⟩,[⟨[kdI 0],[]⟩],fun x=>eR x⟩
def oQ6:OkSpec Tryz.prog:=⟨sQ6,ae func88 hQ6 (by kernel_rfl) (by kernel_rfl),call88⟩
def gf (xa:Tq1):Int→Option (Int⊕(Unit⊕Tq8)):=fun i1=>cond (decide (i1 < (xa.2.2.2.1.length:Int))) ((aa xa.2.2.2.1 i1).bind fun x2=>(gA x2 xa.2.1).bind fun i3=>cond (!decide (i3=0)) (some (.inr ((.inr ((i3,2,i1,0)))))) (some (.inl (IntKind.wrap .i64 (i1 + 1))))) (some (.inr ((.inl ()))))
def ge (xa:Tq1):Int→Option (Int⊕(Unit⊕Tq8)):=fun i1=>cond (decide (i1 < (xa.2.2.2.2.2.1.length:Int))) ((aa xa.2.2.2.2.2.1 i1).bind fun x2=>(eR (x2.1,x2.2.1,x2.2.2.1,x2.2.2.2)).bind fun i3=>cond (!decide (i3=0)) (some (.inr ((.inr ((i3,4,i1,0)))))) (some (.inl (IntKind.wrap .i64 (i1 + 1))))) (some (.inr ((.inl ()))))
def gz (xa:Tq1):Option Tq8 :=
 cond (decide ((xa.2.2.2.1.length:Int)=0)) (some ((14,2,0,0))) (cond (decide (65536 < (xa.2.2.2.1.length:Int))) (some ((6,2,0,0))) ((loop (gf xa) 0).bind fun o=>match o with | .inr r=>some r | .inl ()=>(gA xa.2.2.2.2.1 xa.1).bind fun i1=>cond (!decide (i1=0)) (some ((i1,3,0,0))) ((aa xa.2.2.2.1 0).bind fun x2=>(gv x2 xa.2.2.2.2.1).bind fun t3=>cond (!t3) (some ((8,3,0,0))) (cond (decide (65536 < (xa.2.2.2.2.2.1.length:Int))) (some ((6,4,0,0))) ((loop (ge xa) 0).bind fun o=>match o with | .inr r=>some r | .inl ()=>some ((0,0,0,0)))))))
def hQ7:Hn Tryz.prog := .tw 11 .nil (.tw 16 .nil (.jx [] ⟨[],[bkC 2 84 [.lit (.int .i64 0),.lit (.int .i64 0),.lit (.int .i64 0),.lit (.int .i64 0)]]⟩ [2] (.lp ⟨[kdI 3],[bkC 2 84 [.lit (.int .i64 0),.lit (.int .i64 0),.lit (.int .i64 0),.lit (.int .i64 0)]]⟩ (.tw 22 (.mix [] [0,1,2,3,4,5,6] [7,8] [] (.cl oQ4 [] (.tw 34 .nil .nil))) .nil)) (.cl oQ4 [] (.tw 44 .nil (.mix [] [0,1,2,3,4,5] [6,7] [] (.cl oQ5 [] (.tw 54 .nil (.tw 59 .nil (.jx [] ⟨[],[bkC 2 84 [.lit (.int .i64 0),.lit (.int .i64 0),.lit (.int .i64 0),.lit (.int .i64 0)]]⟩ [2] (.lp ⟨[kdI 6],[bkC 2 84 [.lit (.int .i64 0),.lit (.int .i64 0),.lit (.int .i64 0),.lit (.int .i64 0)]]⟩ (.tw 65 (.cl oQ6 [] (.tw 75 .nil .nil)) .nil)) .nil)))))))))
def sQ7:Spec:=⟨62,⟨[(0,.dat Yq1)],[]⟩,[⟨[(0,.agg [.dat Yq2,.dat Yq2,.dat Yq2,.dat Yq2])],[]⟩],fun x=>gz x⟩
def oQ7:OkSpec Tryz.prog:=⟨sQ7,ae func62 hQ7 (by kernel_rfl) (by kernel_rfl),call62⟩

def iC (xa:Int):Option Bool :=
 some ((((decide (xa=1))||(decide (xa=2)))||(decide (xa=3)))||(decide (xa=5)))
def hQ8:Hn Tryz.prog := .gp 2 (.wt 9 (.gp 2 (.wt 13 (.gp 2 .nil))))
def sQ8:Spec:=⟨103,⟨[kdI 0],[]⟩,[⟨[kdB 0],[]⟩],fun x=>iC x⟩
def oQ8:OkSpec Tryz.prog:=⟨sQ8,ae func103 hQ8 (by kernel_rfl) (by kernel_rfl),call103⟩

def iB (xa:Int):Option Bool :=
 some ((decide (1≤xa))&&(decide (xa≤4)))
def hQ9:Hn Tryz.prog := .gp 2 .nil
def sQ9:Spec:=⟨104,⟨[kdI 0],[]⟩,[⟨[kdB 0],[]⟩],fun x=>iB x⟩
def oQ9:OkSpec Tryz.prog:=⟨sQ9,ae func104 hQ9 (by kernel_rfl) (by kernel_rfl),call104⟩

def ki (xa:Int):Option Bool :=
 some ((decide (xa=2))||(decide (xa=3)))
def M4:Hn Tryz.prog := .gp 2 .nil
def JO:Spec:=⟨105,⟨[kdI 0],[]⟩,[⟨[kdB 0],[]⟩],fun x=>ki x⟩
def zI:OkSpec Tryz.prog:=⟨JO,ae func105 M4 (by kernel_rfl) (by kernel_rfl),call105⟩

def eT (xa:Tq3):Option Bool :=
 (cond ((decide (0≤xa.1))&&(decide (xa.1≤5))) ((iC xa.1).bind fun t97=>some (t97||(decide (xa.2.1=0)))) (some (false))).bind fun t93=>(cond (t93) ((iB xa.1).bind fun t1=>some (t1||(decide (xa.2.2.1=0)))) (some (false))).bind fun t2=>(cond (t2) ((ki xa.1).bind fun t3=>some (t3||((decide (xa.2.2.2.1=0))&&(!xa.2.2.2.2)))) (some (false))).bind fun t4=>some (t4)
def Ju:Hn Tryz.prog := .gp 3 (.wt 11 (.gj 8 ⟨[kdB 20],[]⟩ [] (.two 11 (.cl oQ8 [] (.wt 15 (.gp 3 .nil))) .nil) (.wt 21 (.gj 8 ⟨[kdB 30],[]⟩ [] (.two 21 (.cl oQ9 [] (.wt 25 (.gp 3 .nil))) .nil) (.wt 31 (.gj 13 ⟨[kdB 45],[]⟩ [] (.two 31 (.cl zI [] (.wt 35 (.gp 8 .nil))) .nil) .nil))))))
def LG:Spec:=⟨102,⟨[(0,.dat Yq6)],[]⟩,[⟨[kdB 0],[]⟩],fun x=>eT x⟩
def KP:OkSpec Tryz.prog:=⟨LG,ae func102 Ju (by kernel_rfl) (by kernel_rfl),call102⟩
def mf (xb:Tq2) (xc:Tq2) (xd:Int) (xe:Int):aT→Option (aT⊕(List Tq3)):=fun (l1,i2)=>cond (decide (i2 < (xb.length:Int))) ((aa xb i2).bind fun x3=>(aa xc i2).bind fun x4=>(app l1 (([(x3.1,x4.1,xd,IntKind.wrap .i64 (xe + i2),false)]:List Tq3))).bind fun z5=>(aa xc i2).bind fun x6=>cond (x6.2) ((aa xc i2).bind fun x7=>(aa xb i2).bind fun x8=>(app z5 (([(x7.1,x8.1,xd,IntKind.wrap .i64 (xe + i2),true)]:List Tq3))).bind fun z9=>some (.inl ((z9,IntKind.wrap .i64 (i2 + 1))))) (some (.inl ((z5,IntKind.wrap .i64 (i2 + 1)))))) (some (.inr (l1)))
def fQ (xb:Tq2) (xc:Tq2) (xd:Int) (xe:Int) (qxa:(List Tq3)):Option ((List Tq3)) :=
 (loop (mf xb xc xd xe) (qxa,0)).bind fun l1=>some (l1)
def LJ:Hn Tryz.prog := .jn [] ⟨[(0,.own 189 Yq6)],[]⟩ [0] (.lp ⟨[(0,.own 189 Yq6),kdI 11],[]⟩ (.tw 15 (.mix [([0,1,2,3,4,5,6,7,8,9,10,11,12,13,14,15],16)] [] [17,18] [] (.tw 40 (.mix [([0,1,2,3,4,5,6,7,8,9,10,11,12,13,14,15],16)] [] [17,18] [] .nil) .nil)) .nil)) .nil
def Jf:Spec:=⟨131,⟨[(0,.own 189 Yq6),(1,.dat (.sl Yq3)),(2,.dat (.sl Yq3)),kdI 3,kdI 4],[]⟩,[⟨[(0,.own 189 Yq6)],[]⟩],fun x=>fQ x.2.1 x.2.2.1 x.2.2.2.1 x.2.2.2.2 x.1⟩
def tW:OkSpec Tryz.prog:=⟨Jf,ae func131 LJ (by kernel_rfl) (by kernel_rfl),call131⟩

def dW (xa:Tq2) (xb:Tq2) (xc:Int) (xd:Int):Option (aT) :=
 (gv xa xb).bind fun t34=>cond (!t34) (some (([],8))) ((fQ xa xb xc xd (([]:List Tq3))).bind fun l45=>some ((l45,0)))
def JJ:Hn Tryz.prog := .cl oQ5 [] (.tw 13 .nil (.cl tW [] .nil))
def J1:Spec:=⟨106,⟨[(0,.dat Yq7),(1,.dat Yq7),kdI 2,kdI 3],[]⟩,[⟨[(0,.tup [.own 189 Yq6,.dat Yq2])],[]⟩],fun x=>dW x.1 x.2.1 x.2.2.1 x.2.2.2⟩
def pH:OkSpec Tryz.prog:=⟨J1,ae func106 JJ (by kernel_rfl) (by kernel_rfl),call106⟩
def qp (xa:Tq2) (xc:Bool):(Tq2×Int)→Option ((Tq2×Int)⊕Tq2):=fun (l1,i2)=>cond (decide (i2 < (xa.length:Int))) ((aa xa i2).bind fun x3=>(aa xa i2).bind fun x4=>cond (x4.2) ((app l1 (([(x3.1,true)]:List (Int×Bool)))).bind fun z5=>some (.inl ((z5,IntKind.wrap .i64 (i2 + 1))))) ((app l1 (([(x3.1,xc)]:List (Int×Bool)))).bind fun z6=>some (.inl ((z6,IntKind.wrap .i64 (i2 + 1)))))) (some (.inr (l1)))
def na (xa:Tq2) (xb:Int) (xc:Bool):Option (Tq2) :=
 (loop (qp xa xc) ((([(xb,false)]:List (Int×Bool)),0))).bind fun l1=>some (l1)
def MX:Hn Tryz.prog := .jn [] ⟨[(7,.own 168 Yq3),(11,.any)],[]⟩ [4] (.lp ⟨[(7,.own 168 Yq3),kdI 8],[]⟩ (.tw 16 (.mix [([0,1,2,3,4,5,6,7,8,9,10,11,12,13,14,15,16],17)] [] [18,19] [] (.two 32 .nil .nil)) .nil)) .nil
def JD:Spec:=⟨132,⟨[(0,.dat Yq7),kdI 1,kdB 2],[]⟩,[⟨[(0,.agg [.own 168 Yq3])],[]⟩],fun x=>na x.1 x.2.1 x.2.2⟩
def LH:OkSpec Tryz.prog:=⟨JD,ae func132 MX (by kernel_rfl) (by kernel_rfl),call132⟩

def m5 (xa:Tq2) (xb:Tq2) (xc:Int) (xd:Bool):Option (aT) :=
 (na xa xc xd).bind fun l1=>(gv l1 xb).bind fun t2=>cond (!t2) (some (([],8))) ((aa xb 0).bind fun x3=>(subL xb 1 (xb.length:Int)).bind fun y4=>(fQ xa y4 1 1 (([(xc,x3.1,2,0,false)]:List Tq3))).bind fun l5=>some ((l5,0)))
def Jc:Hn Tryz.prog := .mix [([0,1,2,4],3)] [] [5,6] [] (.cl LH [] (.cl oQ5 [4] (.tw 17 .nil (.mix [] [0,1,2,3,4,5] [6,7,8] [] (.cl tW [] .nil)))))
def K8:Spec:=⟨107,⟨[(0,.dat Yq7),(1,.dat Yq7),kdI 2,kdB 3],[]⟩,[⟨[(0,.tup [.own 189 Yq6,.dat Yq2])],[]⟩],fun x=>m5 x.1 x.2.1 x.2.2.1 x.2.2.2⟩
def Lj:OkSpec Tryz.prog:=⟨K8,ae func107 Jc (by kernel_rfl) (by kernel_rfl),call107⟩
def io (xa:Tq2) (xd:Bool):Int→Option (Int⊕(Unit⊕aT)):=fun i1=>cond (decide (i1 < (xa.length:Int))) ((cond (xd) ((aa xa i1).bind fun x2=>some (!x2.2)) (some (false))).bind fun t3=>cond (t3) (some (.inr ((.inr (([],8)))))) (some (.inl (IntKind.wrap .i64 (i1 + 1))))) (some (.inr ((.inl ()))))
def mX (xa:Tq2) (xb:Tq2) (xc:Int) (xd:Bool):Option (aT) :=
 (cond (decide ((xa.length:Int)=0)) (some (true)) ((gv xa xb).bind fun t1=>some (!t1))).bind fun t2=>(cond (t2) (some (true)) ((aa xa 0).bind fun x3=>some (x3.2))).bind fun t4=>cond (t4) (some (([],8))) ((loop (io xa xd) 1).bind fun o=>match o with | .inr r=>some r | .inl ()=>(aa xa 0).bind fun x5=>(aa xb 0).bind fun x6=>(subL xa 1 (xa.length:Int)).bind fun y7=>(subL xb 1 (xb.length:Int)).bind fun y8=>(fQ y7 y8 1 1 (([(x5.1,xc,3,0,false),(xc,x6.1,2,0,false)]:List Tq3))).bind fun l9=>some ((l9,0)))
def Mb:Hn Tryz.prog := .gj 4 ⟨[kdB 21],[]⟩ [] (.two 16 .nil (.cl oQ5 [] .nil)) (.wt 22 (.gj 5 ⟨[kdB 28],[]⟩ [] (.two 22 .nil .nil) (.tw 28 .nil (.jx [] ⟨[],[]⟩ [] (.lp ⟨[kdI 10],[]⟩ (.tw 33 (.wt 37 (.gj 7 ⟨[kdB 45],[]⟩ [] (.two 37 .nil .nil) (.tw 45 .nil .nil))) .nil)) (.mix [([0,1,2,3,4,5,6,7,8,9,10,11,12,13],14)] [15] [] [] (.mix [] [0,1,2,3,4,5,6] [7,8,9] [] (.cl tW [] .nil)))))))
def Mh:Spec:=⟨108,⟨[(0,.dat Yq7),(1,.dat Yq7),kdI 2,kdB 3],[]⟩,[⟨[(0,.tup [.own 189 Yq6,.dat Yq2])],[]⟩],fun x=>mX x.1 x.2.1 x.2.2.1 x.2.2.2⟩
def MB:OkSpec Tryz.prog:=⟨Mh,ae func108 Mb (by kernel_rfl) (by kernel_rfl),call108⟩

def bM (xa:Tq3) (xb:(List Tq2)) (xc:Int):Option (aT) :=
 (eT (xa.1,xa.2.1,xa.2.2.1,xa.2.2.2.1,xa.2.2.2.2)).bind fun t1=>cond (!t1) (some (([],3))) ((iC xa.1).bind fun t2=>(cond (t2&&((decide (xa.2.1 < 0))||(decide ((xb.length:Int)≤xa.2.1)))) (some (true)) ((iB xa.1).bind fun t3=>some (t3&&((decide (xa.2.2.1 < 0))||(decide ((xb.length:Int)≤xa.2.2.1)))))).bind fun t4=>(cond (t4) (some (true)) ((ki xa.1).bind fun t5=>some (t5&&((decide (xa.2.2.2.1 < 0))||(decide (xc≤xa.2.2.2.1)))))).bind fun t6=>cond (t6) (some (([],7))) (cond (decide (xa.1=1)) ((aa xb xa.2.2.1).bind fun x7=>(aa xb xa.2.1).bind fun x8=>(dW x7 x8 1 0).bind fun (l9,i10)=>some ((l9,i10))) (cond (decide (xa.1=2)) ((aa xb xa.2.2.1).bind fun x11=>(aa xb xa.2.1).bind fun x12=>(m5 x11 x12 xa.2.2.2.1 xa.2.2.2.2).bind fun (l13,i14)=>some ((l13,i14))) (cond (decide (xa.1=3)) ((aa xb xa.2.2.1).bind fun x15=>(aa xb xa.2.1).bind fun x16=>(mX x15 x16 xa.2.2.2.1 xa.2.2.2.2).bind fun (l17,i18)=>some ((l17,i18))) (some (([],0)))))))
def L8:Hn Tryz.prog := .cl KP [] (.tw 10 .nil (.cl oQ8 [] (.gp 10 (.wt 26 (.gj 15 ⟨[kdB 42],[]⟩ [] (.two 26 .nil (.cl oQ9 [] (.wt 30 (.gp 10 .nil)))) (.wt 43 (.gj 14 ⟨[kdB 58],[]⟩ [] (.two 43 .nil (.cl zI [] (.wt 47 (.gp 9 .nil)))) (.tw 58 .nil (.tw 61 (.mix [([0,1,2,3,4,5,6,7,8,9],10)] [11,12,13,14] [] [] (.cl pH [] .nil)) (.tw 77 (.mix [([0,1,2,3,4,5,6,7,8,9,10,11,12,13],14)] [15,16,17,18] [] [] (.cl Lj [] .nil)) (.tw 97 (.mix [([0,1,2,3,4,5,6,7,8,9,10,11,12,13],14)] [15,16,17,18] [] [] (.cl MB [] .nil)) .nil)))))))))))
def J9:Spec:=⟨89,⟨[(0,.dat Yq6),(1,.dat (.sl Yq7)),kdI 2],[]⟩,[⟨[(0,.tup [.own 189 Yq6,.dat Yq2])],[]⟩],fun x=>bM x.1 x.2.1 x.2.2⟩
def I0:OkSpec Tryz.prog:=⟨J9,ae func89 L8 (by kernel_rfl) (by kernel_rfl),call89⟩

def dh (xa:Tq6):Option Int :=
 cond ((decide (xa.1 < 1))||(decide (4 < xa.1))) (some (3)) (cond (((((decide (xa.1=1))||(decide (xa.1=4)))&&(!decide ((xa.2.2.2.1.length:Int)=1)))||((decide (xa.1=2))&&(decide ((xa.2.2.2.1.length:Int)=0))))||((decide (xa.1=3))&&(!decide ((xa.2.2.2.1.length:Int)=0)))) (some (3)) (cond ((!decide (xa.1=4))&&(((!decide (xa.2.1=0))||(!decide (xa.2.2.1=0)))||(!decide ((xa.2.2.2.2.2.length:Int)=0)))) (some (3)) (cond (((decide (xa.1=1))||(decide (xa.1=3)))&&(!decide ((xa.2.2.2.2.1.length:Int)=0))) (some (3)) (cond (((decide (16 < (xa.2.2.2.1.length:Int)))||(decide (16 < (xa.2.2.2.2.1.length:Int))))||(decide (16 < (xa.2.2.2.2.2.length:Int)))) (some (6)) (some (0))))))
def Lf:Hn Tryz.prog := .gp 3 (.tw 10 .nil (.wt 14 (.gp 3 (.wt 19 (.gp 4 (.wt 25 (.gp 9 (.wt 36 (.gp 9 (.tw 46 .nil (.wt 50 (.gp 14 (.tw 65 .nil (.wt 69 (.gp 3 (.wt 74 (.gp 4 (.tw 79 .nil (.wt 84 (.gp 4 (.wt 90 (.gp 4 (.tw 95 .nil .nil)))))))))))))))))))))))
def La:Spec:=⟨109,⟨[(0,.dat db)],[]⟩,[⟨[kdI 0],[]⟩],fun x=>dh x⟩
def I1:OkSpec Tryz.prog:=⟨La,ae func109 Lf (by kernel_rfl) (by kernel_rfl),call109⟩
def mr (xa:(List Int)) (xb:Int):Int→Option (Int⊕(Unit⊕Bool)):=fun i1=>cond (decide (i1 < (xa.length:Int))) ((aa xa i1).bind fun x2=>(cond (decide (x2 < 0)) (some (true)) ((aa xa i1).bind fun x3=>some (decide (xb≤x3)))).bind fun t4=>cond (t4) (some (.inr ((.inr (false))))) (some (.inl (IntKind.wrap .i64 (i1 + 1))))) (some (.inr ((.inl ()))))
def dg (xa:(List Int)) (xb:Int):Option Bool :=
 (loop (mr xa xb) 0).bind fun o=>match o with | .inr r=>some r | .inl ()=>some (true)
def Ki:Hn Tryz.prog := .jx [] ⟨[],[]⟩ [] (.lp ⟨[kdI 5],[]⟩ (.tw 9 (.wt 17 (.gj 6 ⟨[kdB 24],[]⟩ [] (.two 17 .nil .nil) (.tw 24 .nil .nil))) .nil)) .nil
def JN:Spec:=⟨110,⟨[(0,.dat (.sl Yq2)),kdI 1],[]⟩,[⟨[kdB 0],[]⟩],fun x=>dg x.1 x.2⟩
def lM:OkSpec Tryz.prog:=⟨JN,ae func110 Ki (by kernel_rfl) (by kernel_rfl),call110⟩
def j7 (xa:Tq2) (xb:(List Int)):(Tq2×Int)→Option ((Tq2×Int)⊕(Tq2⊕(Tq2×Int))):=fun (l1,i2)=>cond (decide (i2 < (xa.length:Int))) ((aa xa i2).bind fun x3=>cond ((decide (x3.1 < 0))||(decide ((xb.length:Int)≤x3.1))) (some (.inr ((.inr (([],7)))))) ((aa xb x3.1).bind fun x4=>(aa xa i2).bind fun x5=>(app l1 (([(x4,x5.2)]:List (Int×Bool)))).bind fun z6=>some (.inl ((z6,IntKind.wrap .i64 (i2 + 1)))))) (some (.inr (.inl l1)))
def kr (xa:Tq2) (xb:(List Int)):Option ((Tq2×Int)) :=
 (loop (j7 xa xb) ((([]:List (Int×Bool)),0))).bind fun o=>match o with | .inr r=>some r | .inl l1=>some ((l1,0))
def Kb:Hn Tryz.prog := .jx [] ⟨[(6,.own 168 Yq3),(9,.any)],[bkC 2 26 [.nils]]⟩ [4,2] (.lp ⟨[(6,.own 168 Yq3),kdI 7],[bkC 2 26 [.nils]]⟩ (.tw 14 (.wt 25 (.gp 4 (.tw 30 .nil (.mix [([0,1,2,3,4,5,6,7,8,9,10,11],12)] [] [13,14] [] .nil)))) .nil)) .nil
def Mc:Spec:=⟨133,⟨[(0,.dat Yq7),(1,.dat (.sl Yq2))],[]⟩,[⟨[(0,.tup [.agg [.own 168 Yq3],.dat Yq2])],[]⟩],fun x=>kr x.1 x.2⟩
def Ab:OkSpec Tryz.prog:=⟨Mc,ae func133 Kb (by kernel_rfl) (by kernel_rfl),call133⟩
def mI (xa:bK) (xb:(List Int)):aT→Option (aT⊕(List Tq3)):=fun (l1,i2)=>cond (decide (i2 < (xa.2.1.length:Int))) ((aa xa.2.1 i2).bind fun x3=>(aa xb x3.1).bind fun x4=>(aa xa.2.1 i2).bind fun x5=>(aa xb x5.2).bind fun x6=>(app l1 (([(x4,x6,4,i2,false)]:List Tq3))).bind fun z7=>some (.inl ((z7,IntKind.wrap .i64 (i2 + 1))))) (some (.inr (l1)))
def kc (xa:bK) (xb:(List Int)) (xc:(List Tq2)):aT→Option (aT⊕((List Tq3)⊕aT)):=fun (l1,i2)=>cond (decide (i2 < (xa.2.2.1.length:Int))) ((aa xa.2.2.1 i2).bind fun x3=>(kr x3 xb).bind fun (l4,i5)=>(aa xc i2).bind fun x6=>(dW x6 l4 5 (IntKind.wrap .i64 (16 * i2))).bind fun (l7,i8)=>cond (!decide (i8=0)) (some (.inr ((.inr (([],i8)))))) ((app l1 l7).bind fun z9=>some (.inl ((z9,IntKind.wrap .i64 (i2 + 1)))))) (some (.inr (.inl l1)))
def kw (xa:bK) (xb:(List Int)) (xc:(List Tq2)) (xd:Tq2):Option (aT) :=
 (eR (xa.1,xa.2.1,xa.2.2.1,xa.2.2.2)).bind fun i1=>cond (!decide (i1=0)) (some (([],i1))) (cond ((!decide ((xb.length:Int)=xa.1))||(!decide ((xc.length:Int)=(xa.2.2.1.length:Int)))) (some (([],2))) ((loop (mI xa xb) ((([]:List Tq3),0))).bind fun l2=>(loop (kc xa xb xc) (l2,0)).bind fun o=>match o with | .inr r=>some r | .inl l3=>(kr xa.2.2.2 xb).bind fun (l4,i5)=>(dW l4 xd 6 0).bind fun (l6,i7)=>cond (!decide (i7=0)) (some (([],i7))) ((app l3 l6).bind fun z8=>some ((z8,0)))))
def Lx:Hn Tryz.prog := .cl oQ6 [] (.tw 25 .nil (.wt 32 (.gp 6 (.tw 39 .nil (.jn [] ⟨[(11,.own 189 Yq6),(40,.any)],[]⟩ [4] (.lp ⟨[(11,.own 189 Yq6),kdI 12],[]⟩ (.tw 45 (.mix [([0,1,2,3,4,5,6,7,8,9,10,11,12,13,14,15,16,17,18,19,20],21)] [] [22,23] [] .nil) .nil)) (.jx [] ⟨[(11,.own 189 Yq6)],[]⟩ [6] (.lp ⟨[(11,.own 189 Yq6),kdI 13],[]⟩ (.tw 75 (.cl Ab [] (.per 10 11 (.mix [([0,1,2,3,4,5,6],7)] [8,9,10,11,12] [] [] (.cl pH [] (.tw 100 .nil .nil))))) .nil)) (.cl Ab [] (.per 10 11 (.cl pH [] (.tw 119 .nil .nil))))))))))
def LL:Spec:=⟨111,⟨[(0,.dat fJ),(1,.dat (.sl Yq2)),(2,.dat (.sl Yq7)),(3,.dat Yq7)],[]⟩,[⟨[(0,.tup [.own 189 Yq6,.dat Yq2])],[]⟩],fun x=>kw x.1 x.2.1 x.2.2.1 x.2.2.2⟩
def Ji:OkSpec Tryz.prog:=⟨LL,ae func111 Lx (by kernel_rfl) (by kernel_rfl),call111⟩
def uB (xa:Tq6) (xb:jH):((List Tq2)×Int)→Option (((List Tq2)×Int)⊕(List Tq2)):=fun (l1,i2)=>cond (decide (i2 < (xa.2.2.2.2.1.length:Int))) ((aa xa.2.2.2.2.1 i2).bind fun x3=>(aa xb.2.2.1 x3).bind fun x4=>(app l1 (([x4]:List Tq2))).bind fun z5=>some (.inl ((z5,IntKind.wrap .i64 (i2 + 1))))) (some (.inr (l1)))
def bQ (xa:Tq6) (xb:jH):Option (aT) :=
 (dh (xa.1,xa.2.1,xa.2.2.1,xa.2.2.2.1,xa.2.2.2.2.1,xa.2.2.2.2.2)).bind fun i1=>cond (!decide (i1=0)) (some (([],i1))) ((dg xa.2.2.2.1 xb.1).bind fun t2=>(cond (!t2) (some (true)) ((dg xa.2.2.2.2.1 (xb.2.2.1.length:Int)).bind fun t3=>some (!t3))).bind fun t4=>(cond (t4) (some (true)) ((dg xa.2.2.2.2.2 xb.2.1).bind fun t5=>some (!t5))).bind fun t6=>cond (t6) (some (([],7))) ((cond (decide (xa.1=4)) ((dg ([xa.2.2.1]:List Int) (xb.2.2.1.length:Int)).bind fun t7=>(cond (!t7) (some (true)) ((dg ([xa.2.1]:List Int) (xb.2.2.2.2.length:Int)).bind fun t8=>some (!t8))).bind fun t9=>some (t9)) (some (false))).bind fun t10=>cond (t10) (some (([],7))) (cond ((decide (xa.1=3))&&(decide ((xb.2.2.1.length:Int)=0))) (some (([],14))) (cond (decide (xa.1=3)) ((aa xb.2.2.1 0).bind fun x11=>(dW x11 xb.2.2.2.1 7 0).bind fun (l12,i13)=>some ((l12,i13))) (cond (decide (xa.1=4)) ((loop (uB xa xb) ((([]:List Tq2),0))).bind fun l14=>(aa xb.2.2.2.2 xa.2.1).bind fun x15=>(aa xb.2.2.1 xa.2.2.1).bind fun x16=>(kw (x15.1,x15.2.1,x15.2.2.1,x15.2.2.2) xa.2.2.2.2.2 l14 x16).bind fun (l17,i18)=>some ((l17,i18))) (some (([],0))))))))
def Nn:Hn Tryz.prog := .cl I1 [] (.tw 12 .nil (.cl lM [] (.gj 7 ⟨[kdB 28],[]⟩ [] (.two 20 .nil (.cl lM [] .nil)) (.wt 29 (.gj 6 ⟨[kdB 36],[]⟩ [] (.two 29 .nil (.cl lM [] .nil)) (.tw 36 .nil (.wt 40 (.gj 18 ⟨[kdB 59],[]⟩ [] (.two 40 (.cl lM [4] (.wt 49 (.gj 8 ⟨[kdB 58],[]⟩ [] (.two 49 .nil (.cl lM [6] .nil)) .nil))) .nil) (.tw 59 .nil (.wt 63 (.gp 4 (.tw 68 .nil (.tw 71 (.mix [([0,1,2,3,4,5],6)] [7,8,9,10] [] [] (.cl pH [] .nil)) (.tw 83 (.jn [] ⟨[(7,.own 26 Yq7),(84,.any)],[]⟩ [4] (.lp ⟨[(7,.own 26 Yq7),kdI 8],[]⟩ (.tw 89 (.mix [([0,1,2,3,4,5,6,7,8,9],10)] [] [11,12] [] .nil) .nil)) (.mix [([0,1,2,3,4,5,6,7,8,9,10,11,12,13,14],15)] [16,17,18,19] [] [6] (.per 6 7 (.cl Ji [] .nil)))) .nil))))))))))))))
def M2:Spec:=⟨90,⟨[(0,.dat db),(1,.dat pC)],[]⟩,[⟨[(0,.tup [.own 189 Yq6,.dat Yq2])],[]⟩],fun x=>bQ x.1 x.2⟩
def Jh:OkSpec Tryz.prog:=⟨M2,ae func90 Nn (by kernel_rfl) (by kernel_rfl),call90⟩
def ij (xa:Tq1):bw→Option (bw⊕(Unit⊕Tq8)):=fun (i1,i2)=>cond (decide (i2 < (xa.2.2.2.2.2.2.length:Int))) ((aa xa.2.2.2.2.2.2 i2).bind fun x3=>cond (decide (65536 < (IntKind.wrap .i64 (i1 + (x3.1.length:Int))))) (some (.inr ((.inr ((6,5,i2,0)))))) (some (.inl ((IntKind.wrap .i64 (i1 + (x3.1.length:Int)),IntKind.wrap .i64 (i2 + 1)))))) (some (.inr ((.inl ()))))
def fW (xa:Tq1) (i1:Int) (x2:((List Tq3)×Tq6)):Int→Option (Int⊕(Unit⊕(Int⊕(Unit⊕Tq8)))):=fun i3=>cond (decide (i3 < (x2.1.length:Int))) ((aa x2.1 i3).bind fun x4=>(bM (x4.1,x4.2.1,x4.2.2.1,x4.2.2.2.1,x4.2.2.2.2) xa.2.2.2.1 xa.2.1).bind fun (l5,i6)=>cond (!decide (i6=0)) (some (.inr ((.inr (.inr ((.inr ((i6,6,i1,i3))))))))) (some (.inl (IntKind.wrap .i64 (i3 + 1))))) (some (.inr ((.inl ()))))
def fU (xa:Tq1):Int→Option (Int⊕(Unit⊕Tq8)):=fun i1=>cond (decide (i1 < (xa.2.2.2.2.2.2.length:Int))) ((aa xa.2.2.2.2.2.2 i1).bind fun x2=>(loop (fW xa i1 x2) 0).bind fun o=>match o with | .inr r=>some r | .inl ()=>(aa xa.2.2.2.2.2.2 i1).bind fun x3=>(bQ (x3.2.1,x3.2.2.1,x3.2.2.2.1,x3.2.2.2.2.1,x3.2.2.2.2.2.1,x3.2.2.2.2.2.2) (((xa.2.2.2.2.2.2.length:Int),xa.2.1,xa.2.2.2.1,xa.2.2.2.2.1,xa.2.2.2.2.2.1))).bind fun (l4,i5)=>cond (!decide (i5=0)) (some (.inr ((.inr ((i5,7,i1,0)))))) (some (.inl (IntKind.wrap .i64 (i1 + 1))))) (some (.inr ((.inl ()))))
def dU (xa:Tq1):Option Tq8 :=
 cond (decide ((xa.2.2.2.2.2.2.length:Int)=0)) (some ((14,5,0,0))) (cond (decide (65536 < (xa.2.2.2.2.2.2.length:Int))) (some ((6,5,0,0))) ((loop (ij xa) (0,0)).bind fun o=>match o with | .inr r=>some r | .inl ()=>(loop (fU xa) 0).bind fun o=>match o with | .inr r=>some r | .inl ()=>some ((0,0,0,0))))
def KF:Hn Tryz.prog := .tw 16 .nil (.tw 21 .nil (.jx [] ⟨[],[bkC 2 84 [.lit (.int .i64 0),.lit (.int .i64 0),.lit (.int .i64 0),.lit (.int .i64 0)]]⟩ [2] (.lp ⟨[kdI 3,kdI 4],[bkC 2 84 [.lit (.int .i64 0),.lit (.int .i64 0),.lit (.int .i64 0),.lit (.int .i64 0)]]⟩ (.tw 27 (.tw 40 .nil .nil) .nil)) (.jx [] ⟨[],[bkC 2 84 [.lit (.int .i64 0),.lit (.int .i64 0),.lit (.int .i64 0),.lit (.int .i64 0)]]⟩ [2] (.lp ⟨[kdI 6],[bkC 2 84 [.lit (.int .i64 0),.lit (.int .i64 0),.lit (.int .i64 0),.lit (.int .i64 0)]]⟩ (.tw 59 (.pl (.pl (.jx [] ⟨[],[bkC 2 84 [.lit (.int .i64 0),.lit (.int .i64 0),.lit (.int .i64 0),.lit (.int .i64 0)]]⟩ [2] (.lp ⟨[kdI 8],[bkC 2 84 [.lit (.int .i64 0),.lit (.int .i64 0),.lit (.int .i64 0),.lit (.int .i64 0)]]⟩ (.tw 71 (.mix [([0,1,2,3,4,5,6,7],8)] [9,10,11,12,13] [] [] (.cl I0 [] (.tw 87 .nil .nil))) .nil)) (.mix [([0,1,2,3,4,5,6],7)] [8,9,10,11,12] [] [] (.cl Jh [] (.tw 104 .nil .nil)))))) .nil)) .nil)))
def KI:Spec:=⟨63,⟨[(0,.dat Yq1)],[]⟩,[⟨[(0,.agg [.dat Yq2,.dat Yq2,.dat Yq2,.dat Yq2])],[]⟩],fun x=>dU x⟩
def Ja:OkSpec Tryz.prog:=⟨KI,ae func63 KF (by kernel_rfl) (by kernel_rfl),call63⟩

def dV (xa:Tq1):Option Tq8 :=
 (gB xa).bind fun (i42,i43,i44,i45)=>cond (!decide (i42=0)) (some ((i42,i43,i44,i45))) ((gz xa).bind fun (i53,i54,i55,i56)=>cond (!decide (i53=0)) (some ((i53,i54,i55,i56))) ((dU xa).bind fun (i63,i65,i66,i67)=>some ((i63,i65,i66,i67))))
def Mu:Hn Tryz.prog := .cl oQ3 [] (.tw 8 .nil (.cl oQ7 [] (.tw 14 .nil (.cl Ja [] .nil))))
def JV:Spec:=⟨37,⟨[(0,.dat Yq1)],[]⟩,[⟨[(0,.agg [.dat Yq2,.dat Yq2,.dat Yq2,.dat Yq2])],[]⟩],fun x=>dV x⟩
def Lu:OkSpec Tryz.prog:=⟨JV,ae func37 Mu (by kernel_rfl) (by kernel_rfl),call37⟩

def eW (xa:Tq1):Option Bool :=
 (dV xa).bind fun (i15,i17,i18,i19)=>some (decide (i15=0))
def L7:Hn Tryz.prog := .cl Lu [] .nil
def Kc:Spec:=⟨19,⟨[(0,.dat Yq1)],[]⟩,[⟨[kdB 0],[]⟩],fun x=>eW x⟩
def zJ:OkSpec Tryz.prog:=⟨Kc,ae func19 L7 (by kernel_rfl) (by kernel_rfl),call19⟩

def aR (xb:Int) (xc:Int):Option Unit :=
 some (())
def K5:Hn Tryz.prog := .nil
def Ms:Spec:=⟨24,⟨[(0,.nilp),kdI 1,kdI 2],[]⟩,[⟨[],[]⟩],fun x=>aR x.1 x.2⟩
def dK:OkSpec Tryz.prog:=⟨Ms,ae func24 K5 (by kernel_rfl) (by kernel_rfl),call24⟩

def gm (xa:Tq1):Option Tq8 :=
 cond ((decide (xa.1 < 1))||(decide (xa.2.1 < xa.1))) (some ((7,0,0,0))) (cond (decide (65536 < xa.2.1)) (some ((6,0,0,0))) (some ((0,0,0,0))))
def Jr:Hn Tryz.prog := .gp 5 (.tw 7 .nil (.tw 19 .nil .nil))
def LW:Spec:=⟨112,⟨[(0,.dat Yq1),(1,.nilp)],[]⟩,[⟨[(0,.agg [.dat Yq2,.dat Yq2,.dat Yq2,.dat Yq2])],[]⟩],fun x=>gm x⟩
def KL:OkSpec Tryz.prog:=⟨LW,ae func112 Jr (by kernel_rfl) (by kernel_rfl),call112⟩

def jO (xa:Int) (qa0:Int) (qa1:Int) (qa2:Tq5) (qa3:(List Tq2)) (qa4:Tq2) (qa5:(List bK)) (qa6:(List ((List Tq3)×Tq6))):Option Bool :=
 some ((decide (0≤xa))&&(decide (xa < qa0)))
def Kj:Hn Tryz.prog := .gp 4 .nil
def I7:Spec:=⟨134,⟨[kdI 0,(1,.ptr 0 0)],[bkN 30 [.is 1 (.dat Yq2),.is 2 (.dat Yq2),.is 3 (.dat Yq5),.is 4 (.dat (.sl Yq7)),.is 5 (.dat (.sl Yq3)),.is 6 (.dat (.sl fJ)),.is 7 (.dat (.sl (.cons (.sl Yq6) (.one db))))],bkM,bkM,bkM,bkM,bkM,bkM,bkM]⟩,[⟨[kdB 0],[bkC 0 30 [.is 1 (.any),.is 2 (.any),.is 3 (.any),.is 4 (.any),.is 5 (.any),.is 6 (.any),.is 7 (.any)],bkU 1,bkU 2,bkU 3,bkU 4,bkU 5,bkU 6,bkU 7]⟩],fun x=>jO x.1 x.2.1 x.2.2.1 x.2.2.2.1 x.2.2.2.2.1 x.2.2.2.2.2.1 x.2.2.2.2.2.2.1 x.2.2.2.2.2.2.2⟩
def zQ:OkSpec Tryz.prog:=⟨I7,ae func134 Kj (by kernel_rfl) (by kernel_rfl),call134⟩
def fP (xa:Tq1):Int→Option (Int⊕(Unit⊕Tq8)):=fun i1=>cond (decide (i1 < (xa.2.2.1.length:Int))) ((aa xa.2.2.1 i1).bind fun x2=>(aR 1 1).bind fun _=>(jO x2.1 xa.1 xa.2.1 xa.2.2.1 xa.2.2.2.1 xa.2.2.2.2.1 xa.2.2.2.2.2.1 xa.2.2.2.2.2.2).bind fun t3=>(cond (!t3) (some (true)) ((jO x2.2 xa.1 xa.2.1 xa.2.2.1 xa.2.2.2.1 xa.2.2.2.2.1 xa.2.2.2.2.2.1 xa.2.2.2.2.2.2).bind fun t4=>some (!t4))).bind fun t5=>cond (t5) (some (.inr ((.inr ((7,1,i1,0)))))) (some (.inl (IntKind.wrap .i64 (i1 + 1))))) (some (.inr ((.inl ()))))
def fX (xa:Tq1):Option Tq8 :=
 cond (decide (65536 < (xa.2.2.1.length:Int))) (some ((6,1,0,0))) ((loop (fP xa) 0).bind fun o=>match o with | .inr r=>some r | .inl ()=>some ((0,0,0,0)))
def LK:Hn Tryz.prog := .tw 11 .nil (.jx [] ⟨[],[bkC 2 161 [.lit (.int .i64 0),.lit (.int .i64 0),.lit (.int .i64 0),.lit (.int .i64 0)]]⟩ [2,0] (.mc 0 0 1 (.mc 0 1 1 (.mc 0 2 1 (.mc 0 3 1 (.mc 0 4 1 (.mc 0 5 1 (.mc 0 6 1 (.lp ⟨[kdI 17],[bkC 2 161 [.lit (.int .i64 0),.lit (.int .i64 0),.lit (.int .i64 0),.lit (.int .i64 0)],bkC 0 30 [.is 2 (.any),.is 3 (.any),.is 4 (.any),.is 5 (.any),.is 6 (.any),.is 7 (.any),.is 8 (.any)],bkU 4,bkU 5,bkU 6,bkU 7,bkU 8,bkU 9,bkU 10]⟩ (.tw 18 (.cl dK [] (.cl zQ [] (.gj 5 ⟨[kdB 35],[bkC 0 30 [.is 1 (.any),.is 2 (.any),.is 3 (.any),.is 4 (.any),.is 5 (.any),.is 6 (.any),.is 7 (.any)],bkU 4,bkU 5,bkU 6,bkU 7,bkU 8,bkU 9,bkU 10]⟩ [0] (.two 29 .nil (.cl zQ [] .nil)) (.tw 35 .nil .nil)))) .nil))))))))) .nil)
def JF:Spec:=⟨113,⟨[(0,.dat Yq1),(1,.nilp)],[]⟩,[⟨[(0,.agg [.dat Yq2,.dat Yq2,.dat Yq2,.dat Yq2])],[]⟩],fun x=>fX x⟩
def I2:OkSpec Tryz.prog:=⟨JF,ae func113 LK (by kernel_rfl) (by kernel_rfl),call113⟩

def p8 (xa:(Int×Bool)) (qa0:Int):Option Bool :=
 some ((decide (xa.1 < 0))||(decide (qa0≤xa.1)))
def JX:Hn Tryz.prog := .gp 4 .nil
def ME:Spec:=⟨154,⟨[(0,.dat Yq3),(1,.ptr 0 0)],[bkN 3 [.is 1 (.dat Yq2)],bkM]⟩,[⟨[kdB 0],[bkC 0 3 [.is 1 (.any)],bkU 1]⟩],fun x=>p8 x.1 x.2⟩
def Mx:OkSpec Tryz.prog:=⟨ME,ae func154 JX (by kernel_rfl) (by kernel_rfl),call154⟩
def lT (xa:Tq2) (qa0:Int):Int→Option (Int⊕(Unit⊕Int)):=fun i1=>cond (decide (i1 < (xa.length:Int))) ((aa xa i1).bind fun x2=>(p8 (x2.1,x2.2) qa0).bind fun t3=>cond (t3) (some (.inr ((.inr (i1))))) (some (.inl (IntKind.wrap .i64 (i1 + 1))))) (some (.inr ((.inl ()))))
def pS (xa:Tq2) (qa0:Int):Option Int :=
 (loop (lT xa qa0) 0).bind fun o=>match o with | .inr r=>some r | .inl ()=>some ((-1))
def I3:Hn Tryz.prog := .jx [] ⟨[],[bkC 0 3 [.is 1 (.any)],bkU 1]⟩ [0] (.lp ⟨[kdI 8],[bkC 0 3 [.is 1 (.any)],bkU 1]⟩ (.tw 9 (.cl Mx [] (.tw 16 .nil .nil)) .nil)) .nil
def J0:Spec:=⟨163,⟨[(0,.dat (.sl Yq3)),(1,.fn 154 [.ptr 0 0])],[bkN 3 [.is 1 (.dat Yq2)],bkM]⟩,[⟨[kdI 0],[bkC 0 3 [.is 1 (.any)],bkU 1]⟩],fun x=>pS x.1 x.2⟩
def Mj:OkSpec Tryz.prog:=⟨J0,ae func163 I3 (by kernel_rfl) (by kernel_rfl),call163⟩

def pR (xa:Tq2) (qa0:Int):Option Bool :=
 (pS xa qa0).bind fun i10=>some (decide (0≤i10))
def JK:Hn Tryz.prog := .cl Mj [] .nil
def Nj:Spec:=⟨153,⟨[(0,.dat (.sl Yq3)),(1,.fn 154 [.ptr 0 0])],[bkN 3 [.is 1 (.dat Yq2)],bkM]⟩,[⟨[kdB 0],[bkC 0 3 [.is 1 (.any)],bkU 1]⟩],fun x=>pR x.1 x.2⟩
def MR:OkSpec Tryz.prog:=⟨Nj,ae func153 JK (by kernel_rfl) (by kernel_rfl),call153⟩

def kv (xa:Tq2) (xb:Int):Option Bool :=
 (pR xa xb).bind fun t14=>some (!t14)
def Mk:Hn Tryz.prog := .mc 2 0 3 (.cl MR [] .nil)
def LX:Spec:=⟨146,⟨[(0,.dat Yq7),kdI 1],[]⟩,[⟨[kdB 0],[]⟩],fun x=>kv x.1 x.2⟩
def Ae:OkSpec Tryz.prog:=⟨LX,ae func146 Mk (by kernel_rfl) (by kernel_rfl),call146⟩

def dj (xa:Tq2) (xb:Int):Option Int :=
 cond (decide (16 < (xa.length:Int))) (some (6)) ((kv xa xb).bind fun t15=>cond (!t15) (some (7)) (some (0)))
def JP:Hn Tryz.prog := .tw 8 .nil (.cl Ae [] (.tw 12 .nil .nil))
def JU:Spec:=⟨135,⟨[(0,.dat Yq7),kdI 1],[]⟩,[⟨[kdI 0],[]⟩],fun x=>dj x.1 x.2⟩
def py:OkSpec Tryz.prog:=⟨JU,ae func135 JP (by kernel_rfl) (by kernel_rfl),call135⟩
def fO (xa:Tq1):Int→Option (Int⊕(Unit⊕Tq8)):=fun i1=>cond (decide (i1 < (xa.2.2.2.1.length:Int))) ((aa xa.2.2.2.1 i1).bind fun x2=>(aR 1 1).bind fun _=>(dj x2 xa.2.1).bind fun i3=>cond (!decide (i3=0)) (some (.inr ((.inr ((i3,2,i1,0)))))) (some (.inl (IntKind.wrap .i64 (i1 + 1))))) (some (.inr ((.inl ()))))
def fY (xa:Tq1):Option Tq8 :=
 cond (decide ((xa.2.2.2.1.length:Int)=0)) (some ((14,2,0,0))) (cond (decide (65536 < (xa.2.2.2.1.length:Int))) (some ((6,2,0,0))) ((loop (fO xa) 0).bind fun o=>match o with | .inr r=>some r | .inl ()=>some ((0,0,0,0))))
def J8:Hn Tryz.prog := .tw 11 .nil (.tw 16 .nil (.jx [] ⟨[],[bkC 2 161 [.lit (.int .i64 0),.lit (.int .i64 0),.lit (.int .i64 0),.lit (.int .i64 0)]]⟩ [2] (.lp ⟨[kdI 21],[bkC 2 161 [.lit (.int .i64 0),.lit (.int .i64 0),.lit (.int .i64 0),.lit (.int .i64 0)]]⟩ (.tw 22 (.cl dK [] (.cl py [] (.tw 33 .nil .nil))) .nil)) .nil))
def Lo:Spec:=⟨114,⟨[(0,.dat Yq1),(1,.nilp)],[]⟩,[⟨[(0,.agg [.dat Yq2,.dat Yq2,.dat Yq2,.dat Yq2])],[]⟩],fun x=>fY x⟩
def Jx:OkSpec Tryz.prog:=⟨Lo,ae func114 J8 (by kernel_rfl) (by kernel_rfl),call114⟩

def qr (xa:(Int×Bool)) (xb:(Int×Bool)):Option Bool :=
 some (xa.2 == xb.2)
def KZ:Hn Tryz.prog := .nil
def LR:Spec:=⟨148,⟨[(0,.dat Yq3),(1,.dat Yq3)],[]⟩,[⟨[kdB 0],[]⟩],fun x=>qr x.1 x.2⟩
def Kt:OkSpec Tryz.prog:=⟨LR,ae func148 KZ (by kernel_rfl) (by kernel_rfl),call148⟩
def pN (xa:Tq2) (xb:Tq2):Int→Option (Int⊕(Unit⊕Bool)):=fun i1=>cond (decide (i1 < (xa.length:Int))) ((aa xa i1).bind fun x2=>(aa xb i1).bind fun x3=>(qr (x2.1,x2.2) (x3.1,x3.2)).bind fun t4=>cond (!t4) (some (.inr ((.inr (false))))) (some (.inl (IntKind.wrap .i64 (i1 + 1))))) (some (.inr ((.inl ()))))
def lR (xa:Tq2) (xb:Tq2):Option Bool :=
 cond (!decide ((xa.length:Int)=(xb.length:Int))) (some (false)) ((loop (pN xa xb) 0).bind fun o=>match o with | .inr r=>some r | .inl ()=>some (true))
def I8:Hn Tryz.prog := .tw 14 .nil (.jx [] ⟨[],[]⟩ [] (.lp ⟨[kdI 17],[]⟩ (.tw 18 (.cl Kt [] (.tw 30 .nil .nil)) .nil)) .nil)
def L0:Spec:=⟨147,⟨[(0,.dat (.sl Yq3)),(1,.dat (.sl Yq3)),(2,.fn 148 [])],[]⟩,[⟨[kdB 0],[]⟩],fun x=>lR x.1 x.2⟩
def MO:OkSpec Tryz.prog:=⟨L0,ae func147 I8 (by kernel_rfl) (by kernel_rfl),call147⟩

def dk (xa:Tq2) (xb:Tq2):Option Bool :=
 (lR xa xb).bind fun t14=>some (t14)
def Ml:Hn Tryz.prog := .cl MO [] .nil
def KW:Spec:=⟨136,⟨[(0,.dat Yq7),(1,.dat Yq7)],[]⟩,[⟨[kdB 0],[]⟩],fun x=>dk x.1 x.2⟩
def jB:OkSpec Tryz.prog:=⟨KW,ae func136 Ml (by kernel_rfl) (by kernel_rfl),call136⟩

def dT (xa:Tq1):Option Tq8 :=
 (dj xa.2.2.2.2.1 xa.1).bind fun i81=>cond (decide (i81=0)) ((aa xa.2.2.2.1 0).bind fun x1=>(dk xa.2.2.2.2.1 x1).bind fun t2=>cond (!t2) (some ((8,3,0,0))) (some ((i81,3,0,0)))) (some ((i81,3,0,0)))
def Kl:Hn Tryz.prog := .cl py [] (.mix [] [0,1,2,3,4,5,6,7,8,9] [10,11,12] [] (.two 15 (.cl jB [] (.tw 24 .nil .nil)) .nil))
def MW:Spec:=⟨115,⟨[(0,.dat Yq1),(1,.nilp)],[]⟩,[⟨[(0,.agg [.dat Yq2,.dat Yq2,.dat Yq2,.dat Yq2])],[]⟩],fun x=>dT x⟩
def M3:OkSpec Tryz.prog:=⟨MW,ae func115 Kl (by kernel_rfl) (by kernel_rfl),call115⟩

def jP (xa:Int) (qa0:Int) (qa1:Tq5) (qa2:(List Tq2)) (qa3:Tq2):Option Bool :=
 some ((decide (0≤xa))&&(decide (xa < qa0)))
def IZ:Hn Tryz.prog := .gp 4 .nil
def K6:Spec:=⟨149,⟨[kdI 0,(1,.ptr 0 0)],[bkN 61 [.is 1 (.dat Yq2),.is 2 (.dat Yq5),.is 3 (.dat (.sl Yq7)),.is 4 (.dat (.sl Yq3))],bkM,bkM,bkM,bkM]⟩,[⟨[kdB 0],[bkC 0 61 [.is 1 (.any),.is 2 (.any),.is 3 (.any),.is 4 (.any)],bkU 1,bkU 2,bkU 3,bkU 4]⟩],fun x=>jP x.1 x.2.1 x.2.2.1 x.2.2.2.1 x.2.2.2.2⟩
def zP:OkSpec Tryz.prog:=⟨K6,ae func149 IZ (by kernel_rfl) (by kernel_rfl),call149⟩
def gq (xa:bK):Int→Option (Int⊕(Unit⊕Int)):=fun i1=>cond (decide (i1 < (xa.2.1.length:Int))) ((aa xa.2.1 i1).bind fun x2=>(jP x2.1 xa.1 xa.2.1 xa.2.2.1 xa.2.2.2).bind fun t3=>(cond (!t3) (some (true)) ((jP x2.2 xa.1 xa.2.1 xa.2.2.1 xa.2.2.2).bind fun t4=>some (!t4))).bind fun t5=>cond (t5) (some (.inr ((.inr (7))))) (some (.inl (IntKind.wrap .i64 (i1 + 1))))) (some (.inr ((.inl ()))))
def gt (xa:bK):Int→Option (Int⊕(Unit⊕Int)):=fun i1=>cond (decide (i1 < (xa.2.2.1.length:Int))) ((aa xa.2.2.1 i1).bind fun x2=>(dj x2 xa.1).bind fun i3=>cond (!decide (i3=0)) (some (.inr ((.inr (i3))))) (some (.inl (IntKind.wrap .i64 (i1 + 1))))) (some (.inr ((.inl ()))))
def cP (xa:bK):Option Int :=
 cond (decide (xa.1 < 0)) (some (7)) (cond (((decide (16 < xa.1))||(decide (16 < (xa.2.1.length:Int))))||(decide (16 < (xa.2.2.1.length:Int)))) (some (6)) ((loop (gq xa) 0).bind fun o=>match o with | .inr r=>some r | .inl ()=>(loop (gt xa) 0).bind fun o=>match o with | .inr r=>some r | .inl ()=>(dj xa.2.2.2 xa.1).bind fun i1=>some (i1)))
def Jb:Hn Tryz.prog := .tw 11 .nil (.wt 15 (.gp 4 (.wt 21 (.gp 4 (.tw 26 .nil (.jx [(0,0),(0,1),(0,2),(0,3)] ⟨[],[bkC 0 61 [.is 1 (.any),.is 2 (.any),.is 3 (.any),.is 4 (.any)],bkU 2,bkU 3,bkU 4,bkU 5]⟩ [0] (.lp ⟨[kdI 31],[bkC 0 61 [.is 1 (.any),.is 2 (.any),.is 3 (.any),.is 4 (.any)],bkU 2,bkU 3,bkU 4,bkU 5]⟩ (.tw 32 (.cl zP [] (.gj 5 ⟨[kdB 46],[bkC 0 61 [.is 1 (.any),.is 2 (.any),.is 3 (.any),.is 4 (.any)],bkU 2,bkU 3,bkU 4,bkU 5]⟩ [0] (.two 40 .nil (.cl zP [] .nil)) (.tw 46 .nil .nil))) .nil)) (.jx [] ⟨[],[]⟩ [] (.lp ⟨[kdI 51],[]⟩ (.tw 52 (.cl py [] (.tw 60 .nil .nil)) .nil)) (.cl py [] .nil))))))))
def MM:Spec:=⟨137,⟨[(0,.dat fJ)],[]⟩,[⟨[kdI 0],[]⟩],fun x=>cP x⟩
def zW:OkSpec Tryz.prog:=⟨MM,ae func137 Jb (by kernel_rfl) (by kernel_rfl),call137⟩
def fS (xa:Tq1):Int→Option (Int⊕(Unit⊕Tq8)):=fun i1=>cond (decide (i1 < (xa.2.2.2.2.2.1.length:Int))) ((aa xa.2.2.2.2.2.1 i1).bind fun x2=>(aR 1 1).bind fun _=>(cP (x2.1,x2.2.1,x2.2.2.1,x2.2.2.2)).bind fun i3=>cond (!decide (i3=0)) (some (.inr ((.inr ((i3,4,i1,0)))))) (some (.inl (IntKind.wrap .i64 (i1 + 1))))) (some (.inr ((.inl ()))))
def gh (xa:Tq1):Option Tq8 :=
 cond (decide (65536 < (xa.2.2.2.2.2.1.length:Int))) (some ((6,4,0,0))) ((loop (fS xa) 0).bind fun o=>match o with | .inr r=>some r | .inl ()=>some ((0,0,0,0)))
def KJ:Hn Tryz.prog := .tw 11 .nil (.jx [] ⟨[],[bkC 2 161 [.lit (.int .i64 0),.lit (.int .i64 0),.lit (.int .i64 0),.lit (.int .i64 0)]]⟩ [2,0] (.lp ⟨[kdI 16],[bkC 2 161 [.lit (.int .i64 0),.lit (.int .i64 0),.lit (.int .i64 0),.lit (.int .i64 0)]]⟩ (.tw 17 (.cl dK [] (.cl zW [] (.tw 26 .nil .nil))) .nil)) .nil)
def J6:Spec:=⟨116,⟨[(0,.dat Yq1),(1,.nilp)],[]⟩,[⟨[(0,.agg [.dat Yq2,.dat Yq2,.dat Yq2,.dat Yq2])],[]⟩],fun x=>gh x⟩
def KO:OkSpec Tryz.prog:=⟨J6,ae func116 KJ (by kernel_rfl) (by kernel_rfl),call116⟩
def ie (xa:Tq1):bw→Option (bw⊕(Unit⊕Tq8)):=fun (i1,i2)=>cond (decide (i2 < (xa.2.2.2.2.2.2.length:Int))) ((aa xa.2.2.2.2.2.2 i2).bind fun x3=>(aR 1 1).bind fun _=>cond (decide (65536 < (IntKind.wrap .i64 (i1 + (x3.1.length:Int))))) (some (.inr ((.inr ((6,5,i2,0)))))) (some (.inl ((IntKind.wrap .i64 (i1 + (x3.1.length:Int)),IntKind.wrap .i64 (i2 + 1)))))) (some (.inr ((.inl ()))))
def fZ (xa:Tq1):Option Tq8 :=
 cond (decide ((xa.2.2.2.2.2.2.length:Int)=0)) (some ((14,5,0,0))) (cond (decide (65536 < (xa.2.2.2.2.2.2.length:Int))) (some ((6,5,0,0))) ((loop (ie xa) (0,0)).bind fun o=>match o with | .inr r=>some r | .inl ()=>some ((0,0,0,0))))
def L4:Hn Tryz.prog := .tw 11 .nil (.tw 16 .nil (.jx [] ⟨[],[bkC 2 161 [.lit (.int .i64 0),.lit (.int .i64 0),.lit (.int .i64 0),.lit (.int .i64 0)]]⟩ [2,0] (.lp ⟨[kdI 5,kdI 21],[bkC 2 161 [.lit (.int .i64 0),.lit (.int .i64 0),.lit (.int .i64 0),.lit (.int .i64 0)]]⟩ (.tw 22 (.cl dK [] (.tw 34 .nil .nil)) .nil)) .nil))
def KK:Spec:=⟨117,⟨[(0,.dat Yq1),(1,.nilp)],[]⟩,[⟨[(0,.agg [.dat Yq2,.dat Yq2,.dat Yq2,.dat Yq2])],[]⟩],fun x=>fZ x⟩
def Nm:OkSpec Tryz.prog:=⟨KK,ae func117 L4 (by kernel_rfl) (by kernel_rfl),call117⟩

def mN (xa:Int):Option (Bool×Bool×Bool×Bool) :=
 cond (decide (xa=0)) (some ((false,false,false,true))) (cond (decide (xa=1)) (some ((true,true,false,true))) ((cond (decide (xa=2)) (some (decide (xa=2))) (some (decide (xa=3))):Option Bool).bind fun t18=>cond (t18) (some ((true,true,true,true))) (cond (decide (xa=4)) (some ((false,true,false,true))) (cond (decide (xa=5)) (some ((true,false,false,true))) (some ((false,false,false,false)))))))
def M5:Hn Tryz.prog := .tw 5 .nil (.tw 8 .nil (.sq [] ⟨[kdB 11],[]⟩ [] (.tw 11 .nil .nil) (.tw 11 .nil (.tw 15 .nil (.tw 18 .nil .nil)))))
def Kg:Spec:=⟨164,⟨[kdI 0],[]⟩,[⟨[(0,.tup [.agg [.dat .bool,.dat .bool,.dat .bool],.dat .bool])],[]⟩],fun x=>mN x⟩
def M8:OkSpec Tryz.prog:=⟨Kg,ae func164 M5 (by kernel_rfl) (by kernel_rfl),call164⟩

def nh (xa:Tq3) (xb:(Bool×Bool×Bool)):Option Tq3 :=
 (cond (xb.1) (some (xa.2.1)) (some (0)):Option Int).bind fun i22=>(cond (xb.2.1) (some (xa.2.2.1)) (some (0)):Option Int).bind fun i25=>cond (xb.2.2) (some ((xa.1,i22,i25,xa.2.2.2.1,xa.2.2.2.2))) (some ((xa.1,i22,i25,0,false)))
def Ng:Hn Tryz.prog := .pl (.pl (.sq [(6,0)] ⟨[],[bkC 6 57 [.is 1 (.any),.dat Yq2,.lit (.int .i64 0),.lit (.int .i64 0),.lit (.bool false)],bkU 9]⟩ [6] (.tw 10 .nil .nil) (.sq [(6,1)] ⟨[],[bkC 6 57 [.is 1 (.any),.is 2 (.any),.dat Yq2,.lit (.int .i64 0),.lit (.bool false)],bkU 9,bkU 11]⟩ [6] (.tw 15 .nil .nil) (.tw 20 (.mix [([0,1,2,3,4],5)] [6] [7] [6] .nil) .nil))))
def Ke:Spec:=⟨165,⟨[(0,.dat Yq6),(1,.dat (.cons .bool (.cons .bool (.one .bool))))],[]⟩,[⟨[(0,.agg [.dat Yq2,.dat Yq2,.dat Yq2,.dat Yq2,.dat .bool])],[]⟩],fun x=>nh x.1 x.2⟩
def Jq:OkSpec Tryz.prog:=⟨Ke,ae func165 Ng (by kernel_rfl) (by kernel_rfl),call165⟩

def m9 (xa:Tq3):Option (Bool×Bool×Bool×Int) :=
 (mN xa.1).bind fun (t67,t68,t69,t70)=>cond (!t70) (some ((false,false,false,3))) ((nh (xa.1,xa.2.1,xa.2.2.1,xa.2.2.2.1,xa.2.2.2.2) (t67,t68,t69)).bind fun (i1,i2,i3,i4,t5)=>cond (!((decide (xa.1=i1))&&((decide (xa.2.1=i2))&&((decide (xa.2.2.1=i3))&&((decide (xa.2.2.2.1=i4))&&(xa.2.2.2.2 == t5)))))) (some ((false,false,false,3))) (some ((t67,t68,t69,0))))
def LM:Hn Tryz.prog := .cl M8 [] (.mix [([0,1,2,3,4,5],6)] [7,8] [] [] (.two 14 .nil (.cl Jq [] (.tw 20 .nil .nil))))
def MA:Spec:=⟨155,⟨[(0,.dat Yq6)],[]⟩,[⟨[(0,.tup [.agg [.dat .bool,.dat .bool,.dat .bool],.dat Yq2])],[]⟩],fun x=>m9 x⟩
def MH:OkSpec Tryz.prog:=⟨MA,ae func155 LM (by kernel_rfl) (by kernel_rfl),call155⟩

def mi (xa:Int) (qa0:(List Tq2)):Option Bool :=
 some ((decide (0≤xa))&&(decide (xa < (qa0.length:Int))))
def M0:Hn Tryz.prog := .gp 4 .nil
def Js:Spec:=⟨156,⟨[kdI 0,(1,.ptr 0 0)],[bkN 23 [.is 1 (.dat (.sl Yq7))],bkM]⟩,[⟨[kdB 0],[bkC 0 23 [.is 1 (.any)],bkU 1]⟩],fun x=>mi x.1 x.2⟩
def zD:OkSpec Tryz.prog:=⟨Js,ae func156 M0 (by kernel_rfl) (by kernel_rfl),call156⟩
def Aq (xa:Tq2) (xb:Tq2) (xc:Int) (xd:Int):aT→Option (aT⊕(List Tq3)):=fun (l1,i2)=>cond (decide (i2 < (xa.length:Int))) ((aa xa i2).bind fun x3=>(aa xb i2).bind fun x4=>(app l1 (([(x3.1,x4.1,xc,IntKind.wrap .i64 (xd + i2),false)]:List Tq3))).bind fun z5=>(aa xb i2).bind fun x6=>cond (x6.2) ((aa xb i2).bind fun x7=>(aa xa i2).bind fun x8=>(app z5 (([(x7.1,x8.1,xc,IntKind.wrap .i64 (xd + i2),true)]:List Tq3))).bind fun z9=>some (.inl ((z9,IntKind.wrap .i64 (i2 + 1))))) (some (.inl ((z5,IntKind.wrap .i64 (i2 + 1)))))) (some (.inr (l1)))
def j6 (xa:Tq2) (xb:Tq2) (xc:Int) (xd:Int):Option ((List Tq3)) :=
 (loop (Aq xa xb xc xd) ([],0)).bind fun l1=>some (l1)
def Lr:Hn Tryz.prog := .jn [] ⟨[(9,.own 225 Yq6)],[]⟩ [] (.lp ⟨[(9,.own 225 Yq6),kdI 13],[]⟩ (.tw 14 (.mix [([0,1,2,3,4,5,6,7,8,9,10,11,12,13,14,15],16)] [] [17,18] [] (.tw 38 (.mix [([0,1,2,3,4,5,6,7,8,9,10,11,12,13,14,15],16)] [] [17,18] [] .nil) .nil)) .nil)) .nil
def J4:Spec:=⟨166,⟨[(0,.dat (.sl Yq3)),(1,.dat (.sl Yq3)),kdI 2,kdI 3],[]⟩,[⟨[(0,.own 225 Yq6)],[]⟩],fun x=>j6 x.1 x.2.1 x.2.2.1 x.2.2.2⟩
def um:OkSpec Tryz.prog:=⟨J4,ae func166 Lr (by kernel_rfl) (by kernel_rfl),call166⟩

def gx (xa:Tq2) (xb:Tq2) (xc:Int) (xd:Int):Option (aT) :=
 (dk xa xb).bind fun t30=>cond (!t30) (some (([],8))) ((j6 xa xb xc xd).bind fun l38=>some ((l38,0)))
def Lk:Hn Tryz.prog := .cl jB [] (.tw 13 .nil (.cl um [] .nil))
def Kh:Spec:=⟨157,⟨[(0,.dat Yq7),(1,.dat Yq7),kdI 2,kdI 3],[]⟩,[⟨[(0,.tup [.own 225 Yq6,.dat Yq2])],[]⟩],fun x=>gx x.1 x.2.1 x.2.2.1 x.2.2.2⟩
def pG:OkSpec Tryz.prog:=⟨Kh,ae func157 Lk (by kernel_rfl) (by kernel_rfl),call157⟩
def uJ (xa:Tq2) (xc:Bool):(Tq2×Int)→Option ((Tq2×Int)⊕Tq2):=fun (l1,i2)=>cond (decide (i2 < (xa.length:Int))) ((aa xa i2).bind fun x3=>(app l1 (([(x3.1,x3.2||xc)]:List (Int×Bool)))).bind fun z4=>some (.inl ((z4,IntKind.wrap .i64 (i2 + 1))))) (some (.inr (l1)))
def nr (xa:Tq2) (xb:Int) (xc:Bool):Option (Tq2) :=
 (loop (uJ xa xc) ((([(xb,false)]:List (Int×Bool)),0))).bind fun l1=>some (l1)
def Na:Hn Tryz.prog := .jn [] ⟨[(7,.own 168 Yq3),(12,.any)],[]⟩ [4,0] (.lp ⟨[(7,.own 168 Yq3),kdI 16],[]⟩ (.tw 17 (.wt 25 (.gp 1 .nil)) .nil)) .nil
def L3:Spec:=⟨167,⟨[(0,.dat Yq7),kdI 1,kdB 2],[]⟩,[⟨[(0,.agg [.own 168 Yq3])],[]⟩],fun x=>nr x.1 x.2.1 x.2.2⟩
def Kf:OkSpec Tryz.prog:=⟨L3,ae func167 Na (by kernel_rfl) (by kernel_rfl),call167⟩

def mZ (xa:Tq2) (xb:Tq2) (xc:Int) (xd:Bool):Option (aT) :=
 (nr xa xc xd).bind fun l1=>(dk xb l1).bind fun t2=>cond (!t2) (some (([],8))) ((aa xb 0).bind fun x3=>(subL xb 1 (xb.length:Int)).bind fun y4=>(j6 xa y4 1 1).bind fun l5=>(app (([(xc,x3.1,2,0,false)]:List Tq3)) l5).bind fun z6=>some ((z6,0)))
def K9:Hn Tryz.prog := .mix [([0,1,2,3],4)] [] [5,6] [] (.cl Kf [] (.cl jB [4] (.tw 17 .nil (.mix [([0,1,2,3,4,5],6)] [] [7,8,9] [] (.cl um [] .nil)))))
def Mr:Spec:=⟨158,⟨[(0,.dat Yq7),(1,.dat Yq7),kdI 2,kdB 3],[]⟩,[⟨[(0,.tup [.own 225 Yq6,.dat Yq2])],[]⟩],fun x=>mZ x.1 x.2.1 x.2.2.1 x.2.2.2⟩
def Kw:OkSpec Tryz.prog:=⟨Mr,ae func158 K9 (by kernel_rfl) (by kernel_rfl),call158⟩

def pZ (xa:(Int×Bool)):Option Bool :=
 some (!xa.2)
def Mt:Hn Tryz.prog := .nil
def JI:Spec:=⟨174,⟨[(0,.dat Yq3)],[]⟩,[⟨[kdB 0],[]⟩],fun x=>pZ x⟩
def MZ:OkSpec Tryz.prog:=⟨JI,ae func174 Mt (by kernel_rfl) (by kernel_rfl),call174⟩
def pO (xa:Tq2):Int→Option (Int⊕(Unit⊕Int)):=fun i1=>cond (decide (i1 < (xa.length:Int))) ((aa xa i1).bind fun x2=>(pZ (x2.1,x2.2)).bind fun t3=>cond (t3) (some (.inr ((.inr (i1))))) (some (.inl (IntKind.wrap .i64 (i1 + 1))))) (some (.inr ((.inl ()))))
def pQ (xa:Tq2):Option Int :=
 (loop (pO xa) 0).bind fun o=>match o with | .inr r=>some r | .inl ()=>some ((-1))
def MC:Hn Tryz.prog := .jx [] ⟨[],[]⟩ [] (.lp ⟨[kdI 8],[]⟩ (.tw 9 (.cl MZ [] (.tw 16 .nil .nil)) .nil)) .nil
def LY:Spec:=⟨163,⟨[(0,.dat (.sl Yq3)),(1,.fn 174 [])],[]⟩,[⟨[kdI 0],[]⟩],fun x=>pQ x⟩
def ML:OkSpec Tryz.prog:=⟨LY,ae func163 MC (by kernel_rfl) (by kernel_rfl),call163⟩

def pP (xa:Tq2):Option Bool :=
 (pQ xa).bind fun i10=>some (decide (0≤i10))
def Nh:Hn Tryz.prog := .cl ML [] .nil
def LN:Spec:=⟨153,⟨[(0,.dat (.sl Yq3)),(1,.fn 174 [])],[]⟩,[⟨[kdB 0],[]⟩],fun x=>pP x⟩
def JC:OkSpec Tryz.prog:=⟨LN,ae func153 Nh (by kernel_rfl) (by kernel_rfl),call153⟩

def mb (xa:Tq2) (xb:Tq2) (xc:Bool):Option Bool :=
 (cond (decide ((xa.length:Int)=0)) (some (true)) ((aa xa 0).bind fun x70=>some (x70.2))).bind fun t68=>(cond (t68) (some (true)) ((dk xa xb).bind fun t90=>some (!t90))).bind fun t86=>cond (t86) (some (false)) ((subL xa 1 (xa.length:Int)).bind fun y95=>(pP y95).bind fun t1=>some ((!xc)||(!t1)))
def L5:Hn Tryz.prog := .gj 5 ⟨[kdB 18],[]⟩ [] (.two 12 .nil .nil) (.wt 19 (.gj 4 ⟨[kdB 24],[]⟩ [] (.two 19 .nil (.cl jB [] .nil)) (.tw 24 .nil (.cl JC [] (.gp 2 .nil)))))
def LU:Spec:=⟨168,⟨[(0,.dat Yq7),(1,.dat Yq7),kdB 2],[]⟩,[⟨[kdB 0],[]⟩],fun x=>mb x.1 x.2.1 x.2.2⟩
def KU:OkSpec Tryz.prog:=⟨LU,ae func168 L5 (by kernel_rfl) (by kernel_rfl),call168⟩

def mR (xa:Tq2) (xb:Tq2) (xc:Int) (xd:Bool):Option (aT) :=
 (mb xa xb xd).bind fun t1=>cond (!t1) (some (([],8))) ((aa xa 0).bind fun x2=>(aa xb 0).bind fun x3=>(subL xa 1 (xa.length:Int)).bind fun y4=>(subL xb 1 (xb.length:Int)).bind fun y5=>(j6 y4 y5 1 1).bind fun l6=>(app (([(x2.1,xc,3,0,false),(xc,x3.1,2,0,false)]:List Tq3)) l6).bind fun z7=>some ((z7,0)))
def M1:Hn Tryz.prog := .cl KU [] (.tw 15 .nil (.mix [([0,1,2,3,4,5,6,7,8,9,10,11,12,13],14)] [15] [] [] (.mix [([0,1,2,3,4,5,6],7)] [] [8,9,10] [] (.cl um [] .nil))))
def JY:Spec:=⟨159,⟨[(0,.dat Yq7),(1,.dat Yq7),kdI 2,kdB 3],[]⟩,[⟨[(0,.tup [.own 225 Yq6,.dat Yq2])],[]⟩],fun x=>mR x.1 x.2.1 x.2.2.1 x.2.2.2⟩
def Jy:OkSpec Tryz.prog:=⟨JY,ae func159 M1 (by kernel_rfl) (by kernel_rfl),call159⟩

def eS (xa:Tq3) (xb:(List Tq2)) (xc:Int):Option (aT) :=
 (m9 (xa.1,xa.2.1,xa.2.2.1,xa.2.2.2.1,xa.2.2.2.2)).bind fun (t1,t2,t3,i4)=>cond (!decide (i4=0)) (some (([],i4))) ((cond (t1) ((mi xa.2.1 xb).bind fun t5=>some (!t5)) (some (false))).bind fun t6=>(cond (t6) (some (true)) ((cond (t2) ((mi xa.2.2.1 xb).bind fun t7=>some (!t7)) (some (false))).bind fun t8=>some (t8))).bind fun t9=>cond (t9||(t3&&((decide (xa.2.2.2.1 < 0))||(decide (xc≤xa.2.2.2.1))))) (some (([],7))) (cond (decide (xa.1=1)) ((aa xb xa.2.2.1).bind fun x10=>(aa xb xa.2.1).bind fun x11=>(gx x10 x11 1 0).bind fun (l12,i13)=>some ((l12,i13))) (cond (decide (xa.1=2)) ((aa xb xa.2.2.1).bind fun x14=>(aa xb xa.2.1).bind fun x15=>(mZ x14 x15 xa.2.2.2.1 xa.2.2.2.2).bind fun (l16,i17)=>some ((l16,i17))) (cond (decide (xa.1=3)) ((aa xb xa.2.2.1).bind fun x18=>(aa xb xa.2.1).bind fun x19=>(mR x18 x19 xa.2.2.2.1 xa.2.2.2.2).bind fun (l20,i21)=>some ((l20,i21))) (some (([],0)))))))
def MG:Hn Tryz.prog := .cl MH [] (.tw 17 .nil (.wt 22 (.mc 2 0 3 (.gj 5 ⟨[kdB 28],[bkC 2 23 [.is 1 (.any)],bkU 7]⟩ [2] (.two 22 (.cl zD [] .nil) .nil) (.wt 29 (.gj 9 ⟨[kdB 39],[bkC 2 23 [.is 1 (.any)],bkU 7]⟩ [2] (.two 29 .nil (.wt 32 (.gj 5 ⟨[kdB 38],[bkC 2 23 [.is 1 (.any)],bkU 7]⟩ [2] (.two 32 (.cl zD [] .nil) .nil) .nil))) (.wt 40 (.gp 13 (.tw 54 .nil (.tw 57 (.mix [([0,1,2,3,4,5,6,7,8,9],10)] [11,12,13,14] [] [] (.cl pG [] .nil)) (.tw 72 (.mix [([0,1,2,3,4,5,6,7,8,9,10,11,12,13],14)] [15,16,17,18] [] [] (.cl Kw [] .nil)) (.tw 91 (.mix [([0,1,2,3,4,5,6,7,8,9,10,11,12,13],14)] [15,16,17,18] [] [] (.cl Jy [] .nil)) .nil))))))))))))
def LD:Spec:=⟨150,⟨[(0,.dat Yq6),(1,.dat (.sl Yq7)),kdI 2],[]⟩,[⟨[(0,.tup [.own 225 Yq6,.dat Yq2])],[]⟩],fun x=>eS x.1 x.2.1 x.2.2⟩
def I9:OkSpec Tryz.prog:=⟨LD,ae func150 MG (by kernel_rfl) (by kernel_rfl),call150⟩

def m7 (xa:Tq3) (xb:(List Tq2)) (xc:Int):Option Int :=
 (eS (xa.1,xa.2.1,xa.2.2.1,xa.2.2.2.1,xa.2.2.2.2) xb xc).bind fun (l17,i18)=>some (i18)
def Kz:Hn Tryz.prog := .cl I9 [] .nil
def LC:Spec:=⟨138,⟨[(0,.dat Yq6),(1,.dat (.sl Yq7)),kdI 2],[]⟩,[⟨[kdI 0],[]⟩],fun x=>m7 x.1 x.2.1 x.2.2⟩
def Mn:OkSpec Tryz.prog:=⟨LC,ae func138 Kz (by kernel_rfl) (by kernel_rfl),call138⟩

def iy (xa:Tq6):Option Bool :=
 some (((!decide (xa.2.1=0))||(!decide (xa.2.2.1=0)))||(decide (0 < (xa.2.2.2.2.2.length:Int))))
def LV:Hn Tryz.prog := .gp 3 (.wt 11 (.gp 4 .nil))
def LI:Spec:=⟨169,⟨[(0,.dat db)],[]⟩,[⟨[kdB 0],[]⟩],fun x=>iy x⟩
def uk:OkSpec Tryz.prog:=⟨LI,ae func169 LV (by kernel_rfl) (by kernel_rfl),call169⟩

def iA (xa:Tq6):Option Int :=
 (cond (decide (xa.1=1)) ((cond ((decide ((xa.2.2.2.1.length:Int)=1))&&(decide ((xa.2.2.2.2.1.length:Int)=0))) ((iy (xa.1,xa.2.1,xa.2.2.1,xa.2.2.2.1,xa.2.2.2.2.1,xa.2.2.2.2.2)).bind fun t1=>some (!t1)) (some (false))).bind fun t2=>some (t2)) (cond (decide (xa.1=2)) ((cond (decide (0 < (xa.2.2.2.1.length:Int))) ((iy (xa.1,xa.2.1,xa.2.2.1,xa.2.2.2.1,xa.2.2.2.2.1,xa.2.2.2.2.2)).bind fun t3=>some (!t3)) (some (false))).bind fun t4=>some (t4)) (cond (decide (xa.1=3)) ((cond ((decide ((xa.2.2.2.1.length:Int)=0))&&(decide ((xa.2.2.2.2.1.length:Int)=0))) ((iy (xa.1,xa.2.1,xa.2.2.1,xa.2.2.2.1,xa.2.2.2.2.1,xa.2.2.2.2.2)).bind fun t5=>some (!t5)) (some (false))).bind fun t6=>some (t6)) (cond (decide (xa.1=4)) (some (decide ((xa.2.2.2.1.length:Int)=1))) (some (false))))):Option Bool).bind fun t7=>cond (!t7) (some (3)) (cond (((decide (16 < (xa.2.2.2.1.length:Int)))||(decide (16 < (xa.2.2.2.2.1.length:Int))))||(decide (16 < (xa.2.2.2.2.2.length:Int)))) (some (6)) (some (0)))
def M6:Hn Tryz.prog := .pl (.pl (.sq [] ⟨[kdB 3],[]⟩ [] (.tw 6 (.wt 12 (.gp 4 (.wt 18 (.gj 3 ⟨[kdB 22],[]⟩ [] (.two 18 (.cl uk [] .nil) .nil) .nil)))) (.tw 23 (.wt 29 (.gj 3 ⟨[kdB 33],[]⟩ [] (.two 29 (.cl uk [] .nil) .nil) .nil)) (.tw 34 (.wt 40 (.gp 4 (.wt 46 (.gj 3 ⟨[kdB 50],[]⟩ [] (.two 46 (.cl uk [] .nil) .nil) .nil)))) (.tw 51 .nil .nil)))) (.tw 58 .nil (.wt 63 (.gp 4 (.wt 69 (.gp 4 (.tw 74 .nil .nil))))))))
def MI:Spec:=⟨160,⟨[(0,.dat db)],[]⟩,[⟨[kdI 0],[]⟩],fun x=>iA x⟩
def Lp:OkSpec Tryz.prog:=⟨MI,ae func160 M6 (by kernel_rfl) (by kernel_rfl),call160⟩

def iw (xa:Int):Option Int :=
 some (xa)
def Jg:Hn Tryz.prog := .nil
def Mg:Spec:=⟨170,⟨[kdI 0],[]⟩,[⟨[(0,.fn 175 [.ptr 0 0])],[bkN 3 [.dat Yq2]]⟩],fun x=>iw x⟩
def pD:OkSpec Tryz.prog:=⟨Mg,ae func170 Jg (by kernel_rfl) (by kernel_rfl),call170⟩

def ic (xa:Int) (qa0:Int):Option Bool :=
 some ((decide (xa < 0))||(decide (qa0≤xa)))
def MS:Hn Tryz.prog := .gp 3 .nil
def Jn:Spec:=⟨175,⟨[kdI 0,(1,.ptr 0 0)],[bkN 3 [.is 1 (.dat Yq2)],bkM]⟩,[⟨[kdB 0],[bkC 0 3 [.is 1 (.any)],bkU 1]⟩],fun x=>ic x.1 x.2⟩
def tS:OkSpec Tryz.prog:=⟨Jn,ae func175 MS (by kernel_rfl) (by kernel_rfl),call175⟩
def lU (xa:(List Int)) (qa0:Int):Int→Option (Int⊕(Unit⊕Int)):=fun i1=>cond (decide (i1 < (xa.length:Int))) ((aa xa i1).bind fun x2=>(ic x2 qa0).bind fun t3=>cond (t3) (some (.inr ((.inr (i1))))) (some (.inl (IntKind.wrap .i64 (i1 + 1))))) (some (.inr ((.inl ()))))
def pU (xa:(List Int)) (qa0:Int):Option Int :=
 (loop (lU xa qa0) 0).bind fun o=>match o with | .inr r=>some r | .inl ()=>some ((-1))
def Lm:Hn Tryz.prog := .jx [] ⟨[],[bkC 0 3 [.is 1 (.any)],bkU 1]⟩ [0] (.lp ⟨[kdI 8],[bkC 0 3 [.is 1 (.any)],bkU 1]⟩ (.tw 9 (.cl tS [] (.tw 16 .nil .nil)) .nil)) .nil
def M9:Spec:=⟨176,⟨[(0,.dat (.sl Yq2)),(1,.fn 175 [.ptr 0 0])],[bkN 3 [.is 1 (.dat Yq2)],bkM]⟩,[⟨[kdI 0],[bkC 0 3 [.is 1 (.any)],bkU 1]⟩],fun x=>pU x.1 x.2⟩
def Mv:OkSpec Tryz.prog:=⟨M9,ae func176 Lm (by kernel_rfl) (by kernel_rfl),call176⟩

def hZ (xa:(List Int)) (qa0:Int):Option Bool :=
 (pU xa qa0).bind fun i10=>some (decide (0≤i10))
def LF:Hn Tryz.prog := .cl Mv [] .nil
def Le:Spec:=⟨171,⟨[(0,.dat (.sl Yq2)),(1,.fn 175 [.ptr 0 0])],[bkN 3 [.is 1 (.dat Yq2)],bkM]⟩,[⟨[kdB 0],[bkC 0 3 [.is 1 (.any)],bkU 1]⟩],fun x=>hZ x.1 x.2⟩
def tP:OkSpec Tryz.prog:=⟨Le,ae func171 LF (by kernel_rfl) (by kernel_rfl),call171⟩

def mT (xa:Tq6) (xb:jH):Option Bool :=
 (iw (xb.2.2.1.length:Int)).bind fun i1=>(iw xb.1).bind fun i2=>(hZ xa.2.2.2.1 i2).bind fun t3=>cond (t3) (some (false)) ((hZ xa.2.2.2.2.1 i1).bind fun t4=>cond (t4) (some (false)) ((iw xb.2.1).bind fun i5=>(hZ xa.2.2.2.2.2 i5).bind fun t6=>cond (t6) (some (false)) (cond (!decide (xa.1=4)) (some (true)) ((ic xa.2.2.1 i1).bind fun t7=>cond (!t7) ((iw (xb.2.2.2.2.length:Int)).bind fun i8=>(ic xa.2.1 i8).bind fun t9=>some (!t9)) (some (false))))))
def LZ:Hn Tryz.prog := .cl pD [] (.mix [([0,1,2,3],4),([],5),([6,7,8,9],10),([11,12,13,14,15,16],17)] [] [18,19] [4] (.cl pD [] (.mc 6 0 7 (.cl tP [] (.two 16 .nil (.wt 1000011 (.mc 4 0 5 (.cl tP [] (.two 22 .nil (.cl pD [] (.mc 14 0 15 (.cl tP [] (.tw 29 .nil (.mix [([0,1,2,3,4,5,6],7),([8,9,10,11,12,14,15],13)] [] [16,17,18,19,20] [4] (.two 33 .nil (.cl tS [] (.two 39 (.cl pD [] (.mc 21 0 22 (.cl tS [] .nil))) .nil)))))))))))))))))
def KH:Spec:=⟨161,⟨[(0,.dat db),(1,.dat pC)],[]⟩,[⟨[kdB 0],[]⟩],fun x=>mT x.1 x.2⟩
def Ls:OkSpec Tryz.prog:=⟨KH,ae func161 LZ (by kernel_rfl) (by kernel_rfl),call161⟩
def mq (xa:bK) (xc:(List Tq2)):Int→Option (Int⊕(Unit⊕Int)):=fun i1=>cond (decide (i1 < (xa.2.2.1.length:Int))) ((aa xa.2.2.1 i1).bind fun x2=>(aa xc i1).bind fun x3=>(dk x3 x2).bind fun t4=>cond (!t4) (some (.inr ((.inr (8))))) (some (.inl (IntKind.wrap .i64 (i1 + 1))))) (some (.inr ((.inl ()))))
def qn (xa:bK) (xb:(List Int)) (xc:(List Tq2)) (xd:Tq2):Option Int :=
 (cP (xa.1,xa.2.1,xa.2.2.1,xa.2.2.2)).bind fun i1=>cond (!decide (i1=0)) (some (i1)) (cond ((!decide ((xb.length:Int)=xa.1))||(!decide ((xc.length:Int)=(xa.2.2.1.length:Int)))) (some (2)) ((loop (mq xa xc) 0).bind fun o=>match o with | .inr r=>some r | .inl ()=>(dk xd xa.2.2.2).bind fun t2=>cond (!t2) (some (8)) (some (0))))
def J3:Hn Tryz.prog := .cl zW [] (.tw 15 .nil (.wt 22 (.gp 6 (.tw 29 .nil (.jx [] ⟨[],[]⟩ [] (.lp ⟨[kdI 33],[]⟩ (.tw 34 (.mix [] [0,1,2,3,4] [5,6] [] (.cl jB [] (.tw 44 .nil .nil))) .nil)) (.cl jB [] (.tw 50 .nil .nil)))))))
def Jd:Spec:=⟨172,⟨[(0,.dat fJ),(1,.dat (.sl Yq2)),(2,.dat (.sl Yq7)),(3,.dat Yq7)],[]⟩,[⟨[kdI 0],[]⟩],fun x=>qn x.1 x.2.1 x.2.2.1 x.2.2.2⟩
def Jm:OkSpec Tryz.prog:=⟨Jd,ae func172 J3 (by kernel_rfl) (by kernel_rfl),call172⟩

def pX (xa:Tq2):Option (Tq2) :=
 dd xa (some ([])) ((app (([]:List (Int×Bool))) xa).bind fun z21=>some (z21))
def Lc:Hn Tryz.prog := .two 4 .nil .nil
def MJ:Spec:=⟨178,⟨[(0,.dat (.sl Yq3))],[]⟩,[⟨[(0,.own 168 Yq3)],[]⟩],fun x=>pX x⟩
def Mz:OkSpec Tryz.prog:=⟨MJ,ae func178 Lc (by kernel_rfl) (by kernel_rfl),call178⟩

def nc (xa:Tq2):Option (Tq2) :=
 (pX xa).bind fun l22=>some (l22)
def KA:Hn Tryz.prog := .cl Mz [] .nil
def Jp:Spec:=⟨177,⟨[(0,.dat Yq7)],[]⟩,[⟨[(0,.agg [.own 168 Yq3])],[]⟩],fun x=>nc x⟩
def KN:OkSpec Tryz.prog:=⟨Jp,ae func177 KA (by kernel_rfl) (by kernel_rfl),call177⟩
def ke (xb:(List Int)) (l1:Tq2):(Tq2×Int)→Option ((Tq2×Int)⊕Tq2):=fun (l2,i3)=>cond (decide (i3 < (l1.length:Int))) ((aa l2 i3).bind fun x4=>(aa xb x4.1).bind fun x5=>(aa l2 i3).bind fun x6=>(some (l2.set i3.toNat (x5,x6.2))).bind fun z7=>some (.inl ((z7,IntKind.wrap .i64 (i3 + 1))))) (some (.inr (l2)))
def kA (xa:Tq2) (xb:(List Int)):Option ((Tq2×Int)) :=
 (kv xa (xb.length:Int)).bind fun t1=>cond (!t1) (some (([],7))) ((nc xa).bind fun l2=>(loop (ke xb l2) (l2,0)).bind fun l3=>some ((l3,0)))
def J5:Hn Tryz.prog := .cl Ae [] (.tw 13 .nil (.cl KN [] (.jn [] ⟨[(16,.any),(18,.any)],[bkC 6 26 [.own 168 Yq3]]⟩ [6,4,0] (.lp ⟨[(18,.own 168 Yq3),kdI 20],[bkC 6 26 [.al 0]]⟩ (.tw 21 (.mix [] [0,1,2,3,4,5,6,7,8,9] [10] [] .nil) .nil)) .nil)))
def Kx:Spec:=⟨173,⟨[(0,.dat Yq7),(1,.dat (.sl Yq2))],[]⟩,[⟨[(0,.tup [.agg [.own 168 Yq3],.dat Yq2])],[]⟩],fun x=>kA x.1 x.2⟩
def zL:OkSpec Tryz.prog:=⟨Kx,ae func173 J5 (by kernel_rfl) (by kernel_rfl),call173⟩
def m4 (xa:bK) (xb:(List Int)):aT→Option (aT⊕(List Tq3)):=fun (l1,i2)=>cond (decide (i2 < (xa.2.1.length:Int))) ((aa xa.2.1 i2).bind fun x3=>(aa xb x3.1).bind fun x4=>(aa xb x3.2).bind fun x5=>(app l1 (([(x4,x5,4,i2,false)]:List Tq3))).bind fun z6=>some (.inl ((z6,IntKind.wrap .i64 (i2 + 1))))) (some (.inr (l1)))
def ko (xa:bK) (xb:(List Int)) (xc:(List Tq2)):aT→Option (aT⊕(List Tq3)):=fun (l1,i2)=>cond (decide (i2 < (xa.2.2.1.length:Int))) ((aa xa.2.2.1 i2).bind fun x3=>(kA x3 xb).bind fun (l4,i5)=>(aa xc i2).bind fun x6=>(gx x6 l4 5 (IntKind.wrap .i64 (16 * i2))).bind fun (l7,i8)=>(app l1 l7).bind fun z9=>some (.inl ((z9,IntKind.wrap .i64 (i2 + 1))))) (some (.inr (l1)))
def kE (xa:bK) (xb:(List Int)) (xc:(List Tq2)) (xd:Tq2):Option (aT) :=
 (qn (xa.1,xa.2.1,xa.2.2.1,xa.2.2.2) xb xc xd).bind fun i1=>cond (!decide (i1=0)) (some (([],i1))) ((loop (m4 xa xb) ([],0)).bind fun l2=>(loop (ko xa xb xc) (l2,0)).bind fun l3=>(kA xa.2.2.2 xb).bind fun (l4,i5)=>(gx l4 xd 6 0).bind fun (l6,i7)=>(app l3 l6).bind fun z8=>some ((z8,0)))
def LP:Hn Tryz.prog := .cl Jm [] (.tw 30 .nil (.jn [] ⟨[(11,.own 225 Yq6)],[]⟩ [] (.lp ⟨[(11,.own 225 Yq6),kdI 35],[]⟩ (.tw 36 (.mix [([0,1,2,3,4,5,6,7,8,9,10,11,12],13)] [] [14,15] [] .nil) .nil)) (.jn [] ⟨[(11,.own 225 Yq6)],[]⟩ [4] (.lp ⟨[(11,.own 225 Yq6),kdI 59],[]⟩ (.tw 60 (.cl zL [] (.per 11 12 (.mix [([0,1,2,3,4,5,6],7)] [8,9,10,11,12] [] [] (.cl pG [] .nil)))) .nil)) (.cl zL [] (.per 8 9 (.cl pG [] .nil))))))
def KV:Spec:=⟨162,⟨[(0,.dat fJ),(1,.dat (.sl Yq2)),(2,.dat (.sl Yq7)),(3,.dat Yq7)],[]⟩,[⟨[(0,.tup [.own 225 Yq6,.dat Yq2])],[]⟩],fun x=>kE x.1 x.2.1 x.2.2.1 x.2.2.2⟩
def Jo:OkSpec Tryz.prog:=⟨KV,ae func162 LP (by kernel_rfl) (by kernel_rfl),call162⟩
def ip (xa:Tq6) (xb:jH):((List Tq2)×Int)→Option (((List Tq2)×Int)⊕(List Tq2)):=fun (l1,i2)=>cond (decide (i2 < (xa.2.2.2.2.1.length:Int))) ((aa xa.2.2.2.2.1 i2).bind fun x3=>(aa xb.2.2.1 x3).bind fun x4=>(app l1 (([x4]:List Tq2))).bind fun z5=>some (.inl ((z5,IntKind.wrap .i64 (i2 + 1))))) (some (.inr (l1)))
def di (xa:Tq6) (xb:jH):Option (aT) :=
 (iA (xa.1,xa.2.1,xa.2.2.1,xa.2.2.2.1,xa.2.2.2.2.1,xa.2.2.2.2.2)).bind fun i1=>cond (!decide (i1=0)) (some (([],i1))) ((mT (xa.1,xa.2.1,xa.2.2.1,xa.2.2.2.1,xa.2.2.2.2.1,xa.2.2.2.2.2) (xb.1,xb.2.1,xb.2.2.1,xb.2.2.2.1,xb.2.2.2.2)).bind fun t2=>cond (!t2) (some (([],7))) (cond (decide (xa.1=3)) (cond (decide ((xb.2.2.1.length:Int)=0)) (some (([],14))) ((aa xb.2.2.1 0).bind fun x3=>(gx x3 xb.2.2.2.1 7 0).bind fun (l4,i5)=>some ((l4,i5)))) (cond (decide (xa.1=4)) ((loop (ip xa xb) ([],0)).bind fun l6=>(aa xb.2.2.2.2 xa.2.1).bind fun x7=>(aa xb.2.2.1 xa.2.2.1).bind fun x8=>(kE (x7.1,x7.2.1,x7.2.2.1,x7.2.2.2) xa.2.2.2.2.2 l6 x8).bind fun (l9,i10)=>some ((l9,i10))) (some (([],0))))))
def Me:Hn Tryz.prog := .cl Lp [] (.tw 13 .nil (.cl Ls [] (.tw 18 .nil (.tw 21 (.tw 26 .nil (.mix [([0,1,2,3,4,5],6)] [7,8,9,10] [] [] (.cl pG [] .nil))) (.tw 36 (.jn [] ⟨[(7,.own 26 Yq7)],[]⟩ [] (.lp ⟨[(7,.own 26 Yq7),kdI 41],[]⟩ (.tw 42 .nil .nil)) (.mix [([0,1,2,3,4,5,6,7,8,9,10,11,12,13,14],15)] [16,17,18,19] [] [4] (.per 4 5 (.cl Jo [] .nil)))) .nil)))))
def KC:Spec:=⟨151,⟨[(0,.dat db),(1,.dat pC)],[]⟩,[⟨[(0,.tup [.own 225 Yq6,.dat Yq2])],[]⟩],fun x=>di x.1 x.2⟩
def Jw:OkSpec Tryz.prog:=⟨KC,ae func151 Me (by kernel_rfl) (by kernel_rfl),call151⟩

def m6 (xa:Tq6) (xb:jH):Option Int :=
 (di (xa.1,xa.2.1,xa.2.2.1,xa.2.2.2.1,xa.2.2.2.2.1,xa.2.2.2.2.2) (xb.1,xb.2.1,xb.2.2.1,xb.2.2.2.1,xb.2.2.2.2)).bind fun (l19,i20)=>some (i20)
def Ku:Hn Tryz.prog := .cl Jw [] .nil
def Mw:Spec:=⟨139,⟨[(0,.dat db),(1,.dat pC)],[]⟩,[⟨[kdI 0],[]⟩],fun x=>m6 x.1 x.2⟩
def KM:OkSpec Tryz.prog:=⟨Mw,ae func139 Ku (by kernel_rfl) (by kernel_rfl),call139⟩
def fR (xa:Tq1) (i1:Int) (x2:((List Tq3)×Tq6)):Int→Option (Int⊕(Unit⊕(Int⊕(Unit⊕Tq8)))):=fun i3=>cond (decide (i3 < (x2.1.length:Int))) ((aa x2.1 i3).bind fun x4=>(aR 1 1).bind fun _=>(m7 (x4.1,x4.2.1,x4.2.2.1,x4.2.2.2.1,x4.2.2.2.2) xa.2.2.2.1 xa.2.1).bind fun i5=>cond (!decide (i5=0)) (some (.inr ((.inr (.inr ((.inr ((i5,6,i1,i3))))))))) (some (.inl (IntKind.wrap .i64 (i3 + 1))))) (some (.inr ((.inl ()))))
def fT (xa:Tq1):Int→Option (Int⊕(Unit⊕Tq8)):=fun i1=>cond (decide (i1 < (xa.2.2.2.2.2.2.length:Int))) ((aa xa.2.2.2.2.2.2 i1).bind fun x2=>(loop (fR xa i1 x2) 0).bind fun o=>match o with | .inr r=>some r | .inl ()=>(aR 1 1).bind fun _=>(m6 (x2.2.1,x2.2.2.1,x2.2.2.2.1,x2.2.2.2.2.1,x2.2.2.2.2.2.1,x2.2.2.2.2.2.2) (((xa.2.2.2.2.2.2.length:Int),xa.2.1,xa.2.2.2.1,xa.2.2.2.2.1,xa.2.2.2.2.2.1))).bind fun i3=>cond (!decide (i3=0)) (some (.inr ((.inr ((i3,7,i1,0)))))) (some (.inl (IntKind.wrap .i64 (i1 + 1))))) (some (.inr ((.inl ()))))
def dS (xa:Tq1):Option Tq8 :=
 (loop (fT xa) 0).bind fun o=>match o with | .inr r=>some r | .inl ()=>some ((0,0,0,0))
def Kv:Hn Tryz.prog := .jx [] ⟨[],[bkC 2 161 [.lit (.int .i64 0),.lit (.int .i64 0),.lit (.int .i64 0),.lit (.int .i64 0)]]⟩ [2] (.lp ⟨[kdI 27],[bkC 2 161 [.lit (.int .i64 0),.lit (.int .i64 0),.lit (.int .i64 0),.lit (.int .i64 0)]]⟩ (.tw 28 (.pl (.pl (.jx [] ⟨[],[bkC 2 161 [.lit (.int .i64 0),.lit (.int .i64 0),.lit (.int .i64 0),.lit (.int .i64 0)]]⟩ [2] (.lp ⟨[kdI 35],[bkC 2 161 [.lit (.int .i64 0),.lit (.int .i64 0),.lit (.int .i64 0),.lit (.int .i64 0)]]⟩ (.tw 36 (.cl dK [] (.cl Mn [] (.tw 49 .nil .nil))) .nil)) (.cl dK [] (.cl KM [] (.tw 62 .nil .nil)))))) .nil)) .nil
def MV:Spec:=⟨118,⟨[(0,.dat Yq1),(1,.nilp)],[]⟩,[⟨[(0,.agg [.dat Yq2,.dat Yq2,.dat Yq2,.dat Yq2])],[]⟩],fun x=>dS x⟩
def Jv:OkSpec Tryz.prog:=⟨MV,ae func118 Kv (by kernel_rfl) (by kernel_rfl),call118⟩

def eO (xa:Tq1):Option Tq8 :=
 (aR 1 1).bind fun _=>(gm xa).bind fun (i1,i2,i3,i4)=>cond (!decide (i1=0)) (some ((i1,i2,i3,i4))) ((fX xa).bind fun (i5,i6,i7,i8)=>cond (!decide (i5=0)) (some ((i5,i6,i7,i8))) ((fY xa).bind fun (i9,i10,i11,i12)=>cond (!decide (i9=0)) (some ((i9,i10,i11,i12))) ((dT xa).bind fun (i13,i14,i15,i16)=>cond (!decide (i13=0)) (some ((i13,i14,i15,i16))) ((gh xa).bind fun (i17,i18,i19,i20)=>cond (!decide (i17=0)) (some ((i17,i18,i19,i20))) ((fZ xa).bind fun (i21,i22,i23,i24)=>cond (!decide (i21=0)) (some ((i21,i22,i23,i24))) ((dS xa).bind fun (i25,i26,i27,i28)=>cond (!decide (i25=0)) (some ((i25,i26,i27,i28))) (some ((0,0,0,0)))))))))
def Km:Hn Tryz.prog := .cl dK [] (.un 64 (.cl KL [] (.tw 24 .nil (.cl I2 [] (.tw 24 .nil (.cl Jx [] (.tw 24 .nil (.cl M3 [] (.tw 24 .nil (.cl KO [] (.tw 24 .nil (.cl Nm [] (.tw 24 .nil (.cl Jv [] (.tw 24 .nil .nil)))))))))))))))
def L9:Spec:=⟨91,⟨[(0,.dat Yq1),(1,.nilp)],[]⟩,[⟨[(0,.agg [.dat Yq2,.dat Yq2,.dat Yq2,.dat Yq2])],[]⟩],fun x=>eO x⟩
def Mm:OkSpec Tryz.prog:=⟨L9,ae func91 Km (by kernel_rfl) (by kernel_rfl),call91⟩

def ni (xa:Tq1):Option Bool :=
 (eO xa).bind fun (i15,i17,i18,i19)=>some (decide (i15=0))
def LA:Hn Tryz.prog := .cl Mm [] .nil
def MK:Spec:=⟨64,⟨[(0,.dat Yq1)],[]⟩,[⟨[kdB 0],[]⟩],fun x=>ni x⟩
def MU:OkSpec Tryz.prog:=⟨MK,ae func64 LA (by kernel_rfl) (by kernel_rfl),call64⟩
def kl (xa:Tq1):(Int×(List Int)×Int)→Option ((Int×(List Int)×Int)⊕aQ):=fun (i1,l2,i3)=>cond (decide (i1 < (xa.2.2.2.2.2.2.length:Int))) ((aa xa.2.2.2.2.2.2 i1).bind fun x4=>(app l2 ([i3]:List Int)).bind fun z5=>some (.inl ((IntKind.wrap .i64 (i1 + 1),z5,IntKind.wrap .i64 (i3 + (IntKind.wrap .i64 ((x4.1.length:Int) + 1))))))) (some (.inr (((l2,i3)))))
def dm (xa:Tq1):Option ((Option aQ)) :=
 (ni xa).bind fun t1=>cond (!t1) (some ((some ([],0)))) ((loop (kl xa) (0,[],0)).bind fun (l2,i3)=>some ((some (l2,i3))))
def KB:Hn Tryz.prog := .cl MU [] (.tw 10 (.perb 2 3 (.cons (.sl Yq2) (.one Yq2)) .nil) (.jn [] ⟨[],[bkC 2 132 [.own 3 Yq2,.dat Yq2]]⟩ [2,0] (.lp ⟨[kdI 15],[bkC 2 132 [.own 3 Yq2,.dat Yq2]]⟩ (.tw 16 (.mix [([0,1,2,3,4,5,6,7,8],9),([],10)] [11,12] [13] [4] (.mix [] [0,1,2,3,4,5,6,7,8,9,10] [11] [] .nil)) .nil)) (.per 4 5 (.perb 2 6 (.cons (.sl Yq2) (.one Yq2)) .nil))))
def KX:Spec:=⟨38,⟨[(0,.dat Yq1)],[]⟩,[⟨[(0,.dat cC)],[]⟩],fun x=>dm x⟩
def zY:OkSpec Tryz.prog:=⟨KX,ae func38 KB (by kernel_rfl) (by kernel_rfl),call38⟩

def eM (xa:(Option aQ)):Option Int :=
 cond (xa.isNone) (some (0)) (xa.bind fun y11=>some (y11.2))
def JH:Hn Tryz.prog := .tw 4 .nil .nil
def Jj:Spec:=⟨39,⟨[(0,.dat cC)],[]⟩,[⟨[kdI 0],[]⟩],fun x=>eM x⟩
def pE:OkSpec Tryz.prog:=⟨Jj,ae func39 JH (by kernel_rfl) (by kernel_rfl),call39⟩

def mO (xa:Tq3):Option (Tq4) :=
 (cond (decide (xa.1=1)) (some (decide (xa.1=1))) (cond (decide (xa.1=2)) (some (decide (xa.1=2))) (some (decide (xa.1=3)))):Option Bool).bind fun t37=>cond (t37) (some ((([xa.2.2.1]:List Int),([xa.2.1]:List Int)))) (cond (decide (xa.1=4)) (some ((([xa.2.2.1]:List Int),[]))) (cond (decide (xa.1=5)) (some (([],([xa.2.1]:List Int)))) (some (([],[])))))
def Ll:Hn Tryz.prog := .pl (.pl (.pl (.sq [] ⟨[kdB 5],[]⟩ [] (.tw 5 .nil (.tw 5 .nil .nil)) (.tw 5 .nil (.tw 16 .nil (.tw 22 .nil .nil))))))
def Nf:Spec:=⟨41,⟨[(0,.dat Yq6)],[]⟩,[⟨[(0,.agg [.own 3 Yq2,.own 3 Yq2])],[]⟩],fun x=>mO x⟩
def I4:OkSpec Tryz.prog:=⟨Nf,ae func41 Ll (by kernel_rfl) (by kernel_rfl),call41⟩
def fn_touch_Touches_add_p0arr_nod_l1 (l1:List Int):(Int×(List Tq4))→Option ((Int×(List Tq4))⊕(List Tq4)):=fun (i2,l3)=>cond (decide (i2 < (l1.length:Int))) ((aa l1 i2).bind fun x4=>(aa l3 x4).bind fun x5=>(aa l3 x4).bind fun _=>(bV x4 x4).bind fun _=>(app x5.1 ([0]:List Int)).bind fun z6=>(aa l3 x4).bind fun _=>(bV x4 x4).bind fun _=>some (.inl ((IntKind.wrap .i64 (i2 + 1),l3.set x4.toNat (z6,x5.2))))) (some (.inr (l3)))
def jL (qa0:(List Tq4)) (l1:List Int):(Int×(List Tq4))→Option ((Int×(List Tq4))⊕(List Tq4)):=fun (i2,l3)=>cond (decide (i2 < (l1.length:Int))) ((aa l1 i2).bind fun x4=>(aa l3 x4).bind fun x5=>(aa l3 x4).bind fun _=>(bV x4 x4).bind fun _=>(app x5.1 (([(qa0.length:Int)]:List Int))).bind fun z6=>(aa l3 x4).bind fun _=>(bV x4 x4).bind fun _=>some (.inl ((IntKind.wrap .i64 (i2 + 1),l3.set x4.toNat (z6,x5.2))))) (some (.inr (l3)))
def jM (qxb_1:(List Int)) (qa0:(List Tq4)):(Int×(List Tq4))→Option ((Int×(List Tq4))⊕(List Tq4)):=fun (i1,l2)=>cond (decide (i1 < (qxb_1.length:Int))) ((aa qxb_1 i1).bind fun x3=>(aa l2 x3).bind fun x4=>(aa l2 x3).bind fun _=>(bV x3 x3).bind fun _=>(app x4.2 (([(qa0.length:Int)]:List Int))).bind fun z5=>(aa l2 x3).bind fun _=>(bV x3 x3).bind fun _=>some (.inl ((IntKind.wrap .i64 (i1 + 1),l2.set x3.toNat (x4.1,z5))))) (some (.inr (l2)))
def ib (qxb_0:(List Int)) (qxb_1:(List Int)) (qa0:(List Tq4)) (qa1:(List Tq4)):Option (hY) :=
 (srt qxb_0).bind fun l2=>(jw l2).bind fun l3=>(app qa0 (([(l3,qxb_1)]:List Tq4))).bind fun z4=>(loop (jL qa0 l3) (0,qa1)).bind fun l5=>(loop (jM qxb_1 qa0) (0,l5)).bind fun l6=>some ((z4,l6))
def I6:Hn Tryz.prog := .cl xV [] (.cl vl [] (.per 16 17 (.per 3 4 (.mix [([0,1,2,3,4,5],6),([],7)] [8,9] [10] [5] (.jn [] ⟨[],[bkO 7 (.row 109 (.cons (.row 3 (.dat Yq2)) (.one (.row 3 (.dat Yq2)))))]⟩ [7] (.lp ⟨[kdI 34],[bkO 7 (.row 109 (.cons (.row 3 (.dat Yq2)) (.one (.row 3 (.dat Yq2)))))]⟩ (.tw 35 (.opp [9] 7 47 (.mix [([0,1,2,3,4,5,6,7,8,9,10,11,12,13],14),([],15)] [16,17] [18] [26] (.cls 7 34 .nil))) .nil)) (.jn [] ⟨[],[bkO 7 (.row 109 (.cons (.row 3 (.dat Yq2)) (.one (.row 3 (.dat Yq2)))))]⟩ [10,7] (.lp ⟨[kdI 60],[bkO 7 (.row 109 (.cons (.row 3 (.dat Yq2)) (.one (.row 3 (.dat Yq2)))))]⟩ (.tw 61 (.opp [9] 7 73 (.mix [([0,1,2,3,4,5,6,7,8,9,10,11,12,13],14),([],15)] [16,17] [18] [29] (.cls 7 35 .nil))) .nil)) .nil))))))
def Ma:Spec:=⟨40,⟨[(0,.ptr 0 0),(1,.agg [.own 3 Yq2,.own 3 Yq2])],[bkN 89 [.own 94 Yq4,.od (.row 109 (.cons (.row 3 (.dat Yq2)) (.one (.row 3 (.dat Yq2)))))]]⟩,[⟨[],[bkC 0 89 [.own 94 Yq4,.od (.row 109 (.cons (.row 3 (.dat Yq2)) (.one (.row 3 (.dat Yq2)))))]]⟩],fun x=>ib x.1 x.2.1 x.2.2.1 x.2.2.2⟩
def zE:OkSpec Tryz.prog:=⟨Ma,ae func40 I6 (by kernel_rfl) (by kernel_rfl),call40⟩

def bP (xa:(List Int)):Option (List Int) :=
 dd xa (some ([])) ((app ([]:List Int) xa).bind fun z21=>some (z21))
def Lg:Hn Tryz.prog := .two 4 .nil .nil
def MN:Spec:=⟨49,⟨[(0,.dat (.sl Yq2))],[]⟩,[⟨[(0,.own 3 Yq2)],[]⟩],fun x=>bP x⟩
def er:OkSpec Tryz.prog:=⟨MN,ae func49 Lg (by kernel_rfl) (by kernel_rfl),call49⟩

def mP (xa:Tq6):Option (Tq4) :=
 cond (decide (xa.1=2)) ((bP xa.2.2.2.2.1).bind fun l1=>some ((l1,[]))) (cond (decide (xa.1=4)) ((((bP xa.2.2.2.2.1).bind fun l2=>some ((l2,([xa.2.2.1]:List Int)))).bind fun x3=>((bP xa.2.2.2.2.1).bind fun l4=>some ((l4,([xa.2.2.1]:List Int)))).bind fun y5=>agr x3 y5 (some x3):Option (Tq4)).bind fun (l6,l7)=>some ((l6,l7))) (cond (decide (xa.1=3)) (some ((([0]:List Int),[]))) (some (([],[])))))
def KD:Hn Tryz.prog := .tw 5 (.cl er [] .nil) (.tw 11 (.tr (.still [0,1,3,4] (.alt 2 (.alt 5 (.still [6] (.alt 7 (.leaf []) .done)) .done) (.alt 5 (.alt 2 (.still [6] (.alt 7 (.leaf []) .done)) .done) .done))) ⟨[],[bkC 2 94 [.own 3 Yq2,.own 3 Yq2]]⟩ [2] (.two 0 (.cl er [] .nil) (.cl er [] .nil)) .nil) (.tw 20 .nil .nil))
def L6:Spec:=⟨42,⟨[(0,.dat db)],[]⟩,[⟨[(0,.agg [.own 3 Yq2,.own 3 Yq2])],[]⟩],fun x=>mP x⟩
def Kk:OkSpec Tryz.prog:=⟨L6,ae func42 KD (by kernel_rfl) (by kernel_rfl),call42⟩
def kg (x1:((List Tq3)×Tq6)):(Int×(List Tq4)×(List Tq4))→Option ((Int×(List Tq4)×(List Tq4))⊕hY):=fun (i2,l3,l4)=>cond (decide (i2 < (x1.1.length:Int))) ((aa x1.1 i2).bind fun x5=>(mO (x5.1,x5.2.1,x5.2.2.1,x5.2.2.2.1,x5.2.2.2.2)).bind fun (l6,l7)=>(ib l6 l7 l3 l4).bind fun (l8,l9)=>some (.inl ((IntKind.wrap .i64 (i2 + 1),l8,l9)))) (some (.inr (((l3,l4)))))
def km (xa:Tq1):(Int×(List Tq4)×(List Tq4))→Option ((Int×(List Tq4)×(List Tq4))⊕hY):=fun (i1,l2,l3)=>cond (decide (i1 < (xa.2.2.2.2.2.2.length:Int))) ((aa xa.2.2.2.2.2.2 i1).bind fun x4=>(loop (kg x4) (0,l2,l3)).bind fun (l5,l6)=>(mP (x4.2.1,x4.2.2.1,x4.2.2.2.1,x4.2.2.2.2.1,x4.2.2.2.2.2.1,x4.2.2.2.2.2.2)).bind fun (l7,l8)=>(ib l7 l8 l5 l6).bind fun (l9,l10)=>some (.inl ((IntKind.wrap .i64 (i1 + 1),l9,l10)))) (some (.inr (((l2,l3)))))
def eU (xa:Tq1):Option ((Option hY)) :=
 (dm xa).bind fun p1=>(eM p1).bind fun i2=>cond (decide (i2=0)) (some ((some ([],[])))) ((mk (xa.2.2.2.1.length:Int) (xa.2.2.2.1.length:Int) ([],[]):Option (List Tq4)).bind fun z3=>(loop (km xa) (0,[],z3)).bind fun (l4,l5)=>some ((some (l4,l5))))
def Mq:Hn Tryz.prog := .cl zY [] (.cl pE [] (.tw 13 (.perb 2 3 (.cons (.sl Yq4) (.one (.sl Yq4))) .nil) (.ot (.cons (.row 3 (.dat Yq2)) (.one (.row 3 (.dat Yq2)))) (.jn [] ⟨[],[bkC 2 89 [.own 94 Yq4,.od (.row 109 (.cons (.row 3 (.dat Yq2)) (.one (.row 3 (.dat Yq2)))))]]⟩ [2,4,0] (.lp ⟨[kdI 25],[bkC 2 89 [.own 94 Yq4,.od (.row 109 (.cons (.row 3 (.dat Yq2)) (.one (.row 3 (.dat Yq2)))))]]⟩ (.tw 26 (.pl (.pl (.jn [] ⟨[],[bkC 2 89 [.own 94 Yq4,.od (.row 109 (.cons (.row 3 (.dat Yq2)) (.one (.row 3 (.dat Yq2)))))]]⟩ [2,7,9] (.lp ⟨[kdI 32],[bkC 2 89 [.own 94 Yq4,.od (.row 109 (.cons (.row 3 (.dat Yq2)) (.one (.row 3 (.dat Yq2)))))]]⟩ (.tw 33 (.cl I4 [] (.cl zE [] .nil)) .nil)) (.cl Kk [] (.cl zE [] .nil))))) .nil)) (.per 7 8 (.per 9 10 (.perb 2 11 (.cons (.sl Yq4) (.one (.sl Yq4))) .nil)))))))
def Kq:Spec:=⟨22,⟨[(0,.dat Yq1)],[]⟩,[⟨[(0,.dat (.ptr (.cons (.sl Yq4) (.one (.sl Yq4)))))],[]⟩],fun x=>eU x⟩
def Lq:OkSpec Tryz.prog:=⟨Kq,ae func22 Mq (by kernel_rfl) (by kernel_rfl),call22⟩

def qb (xa:(Option hY)):Option Int :=
 cond (xa.isNone) (some (0)) (xa.bind fun y14=>some (y14.1.length:Int))
def KS:Hn Tryz.prog := .tw 4 .nil .nil
def Md:Spec:=⟨23,⟨[(0,.dat (.ptr (.cons (.sl Yq4) (.one (.sl Yq4)))))],[]⟩,[⟨[kdI 0],[]⟩],fun x=>qb x⟩
def LB:OkSpec Tryz.prog:=⟨Md,ae func23 KS (by kernel_rfl) (by kernel_rfl),call23⟩

def mg (xa:(Option aQ)):Option (List Int) :=
 cond (xa.isNone) (some ([])) (xa.bind fun y29=>(bP y29.1).bind fun l41=>some (l41))
def K4:Hn Tryz.prog := .tw 4 .nil (.cl er [] .nil)
def LQ:Spec:=⟨44,⟨[(0,.dat cC)],[]⟩,[⟨[(0,.own 3 Yq2)],[]⟩],fun x=>mg x⟩
def Ka:OkSpec Tryz.prog:=⟨LQ,ae func44 K4 (by kernel_rfl) (by kernel_rfl),call44⟩

def pY (xa:Int) (qa0:(Option aQ)) (qb0:Int):Option Bool :=
 qa0.bind fun y1=>(aa y1.1 xa).bind fun x2=>some (decide (qb0 < x2))
def Mi:Hn Tryz.prog := .mix [] [0,1,2,3,4,5,6,7,8,9] [] [] .nil
def KG:Spec:=⟨71,⟨[kdI 0,(1,.ptr 0 0),(2,.ptr 1 0)],[bkN 90 [.is 2 (.dat cC)],bkN 3 [.is 3 (.dat Yq2)],bkM,bkM]⟩,[⟨[kdB 0],[bkC 0 90 [.is 2 (.any)],bkC 1 3 [.is 3 (.any)],bkU 2,bkU 3]⟩],fun x=>pY x.1 x.2.1 x.2.2⟩
def JL:OkSpec Tryz.prog:=⟨KG,ae func71 Mi (by kernel_rfl) (by kernel_rfl),call71⟩
def pV (qa0:(Option aQ)) (qb0:Int):bw→Option (bw⊕Int):=fun (i1,i2)=>cond (decide (i1 < i2)) ((pY (IntKind.wrap .i64 (Int.fdiv (IntKind.wrap .u64 (IntKind.wrap .i64 (i1 + i2))) (2 ^ (min (Int.toNat 1) (IntKind.bits .u64))))) qa0 qb0).bind fun t3=>cond (!t3) (some (.inl ((IntKind.wrap .i64 ((IntKind.wrap .i64 (Int.fdiv (IntKind.wrap .u64 (IntKind.wrap .i64 (i1 + i2))) (2 ^ (min (Int.toNat 1) (IntKind.bits .u64))))) + 1),i2)))) (some (.inl ((i1,IntKind.wrap .i64 (Int.fdiv (IntKind.wrap .u64 (IntKind.wrap .i64 (i1 + i2))) (2 ^ (min (Int.toNat 1) (IntKind.bits .u64))))))))) (some (.inr (i1)))
def lV (xa:Int) (qa0:(Option aQ)) (qb0:Int):Option Int :=
 (loop (pV qa0 qb0) (0,xa)).bind fun i97=>some (i97)
def Jl:Hn Tryz.prog := .jn [] ⟨[kdI 5],[bkC 0 90 [.is 2 (.any)],bkC 1 3 [.is 3 (.any)],bkU 2,bkU 3]⟩ [0,1] (.lp ⟨[kdI 5,kdI 6],[bkC 0 90 [.is 2 (.any)],bkC 1 3 [.is 3 (.any)],bkU 2,bkU 3]⟩ (.tw 11 (.cl JL [] (.tw 21 .nil .nil)) .nil)) .nil
def JR:Spec:=⟨70,⟨[kdI 0,(1,.fn 71 [.ptr 0 0,.ptr 1 0])],[bkN 90 [.is 2 (.dat cC)],bkN 3 [.is 3 (.dat Yq2)],bkM,bkM]⟩,[⟨[kdI 0],[bkC 0 90 [.is 2 (.any)],bkC 1 3 [.is 3 (.any)],bkU 2,bkU 3]⟩],fun x=>lV x.1 x.2.1 x.2.2⟩
def My:OkSpec Tryz.prog:=⟨JR,ae func70 Jl (by kernel_rfl) (by kernel_rfl),call70⟩

def jY (xa:(Option aQ)) (xb:Int):Option (Int×Int×Bool) :=
 cond (decide (xb < 0)) (some ((0,0,false))) ((eM xa).bind fun i1=>cond (decide (i1≤xb)) (some ((0,0,false))) (xa.bind fun y2=>(lV (y2.1.length:Int) (some y2) xb).bind fun i3=>(aa y2.1 (IntKind.wrap .i64 (i3 - 1))).bind fun x4=>some ((IntKind.wrap .i64 (i3 - 1),IntKind.wrap .i64 (xb - x4),true))))
def Jk:Hn Tryz.prog := .mix [([0,1,2,3,4],5)] [6,7] [] [] (.two 10 .nil (.cl pE [] (.tw 15 .nil (.wt 1000004 (.mc 0 0 1 (.mc 2 0 3 (.cl My [] (.mix [] [0,1,2,3,4,5,6,7,8,9,10,11,12] [] [] .nil))))))))
def JW:Spec:=⟨45,⟨[(0,.dat cC),kdI 1],[]⟩,[⟨[(0,.tup [.dat Yq2,.dat Yq2,.dat .bool])],[]⟩],fun x=>jY x.1 x.2⟩
def zK:OkSpec Tryz.prog:=⟨JW,ae func45 Jk (by kernel_rfl) (by kernel_rfl),call45⟩

def mo (xa:(Option aQ)) (xb:Int):Option Int :=
 xa.bind fun y26=>cond (decide ((IntKind.wrap .i64 (xb + 1)) < (y26.1.length:Int))) ((aa y26.1 (IntKind.wrap .i64 (xb + 1))).bind fun x41=>some (x41)) (some (y26.2))
def Mp:Hn Tryz.prog := .ms 0 (.tw 12 .nil .nil)
def Lt:Spec:=⟨72,⟨[(0,.dat cC),kdI 1],[]⟩,[⟨[kdI 0],[]⟩],fun x=>mo x.1 x.2⟩
def Ko:OkSpec Tryz.prog:=⟨Lt,ae func72 Mp (by kernel_rfl) (by kernel_rfl),call72⟩

def ml (xa:(Option aQ)) (xb:Int):Option Bool :=
 (jY xa xb).bind fun (i27,i28,t29)=>(cond (t29) ((mo xa i27).bind fun i44=>some (decide ((IntKind.wrap .i64 (xb + 1))=i44))) (some (false))).bind fun t40=>some (t40)
def MY:Hn Tryz.prog := .cl zK [] (.gj 6 ⟨[kdB 23],[]⟩ [] (.two 16 (.cl Ko [] .nil) .nil) .nil)
def Ky:Spec:=⟨46,⟨[(0,.dat cC),kdI 1],[]⟩,[⟨[kdB 0],[]⟩],fun x=>ml x.1 x.2⟩
def Mo:OkSpec Tryz.prog:=⟨Ky,ae func46 MY (by kernel_rfl) (by kernel_rfl),call46⟩
def mL (xa:Tq6) (xb:(List Int)):aQ→Option (aQ⊕(List Int)):=fun (l1,i2)=>cond (decide (i2 < (xa.2.2.2.1.length:Int))) ((aa xa.2.2.2.1 i2).bind fun x3=>(aa xb x3).bind fun x4=>(app l1 ([x4]:List Int)).bind fun z5=>some (.inl ((z5,IntKind.wrap .i64 (i2 + 1))))) (some (.inr (l1)))
def kz (xa:Tq6) (xb:(List Int)):Option (List Int) :=
 (loop (mL xa xb) ([],0)).bind fun l1=>(srt l1).bind fun l2=>(jw l2).bind fun l3=>some (l3)
def J2:Hn Tryz.prog := .jn [] ⟨[(5,.own 3 Yq2)],[]⟩ [0] (.lp ⟨[(5,.own 3 Yq2),kdI 11],[]⟩ (.tw 12 .nil .nil)) (.cl xV [] (.cl vl [] .nil))
def KQ:Spec:=⟨47,⟨[(0,.dat db),(1,.dat (.sl Yq2))],[]⟩,[⟨[(0,.own 3 Yq2)],[]⟩],fun x=>kz x.1 x.2⟩
def LT:OkSpec Tryz.prog:=⟨KQ,ae func47 J2 (by kernel_rfl) (by kernel_rfl),call47⟩

def pW (xa:Tq5):Option (Tq5) :=
 dd xa (some ([])) ((app (([]:List bw)) xa).bind fun z21=>some (z21))
def M7:Hn Tryz.prog := .two 4 .nil .nil
def Nb:Spec:=⟨73,⟨[(0,.dat Yq5)],[]⟩,[⟨[(0,.own 102 cM)],[]⟩],fun x=>pW x⟩
def KT:OkSpec Tryz.prog:=⟨Nb,ae func73 M7 (by kernel_rfl) (by kernel_rfl),call73⟩

def qv (xa:bw):Option Int :=
 some (xa.1)
def Lh:Hn Tryz.prog := .nil
def Ni:Spec:=⟨75,⟨[(0,.dat cM)],[]⟩,[⟨[kdI 0],[]⟩],fun x=>qv x⟩
def Ah:OkSpec Tryz.prog:=⟨Ni,ae func75 Lh (by kernel_rfl) (by kernel_rfl),call75⟩
def Al (xb:Tq5):Tq7→Option (Tq7⊕(List Int)):=fun (i1,l2)=>cond (decide (i1 < (xb.length:Int))) ((aa xb i1).bind fun x3=>(qv (x3.1,x3.2)).bind fun i4=>(aa l2 (IntKind.wrap .i64 (i4 + 1))).bind fun x5=>(aa l2 (IntKind.wrap .i64 (i4 + 1))).bind fun x6=>(some (l2.set (IntKind.wrap .i64 (i4 + 1)).toNat (IntKind.wrap .i64 (x5 + 1)))).bind fun z7=>some (.inl ((IntKind.wrap .i64 (i1 + 1),z7)))) (some (.inr (l2)))
def Ak (xa:Int):Tq7→Option (Tq7⊕(List Int)):=fun (i1,l2)=>cond (decide (i1 < xa)) ((aa l2 (IntKind.wrap .i64 (i1 + 1))).bind fun x3=>(aa l2 i1).bind fun x4=>(aa l2 (IntKind.wrap .i64 (i1 + 1))).bind fun x5=>(some (l2.set (IntKind.wrap .i64 (i1 + 1)).toNat (IntKind.wrap .i64 (x3 + x4)))).bind fun z6=>some (.inl ((IntKind.wrap .i64 (i1 + 1),z6)))) (some (.inr (l2)))
def Ai (xb:Tq5):((List Int)×Int×(List Int))→Option (((List Int)×Int×(List Int))⊕(List Int)):=fun (l1,i2,l3)=>cond (decide (i2 < (xb.length:Int))) ((aa xb i2).bind fun x4=>(qv (x4.1,x4.2)).bind fun i5=>(aa l1 i5).bind fun x6=>(aa l3 x6).bind fun x7=>(some (l3.set x6.toNat i2)).bind fun z8=>(aa l1 i5).bind fun x9=>(aa l1 i5).bind fun x10=>(some (l1.set i5.toNat (IntKind.wrap .i64 (x9 + 1)))).bind fun z11=>some (.inl ((z11,IntKind.wrap .i64 (i2 + 1),z8)))) (some (.inr (l3)))
def lY (xa:Int) (xb:Tq5):Option (Tq4) :=
 (((mk (IntKind.wrap .i64 (xa + 1)) (IntKind.wrap .i64 (xa + 1)) 0:Option (List Int)).bind fun z1=>((mk (xb.length:Int) (xb.length:Int) 0:Option (List Int)).bind fun z2=>some ((z1,z2))).bind fun x3=>((mk (xb.length:Int) (xb.length:Int) 0:Option (List Int)).bind fun z4=>some ((z1,z4))).bind fun y5=>agr x3 y5 (some x3)).bind fun x6=>(((mk (xb.length:Int) (xb.length:Int) 0:Option (List Int)).bind fun z7=>((mk (IntKind.wrap .i64 (xa + 1)) (IntKind.wrap .i64 (xa + 1)) 0:Option (List Int)).bind fun z8=>some ((z8,z7))).bind fun x9=>((mk (IntKind.wrap .i64 (xa + 1)) (IntKind.wrap .i64 (xa + 1)) 0:Option (List Int)).bind fun z10=>some ((z10,z7))).bind fun y11=>agr x9 y11 (some x9)).bind fun x12=>(((mk (IntKind.wrap .i64 (xa + 1)) (IntKind.wrap .i64 (xa + 1)) 0:Option (List Int)).bind fun z13=>(mk (xb.length:Int) (xb.length:Int) 0:Option (List Int)).bind fun z14=>some ((z13,z14))).bind fun x15=>((mk (xb.length:Int) (xb.length:Int) 0:Option (List Int)).bind fun z16=>(mk (IntKind.wrap .i64 (xa + 1)) (IntKind.wrap .i64 (xa + 1)) 0:Option (List Int)).bind fun z17=>some ((z17,z16))).bind fun y18=>agr x15 y18 (some x15)).bind fun y19=>agr x12 y19 (some x12)).bind fun y20=>agr x6 y20 (some x6):Option (Tq4)).bind fun (l21,l22)=>(loop (Al xb) (0,l21)).bind fun l23=>(loop (Ak xa) (0,l23)).bind fun l24=>(bP l24).bind fun l25=>(loop (Ai xb) (l25,0,l22)).bind fun l26=>some ((l24,l26))
def Ln:Hn Tryz.prog := .tr (.still [0,1,3,4] (.alt 2 (.alt 5 (.still [6] (.alt 7 (.alt 8 (.leaf []) .done) .done)) (.alt 7 (.alt 5 (.still [6] (.alt 8 (.leaf []) .done)) .done) .done)) (.alt 5 (.alt 2 (.still [6] (.alt 7 (.alt 8 (.leaf []) .done) .done)) (.alt 7 (.alt 2 (.still [6] (.alt 8 (.leaf []) .done)) .done) .done)) (.alt 7 (.alt 2 (.alt 5 (.still [6] (.alt 8 (.leaf []) .done)) .done) (.alt 5 (.alt 2 (.still [6] (.alt 8 (.leaf []) .done)) .done) .done)) .done)))) ⟨[(7,.ptr 0 0)],[bkN 140 [.own 3 Yq2,.own 3 Yq2]]⟩ [] (.two 0 (.two 0 .nil .nil) (.two 0 (.two 0 .nil .nil) (.two 0 .nil .nil))) (.jn [(2,1)] ⟨[],[bkC 2 140 [.own 3 Yq2,.is 1 (.any)],bkU 8]⟩ [2,3] (.lp ⟨[kdI 24],[bkC 2 140 [.own 3 Yq2,.is 1 (.any)],bkU 8]⟩ (.tw 25 (.mix [([0,1,2,3],4)] [5,6,7,8,9] [10] [] (.cl Ah [] .nil)) .nil)) (.jn [] ⟨[],[bkC 2 140 [.own 3 Yq2,.is 1 (.any)],bkU 8]⟩ [2,9] (.lp ⟨[kdI 40],[bkC 2 140 [.own 3 Yq2,.is 1 (.any)],bkU 8]⟩ (.tw 41 (.mix [] [0,1,2,3,4,5,6,7,8,9,10,11,12] [13] [] .nil) .nil)) (.per 12 13 (.cl er [] (.jn [(2,0)] ⟨[(59,.any),(11,.any)],[bkC 2 140 [.is 1 (.any),.own 3 Yq2],bkU 17]⟩ [15,2,5] (.lp ⟨[(11,.own 3 Yq2),kdI 62],[bkC 2 140 [.is 1 (.any),.own 3 Yq2],bkU 17]⟩ (.tw 63 (.cl Ah [] (.mix [] [0,1,2,3,4,5,6,7] [8] [] .nil)) .nil)) .nil)))))
def Ks:Spec:=⟨74,⟨[kdI 0,(1,.dat Yq5),(2,.fn 75 [])],[]⟩,[⟨[(0,.agg [.dat (.sl Yq2),.own 3 Yq2])],[]⟩],fun x=>lY x.1 x.2⟩
def KR:OkSpec Tryz.prog:=⟨Ks,ae func74 Ln (by kernel_rfl) (by kernel_rfl),call74⟩

def qu (xa:bw):Option Int :=
 some (xa.2)
def Nc:Hn Tryz.prog := .nil
def IY:Spec:=⟨76,⟨[(0,.dat cM)],[]⟩,[⟨[kdI 0],[]⟩],fun x=>qu x⟩
def zU:OkSpec Tryz.prog:=⟨IY,ae func76 Nc (by kernel_rfl) (by kernel_rfl),call76⟩
def Am (xb:Tq5):Tq7→Option (Tq7⊕(List Int)):=fun (i1,l2)=>cond (decide (i1 < (xb.length:Int))) ((aa xb i1).bind fun x3=>(qu (x3.1,x3.2)).bind fun i4=>(aa l2 (IntKind.wrap .i64 (i4 + 1))).bind fun x5=>(aa l2 (IntKind.wrap .i64 (i4 + 1))).bind fun x6=>(some (l2.set (IntKind.wrap .i64 (i4 + 1)).toNat (IntKind.wrap .i64 (x5 + 1)))).bind fun z7=>some (.inl ((IntKind.wrap .i64 (i1 + 1),z7)))) (some (.inr (l2)))
def An (xa:Int):Tq7→Option (Tq7⊕(List Int)):=fun (i1,l2)=>cond (decide (i1 < xa)) ((aa l2 (IntKind.wrap .i64 (i1 + 1))).bind fun x3=>(aa l2 i1).bind fun x4=>(aa l2 (IntKind.wrap .i64 (i1 + 1))).bind fun x5=>(some (l2.set (IntKind.wrap .i64 (i1 + 1)).toNat (IntKind.wrap .i64 (x3 + x4)))).bind fun z6=>some (.inl ((IntKind.wrap .i64 (i1 + 1),z6)))) (some (.inr (l2)))
def Aj (xb:Tq5):((List Int)×Int×(List Int))→Option (((List Int)×Int×(List Int))⊕(List Int)):=fun (l1,i2,l3)=>cond (decide (i2 < (xb.length:Int))) ((aa xb i2).bind fun x4=>(qu (x4.1,x4.2)).bind fun i5=>(aa l1 i5).bind fun x6=>(aa l3 x6).bind fun x7=>(some (l3.set x6.toNat i2)).bind fun z8=>(aa l1 i5).bind fun x9=>(aa l1 i5).bind fun x10=>(some (l1.set i5.toNat (IntKind.wrap .i64 (x9 + 1)))).bind fun z11=>some (.inl ((z11,IntKind.wrap .i64 (i2 + 1),z8)))) (some (.inr (l3)))
def lZ (xa:Int) (xb:Tq5):Option (Tq4) :=
 (((mk (IntKind.wrap .i64 (xa + 1)) (IntKind.wrap .i64 (xa + 1)) 0:Option (List Int)).bind fun z1=>((mk (xb.length:Int) (xb.length:Int) 0:Option (List Int)).bind fun z2=>some ((z1,z2))).bind fun x3=>((mk (xb.length:Int) (xb.length:Int) 0:Option (List Int)).bind fun z4=>some ((z1,z4))).bind fun y5=>agr x3 y5 (some x3)).bind fun x6=>(((mk (xb.length:Int) (xb.length:Int) 0:Option (List Int)).bind fun z7=>((mk (IntKind.wrap .i64 (xa + 1)) (IntKind.wrap .i64 (xa + 1)) 0:Option (List Int)).bind fun z8=>some ((z8,z7))).bind fun x9=>((mk (IntKind.wrap .i64 (xa + 1)) (IntKind.wrap .i64 (xa + 1)) 0:Option (List Int)).bind fun z10=>some ((z10,z7))).bind fun y11=>agr x9 y11 (some x9)).bind fun x12=>(((mk (IntKind.wrap .i64 (xa + 1)) (IntKind.wrap .i64 (xa + 1)) 0:Option (List Int)).bind fun z13=>(mk (xb.length:Int) (xb.length:Int) 0:Option (List Int)).bind fun z14=>some ((z13,z14))).bind fun x15=>((mk (xb.length:Int) (xb.length:Int) 0:Option (List Int)).bind fun z16=>(mk (IntKind.wrap .i64 (xa + 1)) (IntKind.wrap .i64 (xa + 1)) 0:Option (List Int)).bind fun z17=>some ((z17,z16))).bind fun y18=>agr x15 y18 (some x15)).bind fun y19=>agr x12 y19 (some x12)).bind fun y20=>agr x6 y20 (some x6):Option (Tq4)).bind fun (l21,l22)=>(loop (Am xb) (0,l21)).bind fun l23=>(loop (An xa) (0,l23)).bind fun l24=>(bP l24).bind fun l25=>(loop (Aj xb) (l25,0,l22)).bind fun l26=>some ((l24,l26))
def LS:Hn Tryz.prog := .tr (.still [0,1,3,4] (.alt 2 (.alt 5 (.still [6] (.alt 7 (.alt 8 (.leaf []) .done) .done)) (.alt 7 (.alt 5 (.still [6] (.alt 8 (.leaf []) .done)) .done) .done)) (.alt 5 (.alt 2 (.still [6] (.alt 7 (.alt 8 (.leaf []) .done) .done)) (.alt 7 (.alt 2 (.still [6] (.alt 8 (.leaf []) .done)) .done) .done)) (.alt 7 (.alt 2 (.alt 5 (.still [6] (.alt 8 (.leaf []) .done)) .done) (.alt 5 (.alt 2 (.still [6] (.alt 8 (.leaf []) .done)) .done) .done)) .done)))) ⟨[(7,.ptr 0 0)],[bkN 140 [.own 3 Yq2,.own 3 Yq2]]⟩ [] (.two 0 (.two 0 .nil .nil) (.two 0 (.two 0 .nil .nil) (.two 0 .nil .nil))) (.jn [(2,1)] ⟨[],[bkC 2 140 [.own 3 Yq2,.is 1 (.any)],bkU 8]⟩ [2,3] (.lp ⟨[kdI 24],[bkC 2 140 [.own 3 Yq2,.is 1 (.any)],bkU 8]⟩ (.tw 25 (.mix [([0,1,2,3],4)] [5,6,7,8,9] [10] [] (.cl zU [] .nil)) .nil)) (.jn [] ⟨[],[bkC 2 140 [.own 3 Yq2,.is 1 (.any)],bkU 8]⟩ [2,9] (.lp ⟨[kdI 40],[bkC 2 140 [.own 3 Yq2,.is 1 (.any)],bkU 8]⟩ (.tw 41 (.mix [] [0,1,2,3,4,5,6,7,8,9,10,11,12] [13] [] .nil) .nil)) (.per 12 13 (.cl er [] (.jn [(2,0)] ⟨[(59,.any),(11,.any)],[bkC 2 140 [.is 1 (.any),.own 3 Yq2],bkU 17]⟩ [15,2,5] (.lp ⟨[(11,.own 3 Yq2),kdI 62],[bkC 2 140 [.is 1 (.any),.own 3 Yq2],bkU 17]⟩ (.tw 63 (.cl zU [] (.mix [] [0,1,2,3,4,5,6,7] [8] [] .nil)) .nil)) .nil)))))
def Li:Spec:=⟨74,⟨[kdI 0,(1,.dat Yq5),(2,.fn 76 [])],[]⟩,[⟨[(0,.agg [.dat (.sl Yq2),.own 3 Yq2])],[]⟩],fun x=>lZ x.1 x.2⟩
def Ly:OkSpec Tryz.prog:=⟨Li,ae func74 LS (by kernel_rfl) (by kernel_rfl),call74⟩
def mQ (xa:Int) (xb:Tq5):Int→Option (Int⊕(Unit⊕(cq×Int))):=fun i1=>cond (decide (i1 < (xb.length:Int))) ((aa xb i1).bind fun x2=>cond ((((decide (x2.1 < 0))||(decide (xa≤x2.1)))||(decide (x2.2 < 0)))||(decide (xa≤x2.2))) (some (.inr ((.inr ((none,7)))))) (some (.inl (IntKind.wrap .i64 (i1 + 1))))) (some (.inr ((.inl ()))))
def kB (xa:Int) (xb:Tq5):Option ((cq×Int)) :=
 cond (decide (xa < 0)) (some ((none,2))) (cond ((decide (1048576 < xa))||(decide (67108864 < (xb.length:Int)))) (some ((none,5))) ((loop (mQ xa xb) 0).bind fun o=>match o with | .inr r=>some r | .inl ()=>(pW xb).bind fun l1=>(lY xa l1).bind fun (l2,l3)=>(lZ xa l1).bind fun (l4,l5)=>some (((some ((xa,l1,(l2,l3),(l4,l5)))),0))))
def JS:Hn Tryz.prog := .tw 10 .nil (.wt 13 (.gp 3 (.tw 17 .nil (.jx [] ⟨[],[]⟩ [] (.lp ⟨[kdI 20],[]⟩ (.tw 21 (.wt 27 (.gp 4 (.wt 33 (.gp 3 (.wt 38 (.gp 4 (.tw 43 .nil .nil))))))) .nil)) (.cl KT [] (.per 0 1 (.cl KR [] (.cl Ly [] (.per 4 5 (.per 7 8 (.perb 2 9 (.cons Yq2 (.cons Yq5 (.cons Yq4 (.one Yq4)))) .nil)))))))))))
def MQ:Spec:=⟨48,⟨[kdI 0,(1,.dat Yq5)],[]⟩,[⟨[(0,.tup [.dat Yq9,.dat Yq2])],[]⟩],fun x=>kB x.1 x.2⟩
def Je:OkSpec Tryz.prog:=⟨MQ,ae func48 JS (by kernel_rfl) (by kernel_rfl),call48⟩
def mS (i1:Int) (l2:(List Int)):(Tq5×Int)→Option ((Tq5×Int)⊕Tq5):=fun (l3,i4)=>cond (decide (i4 < (l2.length:Int))) ((aa l2 i4).bind fun x5=>(app l3 (([(i1,x5)]:List bw))).bind fun z6=>some (.inl ((z6,IntKind.wrap .i64 (i4 + 1))))) (some (.inr (l3)))
def ku (xa:Tq1) (p1:(Option aQ)) (l2:(List Int)) (i3:Int):(Tq5×Int)→Option ((Tq5×Int)⊕Tq5):=fun (l4,i5)=>cond (decide (i5 < i3)) ((jY p1 i5).bind fun (i6,i7,t8)=>((ml p1 i5).bind fun t9=>cond (t9) ((aa xa.2.2.2.2.2.2 i6).bind fun x10=>(kz (x10.2.1,x10.2.2.1,x10.2.2.2.1,x10.2.2.2.2.1,x10.2.2.2.2.2.1,x10.2.2.2.2.2.2) l2).bind fun l11=>some (l11)) (some (([IntKind.wrap .i64 (i5 + 1)]:List Int))):Option (List Int)).bind fun l12=>(loop (mS i5 l12) (l4,0)).bind fun l13=>some (.inl ((l13,IntKind.wrap .i64 (i5 + 1))))) (some (.inr (l4)))
def kC (xa:Tq1):Option ((Option ((Option aQ)×cq))) :=
 (dm xa).bind fun p1=>(mg p1).bind fun l2=>(eM p1).bind fun i3=>(loop (ku xa p1 l2 i3) ([],0)).bind fun l4=>(eM p1).bind fun i5=>(kB i5 l4).bind fun (p6,i7)=>some ((some (p1,p6)))
def I5:Hn Tryz.prog := .cl zY [] (.cl Ka [] (.cl pE [] (.per 2 3 (.jn [] ⟨[(5,.own 102 cM)],[]⟩ [] (.lp ⟨[(5,.own 102 cM),kdI 21],[]⟩ (.tw 22 (.cl zK [] (.pl (.sq [] ⟨[(10,.own 3 Yq2)],[]⟩ [6] (.cl Mo [] (.tw 36 (.cl LT [] .nil) .nil)) (.jn [] ⟨[(5,.own 102 cM)],[]⟩ [4] (.lp ⟨[(5,.own 102 cM),kdI 47],[]⟩ (.tw 48 .nil .nil)) .nil)))) .nil)) (.cl pE [] (.per 4 5 (.cl Je [] (.perb 6 7 (.cons cC (.one Yq9)) .nil))))))))
def LE:Spec:=⟨26,⟨[(0,.dat Yq1)],[]⟩,[⟨[(0,.dat (.ptr (.cons cC (.one Yq9))))],[]⟩],fun x=>kC x⟩
def Jt:OkSpec Tryz.prog:=⟨LE,ae func26 I5 (by kernel_rfl) (by kernel_rfl),call26⟩

def qh (xa:(Option ((Option aQ)×cq))):Option (cq) :=
 cond (xa.isNone) (some (none)) (xa.bind fun y15=>some (y15.2))
def Nl:Hn Tryz.prog := .tw 4 .nil .nil
def LO:Spec:=⟨67,⟨[(0,.dat (.ptr (.cons cC (.one Yq9))))],[]⟩,[⟨[(0,.dat Yq9)],[]⟩],fun x=>qh x⟩
def Mf:OkSpec Tryz.prog:=⟨LO,ae func67 Nl (by kernel_rfl) (by kernel_rfl),call67⟩

def p9 (xa:cq):Option Int :=
 cond (xa.isNone) (some (0)) (xa.bind fun y11=>some (y11.1))
def JE:Hn Tryz.prog := .tw 4 .nil .nil
def J7:Spec:=⟨130,⟨[(0,.dat Yq9)],[]⟩,[⟨[kdI 0],[]⟩],fun x=>p9 x⟩
def Nk:OkSpec Tryz.prog:=⟨J7,ae func130 JE (by kernel_rfl) (by kernel_rfl),call130⟩

def jR (xa:cq) (xb:Int):Option Bool :=
 (cond (decide (0≤xb)) ((p9 xa).bind fun i28=>some (decide (xb < i28))) (some (false))).bind fun t24=>some (t24)
def Im:Hn Tryz.prog := .gj 4 ⟨[kdB 12],[]⟩ [] (.two 7 (.cl Nk [] .nil) .nil) .nil
def HI:Spec:=⟨94,⟨[(0,.dat Yq9),kdI 1],[]⟩,[⟨[kdB 0],[]⟩],fun x=>jR x.1 x.2⟩
def IR:OkSpec Tryz.prog:=⟨HI,ae func94 Im (by kernel_rfl) (by kernel_rfl),call94⟩

def mF (xa:Tq4) (xb:Int):Option (List Int) :=
 (aa xa.1 xb).bind fun x1=>(aa xa.1 (IntKind.wrap .i64 (xb + 1))).bind fun x2=>(subL xa.2 x1 x2).bind fun y3=>some (y3)
def H7:Hn Tryz.prog := .mix [] [0,1,2,3,4,5,6,7,8,9,10,11,12,13,14] [] [] .nil
def Hy:Spec:=⟨95,⟨[(0,.dat Yq4),kdI 1],[]⟩,[⟨[(0,.dat (.sl Yq2))],[]⟩],fun x=>mF x.1 x.2⟩
def HS:OkSpec Tryz.prog:=⟨Hy,ae func95 H7 (by kernel_rfl) (by kernel_rfl),call95⟩

def mz (xa:cq) (xb:Int):Option (List Int) :=
 (jR xa xb).bind fun t48=>cond (!t48) (some ([])) (xa.bind fun y54=>(mF (y54.2.2.2.1,y54.2.2.2.2) xb).bind fun l70=>(bP l70).bind fun l79=>some (l79))
def Hg:Hn Tryz.prog := .cl IR [] (.tw 8 .nil (.cl HS [] (.cl er [] .nil)))
def IG:Spec:=⟨68,⟨[(0,.dat Yq9),kdI 1],[]⟩,[⟨[(0,.own 3 Yq2)],[]⟩],fun x=>mz x.1 x.2⟩
def GY:OkSpec Tryz.prog:=⟨IG,ae func68 Hg (by kernel_rfl) (by kernel_rfl),call68⟩

def qd (xa:cq):Option Int :=
 cond (xa.isNone) (some (0)) (xa.bind fun y14=>some (y14.2.1.length:Int))
def GT:Hn Tryz.prog := .tw 4 .nil .nil
def II:Spec:=⟨96,⟨[(0,.dat Yq9)],[]⟩,[⟨[kdI 0],[]⟩],fun x=>qd x⟩
def GO:OkSpec Tryz.prog:=⟨II,ae func96 GT (by kernel_rfl) (by kernel_rfl),call96⟩

def jV (xa:cq) (xb:Int):Option (Int×Int×Bool) :=
 (cond (decide (xb < 0)) (some (true)) ((qd xa).bind fun i52=>some (decide (i52≤xb)))).bind fun t48=>cond (t48) (some ((0,0,false))) (xa.bind fun y57=>(aa y57.2.1 xb).bind fun x67=>some ((x67.1,x67.2,true)))
def GA:Hn Tryz.prog := .gj 4 ⟨[kdB 13],[]⟩ [] (.two 8 .nil (.cl GO [] .nil)) (.tw 13 .nil .nil)
def Gz:Spec:=⟨69,⟨[(0,.dat Yq9),kdI 1],[]⟩,[⟨[(0,.tup [.agg [.dat Yq2,.dat Yq2],.dat .bool])],[]⟩],fun x=>jV x.1 x.2⟩
def GX:OkSpec Tryz.prog:=⟨Gz,ae func69 GA (by kernel_rfl) (by kernel_rfl),call69⟩
def mj (xa:(Option ((Option aQ)×cq))) (l1:(List Int)):aQ→Option (aQ⊕(List Int)):=fun (l2,i3)=>cond (decide (i3 < (l1.length:Int))) ((aa l2 i3).bind fun x4=>xa.bind fun y5=>(jV y5.2 x4).bind fun (i6,i7,t8)=>(aa l2 i3).bind fun x9=>(some (l2.set i3.toNat i6)).bind fun z10=>some (.inl ((z10,IntKind.wrap .i64 (i3 + 1))))) (some (.inr (l2)))
def mD (xa:(Option ((Option aQ)×cq))) (xb:Int):Option (List Int) :=
 (qh xa).bind fun p1=>(mz p1 xb).bind fun l2=>(loop (mj xa l2) (l2,0)).bind fun l3=>some (l3)
def G0:Hn Tryz.prog := .cl Mf [] (.cl GY [] (.jn [] ⟨[(5,.own 3 Yq2),(13,.any),(14,.any)],[]⟩ [0] (.lp ⟨[(5,.own 3 Yq2),(14,.al 0),kdI 16],[]⟩ (.tw 17 (.cl GX [] .nil) .nil)) .nil))
def Hh:Spec:=⟨43,⟨[(0,.dat (.ptr (.cons cC (.one Yq9)))),kdI 1],[]⟩,[⟨[(0,.own 3 Yq2)],[]⟩],fun x=>mD x.1 x.2⟩
def GG:OkSpec Tryz.prog:=⟨Hh,ae func43 G0 (by kernel_rfl) (by kernel_rfl),call43⟩
def mK (xa:(Option ((Option aQ)×cq))) (z1:List (List Int)):((List (List Int))×Int)→Option (((List (List Int))×Int)⊕(List (List Int))):=fun (l2,i3)=>cond (decide (i3 < (z1.length:Int))) ((mD xa i3).bind fun l4=>(aa l2 i3).bind fun x5=>(some (l2.set i3.toNat l4)).bind fun z6=>some (.inl ((z6,IntKind.wrap .i64 (i3 + 1))))) (some (.inr (l2)))
def m8 (xa:(Option ((Option aQ)×cq))) (xb:Int):Option ((List (List Int))) :=
 (mk xb xb ([]):Option (List (List Int))).bind fun z1=>(loop (mK xa z1) (z1,0)).bind fun l2=>some (l2)
def Ix:Hn Tryz.prog := .jn [] ⟨[(5,.own 43 (.sl Yq2)),(8,.any),(9,.any)],[]⟩ [0] (.lp ⟨[(5,.own 43 (.sl Yq2)),kdI 11],[]⟩ (.tw 12 (.cl GG [] (.per 4 5 .nil)) .nil)) .nil
def IK:Spec:=⟨25,⟨[(0,.dat (.ptr (.cons cC (.one Yq9)))),kdI 1],[]⟩,[⟨[(0,.own 43 (.sl Yq2))],[]⟩],fun x=>m8 x.1 x.2⟩
def He:OkSpec Tryz.prog:=⟨IK,ae func25 Ix (by kernel_rfl) (by kernel_rfl),call25⟩

def mn (xa:(Option hY)) (xb:Int):Option (Tq4) :=
 (cond (xa.isNone||(decide (xb < 0))) (some (true)) (xa.bind fun y1=>some (decide ((y1.2.length:Int)≤xb)))).bind fun t2=>cond (t2) (some (([],[]))) (xa.bind fun y3=>(aa y3.2 xb).bind fun x4=>(bP x4.1).bind fun l5=>(bP x4.2).bind fun l6=>some ((l5,l6)))
def HW:Hn Tryz.prog := .gp 2 (.wt 13 (.gj 7 ⟨[kdB 21],[]⟩ [] (.two 13 .nil .nil) (.tw 21 .nil (.mix [([0,1,3,4],2)] [] [5,6,7] [] (.cl er [] (.cl er [] .nil))))))
def GF:Spec:=⟨27,⟨[(0,.dat (.ptr (.cons (.sl Yq4) (.one (.sl Yq4))))),kdI 1],[]⟩,[⟨[(0,.tup [.own 3 Yq2,.own 3 Yq2])],[]⟩],fun x=>mn x.1 x.2⟩
def HL:OkSpec Tryz.prog:=⟨GF,ae func27 HW (by kernel_rfl) (by kernel_rfl),call27⟩

def gD (xa:Int):Option ((Int⊕(Int×Int×(List Int)))) :=
 cond (decide (xa < 0)) (some (.inl 2)) (cond (decide (1048576 < xa)) (some (.inl 5)) ((mk (IntKind.wrap .i64 (Int.tdiv (IntKind.wrap .i64 ((IntKind.wrap .i64 (xa + 64)) - 1)) 64)) (IntKind.wrap .i64 (Int.tdiv (IntKind.wrap .i64 ((IntKind.wrap .i64 (xa + 64)) - 1)) 64)) 0:Option (List Int)).bind fun z20=>some (.inr (0,xa,z20))))
def Iu:Hn Tryz.prog := .tw 5 .nil (.tw 7 .nil (.pl (.pl .nil)))
def Ht:Spec:=⟨50,⟨[kdI 0],[]⟩,[⟨[(0,.tup [.nilp,.dat Yq2])],[]⟩,⟨[(0,.tup [.ptr 0 0,.dat Yq2])],[bkN 121 [.dat Yq2,.own 122 (.int .u64)]]⟩],fun x=>gD x⟩
def tq:OkSpec Tryz.prog:=⟨Ht,ae func50 Iu (by kernel_rfl) (by kernel_rfl),call50⟩

def mA (xa:(Option Tq7)):Option Int :=
 cond (xa.isNone) (some (0)) (xa.bind fun y11=>some (y11.1))
def G2:Hn Tryz.prog := .tw 4 .nil .nil
def Hd:Spec:=⟨82,⟨[(0,.dat Yq8)],[]⟩,[⟨[kdI 0],[]⟩],fun x=>mA x⟩
def GH:OkSpec Tryz.prog:=⟨Hd,ae func82 G2 (by kernel_rfl) (by kernel_rfl),call82⟩

def eK (xa:(Option Tq7)) (xb:Int):Option Bool :=
 (cond (decide (0≤xb)) ((mA xa).bind fun i28=>some (decide (xb < i28))) (some (false))).bind fun t24=>some (t24)
def G3:Hn Tryz.prog := .gj 4 ⟨[kdB 12],[]⟩ [] (.two 7 (.cl GH [] .nil) .nil) .nil
def H6:Spec:=⟨56,⟨[(0,.dat Yq8),kdI 1],[]⟩,[⟨[kdB 0],[]⟩],fun x=>eK x.1 x.2⟩
def pp:OkSpec Tryz.prog:=⟨H6,ae func56 G3 (by kernel_rfl) (by kernel_rfl),call56⟩

def bZ (xa:(Option Tq7)) (xb:Int):Option Bool :=
 (eK xa xb).bind fun t1=>cond (t1) (xa.bind fun y2=>(aa y2.2 (IntKind.wrap .i64 (Int.tdiv xb 64))).bind fun x3=>(ge0 (Int.tmod xb 64)).bind fun u4=>some (!decide ((IntKind.wrap .u64 ((BitVec.ofInt (IntKind.bits .u64) x3 &&& BitVec.ofInt (IntKind.bits .u64) (IntKind.wrap .u64 (1 * 2 ^ (min (Int.toNat (Int.tmod xb 64)) (IntKind.bits .u64))))).toNat:Int))=0))) (some (false))
def G9:Hn Tryz.prog := .mix [([0,1],2)] [3,4,5,6,7,8,9,10,11,12,13,14,15,16,17,18] [] [] (.cl pp [] (.two 8 .nil .nil))
def H9:Spec:=⟨32,⟨[(0,.dat Yq8),kdI 1],[]⟩,[⟨[kdB 0],[]⟩],fun x=>bZ x.1 x.2⟩
def fx:OkSpec Tryz.prog:=⟨H9,ae func32 G9 (by kernel_rfl) (by kernel_rfl),call32⟩

def ii (xb:Int):Option Bool :=
 (eK ((none:(Option Tq7))) xb).bind fun t26=>(cond (!t26) (some (true)) ((bZ ((none:(Option Tq7))) xb).bind fun t41=>some (t41))).bind fun t37=>cond (t37) (some (false)) (none)
def Gu:Hn Tryz.prog := .cl pp [] (.gj 3 ⟨[kdB 13],[]⟩ [] (.two 9 .nil (.cl fx [] .nil)) (.tw 13 .nil (.mix [] [0,1,2,3,4,5,6,7,8,9,10,11,12] [13] [] .nil)))
def IP:Spec:=⟨51,⟨[(0,.nilp),kdI 1],[]⟩,[⟨[kdB 0],[]⟩],fun x=>ii x⟩
def lw:OkSpec Tryz.prog:=⟨IP,ae func51 Gu (by kernel_rfl) (by kernel_rfl),call51⟩

def lX (qa0:(List Int)) (qa1:Int) (qa2:Int) (qa3:(Option Tq5)):Option (((List Int)×(Option Tq5))) :=
 (mk (IntKind.wrap .i64 ((IntKind.wrap .i64 (2 * (qa0.length:Int))) + 1)) (IntKind.wrap .i64 ((IntKind.wrap .i64 (2 * (qa0.length:Int))) + 1)) 0:Option (List Int)).bind fun z31=>(subL qa0 qa1 (qa0.length:Int)).bind fun _=>(some (cpy z31 ((0:Int).toNat) ((List.drop (qa1:Int).toNat (List.take ((qa0.length:Int):Int).toNat qa0)).take (z31.length - (0:Int).toNat)))).bind fun z38=>(subL z38 (((min (List.drop (qa1:Int).toNat (List.take ((qa0.length:Int):Int).toNat qa0)).length (z31.length - (0:Int).toNat):Nat):Int)) (z31.length:Int)).bind fun _=>(subL qa0 0 qa1).bind fun _=>(some (cpy z38 ((((min (List.drop (qa1:Int).toNat (List.take ((qa0.length:Int):Int).toNat qa0)).length (z31.length - (0:Int).toNat):Nat):Int):Int).toNat) ((List.drop (0:Int).toNat (List.take (qa1:Int).toNat qa0)).take ((((z31.length:Int):Int).toNat) - (((min (List.drop (qa1:Int).toNat (List.take ((qa0.length:Int):Int).toNat qa0)).length (z31.length - (0:Int).toNat):Nat):Int):Int).toNat)))).bind fun z42=>some ((z42,qa3))
def Iv:Hn Tryz.prog := .mix [] [0,1,2,3,4,5,6,7,8,9] [10,11] [] (.mix [] [0,1,2,3,4,5,6,7,8,9,10,11] [12] [] .nil)
def ID:Spec:=⟨98,⟨[(0,.ptr 0 0)],[bkN 116 [.own 3 Yq2,.dat Yq2,.is 1 (.dat Yq2),.od (.obj 0 Yq5)],bkM]⟩,[⟨[],[bkC 0 116 [.own 3 Yq2,.lit (.int .i64 0),.is 1 (.any),.od (.obj 0 Yq5)],bkU 1]⟩],fun x=>lX x.1 x.2.1 x.2.2.1 x.2.2.2⟩
def HX:OkSpec Tryz.prog:=⟨ID,ae func98 Iv (by kernel_rfl) (by kernel_rfl),call98⟩
def ia (xb:(List Int)):dN→Option (dN⊕dP):=fun (i1,l2,i3,i4,l5)=>cond (decide (i1 < (xb.length:Int))) ((aa xb i1).bind fun x6=>(cond (decide (i4=(l2.length:Int))) ((lX l2 i3 i4 l5).bind fun (l7,l8)=>some ((l7,0,l8))) (some ((l2,i3,l5))):Option (((List Int)×Int×(Option Tq5)))).bind fun (l9,i10,l11)=>(nz (l9.length:Int)).bind fun u12=>(aa l9 (Int.tmod (IntKind.wrap .i64 (i10 + i4)) (l9.length:Int))).bind fun x13=>(some (l9.set (Int.tmod (IntKind.wrap .i64 (i10 + i4)) (l9.length:Int)).toNat x6)).bind fun z14=>some (.inl ((IntKind.wrap .i64 (i1 + 1),z14,i10,IntKind.wrap .i64 (i4 + 1),l11)))) (some (.inr (((l2,i3,i4,l5)))))
def lW (xb:(List Int)) (qa0:(List Int)) (qa1:Int) (qa2:Int) (qa3:(Option Tq5)):Option (dP) :=
 (loop (ia xb) (0,qa0,qa1,qa2,qa3)).bind fun (l4,i5,i6,l7)=>some ((l4,i5,i6,l7))
def HE:Hn Tryz.prog := .jn [] ⟨[],[bkC 0 116 [.own 3 Yq2,.dat Yq2,.dat Yq2,.od (.obj 0 Yq5)]]⟩ [1,0,3] (.lp ⟨[kdI 10],[bkC 0 116 [.own 3 Yq2,.dat Yq2,.dat Yq2,.od (.obj 0 Yq5)]]⟩ (.tw 11 (.pl (.pl (.sq [(0,2)] ⟨[],[bkC 0 116 [.own 3 Yq2,.dat Yq2,.is 1 (.any),.od (.obj 0 Yq5)],bkU 11]⟩ [0,6,8] (.mix [] [0,1,2,3,4,5,6,7,8,9] [] [] (.tw 23 (.cl HX [] .nil) .nil)) (.mix [] [0,1,2,3,4,5,6,7,8,9,10,11,12,13,14,15,16,17,18,19,20] [21] [] .nil)))) .nil)) .nil
def IE:Spec:=⟨78,⟨[(0,.ptr 0 0),(1,.dat (.sl Yq2))],[bkN 116 [.own 3 Yq2,.dat Yq2,.dat Yq2,.od (.obj 0 Yq5)]]⟩,[⟨[],[bkC 0 116 [.own 3 Yq2,.dat Yq2,.dat Yq2,.od (.obj 0 Yq5)]]⟩],fun x=>lW x.1 x.2.1 x.2.2.1 x.2.2.2.1 x.2.2.2.2⟩
def HR:OkSpec Tryz.prog:=⟨IE,ae func78 HE (by kernel_rfl) (by kernel_rfl),call78⟩

def cG (xb:Int) (qa0:(List Int)) (qa1:Int) (qa2:Int) (qa3:(Option Tq5)):Option ((Bool×(List Int)×Int×Int×(Option Tq5))) :=
 (rm xb qa0 qa1 qa2 qa3).bind fun r69=>cond (!r69.1) (some ((false,r69.2.1,r69.2.2.1,r69.2.2.2.1,r69.2.2.2.2))) ((lW ([xb]:List Int) r69.2.1 r69.2.2.1 r69.2.2.2.1 r69.2.2.2.2).bind fun (l4,i5,i6,l7)=>some ((true,l4,i5,i6,l7)))
def Ib:Hn Tryz.prog := .cl Bh [] (.tw 12 .nil (.cl HR [16] .nil))
def GD:Spec:=⟨52,⟨[(0,.ptr 0 0),kdI 1],[bkN 116 [.own 3 Yq2,.dat Yq2,.dat Yq2,.od (.obj 0 Yq5)]]⟩,[⟨[kdB 0],[bkC 0 116 [.own 3 Yq2,.dat Yq2,.dat Yq2,.od (.obj 0 Yq5)]]⟩],fun x=>cG x.1 x.2.1 x.2.2.1 x.2.2.2.1 x.2.2.2.2⟩
def fA:OkSpec Tryz.prog:=⟨GD,ae func52 Ib (by kernel_rfl) (by kernel_rfl),call52⟩

def jN (qa0:(List Int)) (qa1:Int) (qa2:Int) (qa3:(Option Tq5)):Option ((Int×(List Int)×(Option Tq5))) :=
 some ((qa2,qa0,qa3))
def HK:Hn Tryz.prog := .nil
def H3:Spec:=⟨79,⟨[(0,.ptr 0 0)],[bkN 116 [.own 3 Yq2,.is 1 (.dat Yq2),.is 2 (.dat Yq2),.od (.obj 0 Yq5)],bkM,bkM]⟩,[⟨[kdI 0],[bkC 0 116 [.own 3 Yq2,.is 1 (.any),.is 2 (.any),.od (.obj 0 Yq5)],bkU 1,bkU 2]⟩],fun x=>jN x.1 x.2.1 x.2.2.1 x.2.2.2⟩
def zw:OkSpec Tryz.prog:=⟨H3,ae func79 HK (by kernel_rfl) (by kernel_rfl),call79⟩

def fN (qa0:(List Int)) (qa1:Int) (qa2:Int) (qa3:(Option Tq5)):Option ((Int×(List Int)×(Option Tq5))) :=
 (jN qa0 qa1 qa2 qa3).bind fun (i53,l54,l55)=>some ((i53,l54,l55))
def IM:Hn Tryz.prog := .cl zw [] .nil
def Ic:Spec:=⟨53,⟨[(0,.ptr 0 0)],[bkN 116 [.own 3 Yq2,.is 1 (.dat Yq2),.is 2 (.dat Yq2),.od (.obj 0 Yq5)],bkM,bkM]⟩,[⟨[kdI 0],[bkC 0 116 [.own 3 Yq2,.is 1 (.any),.is 2 (.any),.od (.obj 0 Yq5)],bkU 1,bkU 2]⟩],fun x=>fN x.1 x.2.1 x.2.2.1 x.2.2.2⟩
def pu:OkSpec Tryz.prog:=⟨Ic,ae func53 IM (by kernel_rfl) (by kernel_rfl),call53⟩

def ma (qa0:(List Int)) (qa1:Int) (qa2:Int) (qa3:(Option Tq5)):Option ((Int×Bool×(List Int)×Int×Int×(Option Tq5))) :=
 (jN qa0 qa1 qa2 qa3).bind fun (i4,l5,l6)=>cond (decide (i4=0)) (some ((0,false,l5,qa1,qa2,l6))) ((aa l5 qa1).bind fun x7=>(aa l5 qa1).bind fun x8=>(some (l5.set qa1.toNat 0)).bind fun z9=>(nz (l5.length:Int)).bind fun u10=>some ((x7,true,z9,Int.tmod (IntKind.wrap .i64 (qa1 + 1)) (l5.length:Int),IntKind.wrap .i64 (qa2 - 1),l6)))
def H8:Hn Tryz.prog := .mc 0 1 5 (.mc 0 2 5 (.cl zw [] (.tw 8 .nil (.mix [] [0,1,2,3,4,5,6,7,8,9,10] [] [] (.mix [] [0,1,2,3,4,5,6,7,8,9] [10] [] (.mix [] [0,1,2,3,4,5,6,7,8,9,10,11,12,13] [14] [] .nil))))))
def HQ:Spec:=⟨80,⟨[(0,.ptr 0 0)],[bkN 116 [.own 3 Yq2,.dat Yq2,.dat Yq2,.od (.obj 0 Yq5)]]⟩,[⟨[(0,.tup [.dat Yq2,.dat .bool])],[bkC 0 116 [.own 3 Yq2,.dat Yq2,.dat Yq2,.od (.obj 0 Yq5)]]⟩],fun x=>ma x.1 x.2.1 x.2.2.1 x.2.2.2⟩
def HG:OkSpec Tryz.prog:=⟨HQ,ae func80 H8 (by kernel_rfl) (by kernel_rfl),call80⟩

def fM (qa0:(List Int)) (qa1:Int) (qa2:Int) (qa3:(Option Tq5)):Option ((Int×Bool×(List Int)×Int×Int×(Option Tq5))) :=
 (ma qa0 qa1 qa2 qa3).bind fun (i76,t77,l78,i79,i80,l81)=>cond (t77) ((uX i76 l78 i79 i80 l81).bind fun r97=>some ((i76,t77,r97.1,r97.2.1,r97.2.2.1,r97.2.2.2))) (some ((i76,t77,l78,i79,i80,l81)))
def HF:Hn Tryz.prog := .cl HG [] (.tw 17 (.cl A2 [] .nil) .nil)
def Io:Spec:=⟨54,⟨[(0,.ptr 0 0)],[bkN 116 [.own 3 Yq2,.dat Yq2,.dat Yq2,.od (.obj 0 Yq5)]]⟩,[⟨[(0,.tup [.dat Yq2,.dat .bool])],[bkC 0 116 [.own 3 Yq2,.dat Yq2,.dat Yq2,.od (.obj 0 Yq5)]]⟩],fun x=>fM x.1 x.2.1 x.2.2.1 x.2.2.2⟩
def pt:OkSpec Tryz.prog:=⟨Io,ae func54 HF (by kernel_rfl) (by kernel_rfl),call54⟩

def eJ (xb:Int) (qa0:Int) (qa1:(List Int)):Option ((Bool×(List Int))) :=
 (eK (some (qa0,qa1)) xb).bind fun t2=>(cond (!t2) (some (true)) ((bZ (some (qa0,qa1)) xb).bind fun t3=>some (t3))).bind fun t4=>cond (t4) (some ((false,qa1))) ((aa qa1 (IntKind.wrap .i64 (Int.tdiv xb 64))).bind fun x5=>(ge0 (Int.tmod xb 64)).bind fun u6=>(aa qa1 (IntKind.wrap .i64 (Int.tdiv xb 64))).bind fun x7=>(some (qa1.set (IntKind.wrap .i64 (Int.tdiv xb 64)).toNat (IntKind.wrap .u64 ((BitVec.ofInt (IntKind.bits .u64) x5 ||| BitVec.ofInt (IntKind.bits .u64) (IntKind.wrap .u64 (1 * 2 ^ (min (Int.toNat (Int.tmod xb 64)) (IntKind.bits .u64))))).toNat:Int)))).bind fun z8=>some ((true,z8)))
def H5:Hn Tryz.prog := .cl pp [2,0] (.gj 3 ⟨[kdB 13],[]⟩ [] (.two 9 .nil (.cl fx [2,0] .nil)) (.tw 13 .nil (.mix [] [0,1,2,3,4,5,6,7,8,9,10,11,12] [13] [] .nil)))
def Ik:Spec:=⟨51,⟨[(0,.ptr 0 0),kdI 1],[bkN 121 [.is 1 (.dat Yq2),.own 122 (.int .u64)],bkM]⟩,[⟨[kdB 0],[bkC 0 121 [.is 1 (.any),.own 122 (.int .u64)],bkU 1]⟩],fun x=>eJ x.1 x.2.1 x.2.2⟩
def lC:OkSpec Tryz.prog:=⟨Ik,ae func51 H5 (by kernel_rfl) (by kernel_rfl),call51⟩
def Aw (xc:(List Int)):Int→Option (Int⊕Unit):=fun i1=>cond (decide (i1 < (xc.length:Int))) ((aa xc i1).bind fun x2=>(ii x2).bind fun t3=>some (.inl (IntKind.wrap .i64 (i1 + 1)))) (some (.inr ((()))))
def AB (xb:(List Int)):dN→Option (dN⊕dP):=fun (i1,l2,i3,i4,l5)=>cond (decide (i1 < (xb.length:Int))) ((aa xb i1).bind fun x6=>(ii x6).bind fun t7=>(cG x6 l2 i3 i4 l5).bind fun (t8,l9,i10,i11,l12)=>some (.inl ((IntKind.wrap .i64 (i1 + 1),l9,i10,i11,l12)))) (some (.inr (((l2,i3,i4,l5)))))
def Ay (x1:(List Int)):dN→Option (dN⊕dP):=fun (i2,l3,i4,i5,l6)=>cond (decide (i2 < (x1.length:Int))) ((aa x1 i2).bind fun x7=>(bZ ((none:(Option Tq7))) x7).bind fun t8=>(cond (!t8) ((ii x7).bind fun t9=>some (t9)) (some (false))).bind fun t10=>cond (t10) ((cG x7 l3 i4 i5 l6).bind fun (t11,l12,i13,i14,l15)=>some (.inl ((IntKind.wrap .i64 (i2 + 1),l12,i13,i14,l15)))) (some (.inl ((IntKind.wrap .i64 (i2 + 1),l3,i4,i5,l6))))) (some (.inr (((l3,i4,i5,l6)))))
def AE (xa:(List (List Int))):dP→Option (dP⊕Unit):=fun (l1,i2,i3,l4)=>(fN l1 i2 i3 l4).bind fun (i5,l6,l7)=>cond (decide (0 < i5)) ((fM l6 i2 i3 l7).bind fun (i8,t9,l10,i11,i12,l13)=>(aa xa i8).bind fun x14=>(loop (Ay x14) (0,l10,i11,i12,l13)).bind fun (l15,i16,i17,l18)=>some (.inl (l15,i16,i17,l18))) (some (.inr ((()))))
def AC (xb:(List Int)) (i1:Int):fH→Option (fH⊕Tq9):=fun (i2,l3,l4,i5,i6,l7)=>cond (decide (i2 < (xb.length:Int))) ((aa xb i2).bind fun x8=>(eJ x8 i1 l3).bind fun (t9,l10)=>(cG x8 l4 i5 i6 l7).bind fun (t11,l12,i13,i14,l15)=>some (.inl ((IntKind.wrap .i64 (i2 + 1),l10,l12,i13,i14,l15)))) (some (.inr (((l3,l4,i5,i6,l7)))))
def AA (i1:Int) (x2:(List Int)):fH→Option (fH⊕Tq9):=fun (i3,l4,l5,i6,i7,l8)=>cond (decide (i3 < (x2.length:Int))) ((aa x2 i3).bind fun x9=>(bZ ((none:(Option Tq7))) x9).bind fun t10=>cond (!t10) ((eJ x9 i1 l4).bind fun (t11,l12)=>cond (t11) ((cG x9 l5 i6 i7 l8).bind fun (t13,l14,i15,i16,l17)=>some (.inl ((IntKind.wrap .i64 (i3 + 1),l12,l14,i15,i16,l17)))) (some (.inl ((IntKind.wrap .i64 (i3 + 1),l12,l5,i6,i7,l8))))) (some (.inl ((IntKind.wrap .i64 (i3 + 1),l4,l5,i6,i7,l8))))) (some (.inr (((l4,l5,i6,i7,l8)))))
def AD (xa:(List (List Int))) (i1:Int):Tq9→Option (Tq9⊕(List Int)):=fun (l2,l3,i4,i5,l6)=>(fN l3 i4 i5 l6).bind fun (i7,l8,l9)=>cond (decide (0 < i7)) ((fM l8 i4 i5 l9).bind fun (i10,t11,l12,i13,i14,l15)=>(aa xa i10).bind fun x16=>(loop (AA i1 x16) (0,l2,l12,i13,i14,l15)).bind fun (l17,l18,i19,i20,l21)=>some (.inl (l17,l18,i19,i20,l21))) (some (.inr (l2)))
def j8 (xc:(List Int)) (i1:Int):Tq7→Option (Tq7⊕(List Int)):=fun (i2,l3)=>cond (decide (i2 < (xc.length:Int))) ((aa xc i2).bind fun x4=>(eJ x4 i1 l3).bind fun (t5,l6)=>some (.inl ((IntKind.wrap .i64 (i2 + 1),l6)))) (some (.inr (l3)))
def Ax (xb:(List Int)):dN→Option (dN⊕dP):=fun (i1,l2,i3,i4,l5)=>cond (decide (i1 < (xb.length:Int))) ((aa xb i1).bind fun x6=>(ii x6).bind fun t7=>(cG x6 l2 i3 i4 l5).bind fun (t8,l9,i10,i11,l12)=>some (.inl ((IntKind.wrap .i64 (i1 + 1),l9,i10,i11,l12)))) (some (.inr (((l2,i3,i4,l5)))))
def Av (i1:Int) (l2:(List Int)) (x3:(List Int)):dN→Option (dN⊕dP):=fun (i4,l5,i6,i7,l8)=>cond (decide (i4 < (x3.length:Int))) ((aa x3 i4).bind fun x9=>(bZ (some (i1,l2)) x9).bind fun t10=>(cond (!t10) ((ii x9).bind fun t11=>some (t11)) (some (false))).bind fun t12=>cond (t12) ((cG x9 l5 i6 i7 l8).bind fun (t13,l14,i15,i16,l17)=>some (.inl ((IntKind.wrap .i64 (i4 + 1),l14,i15,i16,l17)))) (some (.inl ((IntKind.wrap .i64 (i4 + 1),l5,i6,i7,l8))))) (some (.inr (((l5,i6,i7,l8)))))
def Au (xa:(List (List Int))) (i1:Int) (l2:(List Int)):dP→Option (dP⊕Unit):=fun (l3,i4,i5,l6)=>(fN l3 i4 i5 l6).bind fun (i7,l8,l9)=>cond (decide (0 < i7)) ((fM l8 i4 i5 l9).bind fun (i10,t11,l12,i13,i14,l15)=>(aa xa i10).bind fun x16=>(loop (Av i1 l2 x16) (0,l12,i13,i14,l15)).bind fun (l17,i18,i19,l20)=>some (.inl (l17,i18,i19,l20))) (some (.inr ((()))))
def jW (xb:(List Int)) (i1:Int):fH→Option (fH⊕Tq9):=fun (i2,l3,l4,i5,i6,l7)=>cond (decide (i2 < (xb.length:Int))) ((aa xb i2).bind fun x8=>(eJ x8 i1 l3).bind fun (t9,l10)=>(cG x8 l4 i5 i6 l7).bind fun (t11,l12,i13,i14,l15)=>some (.inl ((IntKind.wrap .i64 (i2 + 1),l10,l12,i13,i14,l15)))) (some (.inr (((l3,l4,i5,i6,l7)))))
def ga (i1:Int) (l2:(List Int)) (i3:Int) (x4:(List Int)):fH→Option (fH⊕Tq9):=fun (i5,l6,l7,i8,i9,l10)=>cond (decide (i5 < (x4.length:Int))) ((aa x4 i5).bind fun x11=>(bZ (some (i1,l2)) x11).bind fun t12=>cond (!t12) ((eJ x11 i3 l6).bind fun (t13,l14)=>cond (t13) ((cG x11 l7 i8 i9 l10).bind fun (t15,l16,i17,i18,l19)=>some (.inl ((IntKind.wrap .i64 (i5 + 1),l14,l16,i17,i18,l19)))) (some (.inl ((IntKind.wrap .i64 (i5 + 1),l14,l7,i8,i9,l10))))) (some (.inl ((IntKind.wrap .i64 (i5 + 1),l6,l7,i8,i9,l10))))) (some (.inr (((l6,l7,i8,i9,l10)))))
def my (xa:(List (List Int))) (i1:Int) (l2:(List Int)) (i3:Int):Tq9→Option (Tq9⊕(List Int)):=fun (l4,l5,i6,i7,l8)=>(fN l5 i6 i7 l8).bind fun (i9,l10,l11)=>cond (decide (0 < i9)) ((fM l10 i6 i7 l11).bind fun (i12,t13,l14,i15,i16,l17)=>(aa xa i12).bind fun x18=>(loop (ga i1 l2 i3 x18) (0,l4,l14,i15,i16,l17)).bind fun (l19,l20,i21,i22,l23)=>some (.inl (l19,l20,i21,i22,l23))) (some (.inr (l4)))
def mV (xa:(List (List Int))) (xb:(List Int)) (xc:(List Int)):Option ((Unit⊕Tq7)) :=
 (gD (xa.length:Int)).bind fun o=>match o with | .inl i1=>((loop (Aw xc) 0).bind fun ()=>(gD (xa.length:Int)).bind fun o=>match o with | .inl i2=>(loop (AB xb) (0,[],0,0,none)).bind fun (l3,i4,i5,l6)=>(loop (AE xa) (l3,i4,i5,l6)).bind fun ()=>some (.inl ()) | .inr (i7,i8,l9)=>(loop (AC xb i8) (0,l9,[],0,0,none)).bind fun (l10,l11,i12,i13,l14)=>(loop (AD xa i8) (l10,l11,i12,i13,l14)).bind fun l15=>some (.inr (i8,l15))) | .inr (i16,i17,l18)=>(loop (j8 xc i17) (0,l18)).bind fun l19=>(gD (xa.length:Int)).bind fun o=>match o with | .inl i20=>(loop (Ax xb) (0,[],0,0,none)).bind fun (l21,i22,i23,l24)=>(loop (Au xa i17 l19) (l21,i22,i23,l24)).bind fun ()=>some (.inl ()) | .inr (i25,i26,l27)=>(loop (jW xb i26) (0,l27,[],0,0,none)).bind fun (l28,l29,i30,i31,l32)=>(loop (my xa i17 l19 i26) (l28,l29,i30,i31,l32)).bind fun l33=>some (.inr (i26,l33))
def G5:Hn Tryz.prog := .c2 tq [] (.jn [] ⟨[],[]⟩ [] (.lp ⟨[kdI 28],[]⟩ (.tw 29 (.cl lw [] .nil) .nil)) (.c2 tq [] (.jn [] ⟨[],[bkC 0 116 [.own 3 Yq2,.dat Yq2,.dat Yq2,.od (.obj 0 Yq5)]]⟩ [0] (.lp ⟨[kdI 44],[bkC 0 116 [.own 3 Yq2,.dat Yq2,.dat Yq2,.od (.obj 0 Yq5)]]⟩ (.tw 45 (.cl lw [] (.cl fA [] .nil)) .nil)) (.jn [] ⟨[],[]⟩ [0,2,4] (.lp ⟨[],[bkC 0 116 [.own 3 Yq2,.dat Yq2,.dat Yq2,.od (.obj 0 Yq5)]]⟩ (.mc 0 1 11 (.mc 0 2 11 (.cl pu [] (.tw 55 (.cl pt [] (.jn [] ⟨[],[bkC 0 116 [.own 3 Yq2,.dat Yq2,.dat Yq2,.od (.obj 0 Yq5)]]⟩ [29,0,31] (.lp ⟨[kdI 65],[bkC 0 116 [.own 3 Yq2,.dat Yq2,.dat Yq2,.od (.obj 0 Yq5)]]⟩ (.tw 66 (.cl fx [] (.gj 3 ⟨[kdB 77],[]⟩ [] (.two 73 (.cl lw [] .nil) .nil) (.tw 77 (.cl fA [] .nil) .nil))) .nil)) .nil)) .nil))))) .nil)) (.jn [(0,0)] ⟨[],[bkC 0 121 [.is 2 (.any),.own 122 (.int .u64)],bkC 4 116 [.own 3 Yq2,.dat Yq2,.dat Yq2,.od (.obj 0 Yq5)],bkU 6]⟩ [4,1,0] (.lp ⟨[kdI 44],[bkC 0 121 [.is 2 (.any),.own 122 (.int .u64)],bkC 4 116 [.own 3 Yq2,.dat Yq2,.dat Yq2,.od (.obj 0 Yq5)],bkU 6]⟩ (.tw 45 (.cl lC [] (.cl fA [] .nil)) .nil)) (.jn [] ⟨[],[bkC 0 121 [.is 1 (.any),.own 122 (.int .u64)],bkU 6]⟩ [0,4,7,10,12] (.lp ⟨[],[bkC 0 121 [.is 2 (.any),.own 122 (.int .u64)],bkC 4 116 [.own 3 Yq2,.dat Yq2,.dat Yq2,.od (.obj 0 Yq5)],bkU 6]⟩ (.mc 4 1 22 (.mc 4 2 22 (.cl pu [] (.tw 55 (.cl pt [] (.jn [] ⟨[],[bkC 0 121 [.is 2 (.any),.own 122 (.int .u64)],bkC 4 116 [.own 3 Yq2,.dat Yq2,.dat Yq2,.od (.obj 0 Yq5)],bkU 6]⟩ [40,4,42,0,15] (.lp ⟨[kdI 65],[bkC 0 121 [.is 2 (.any),.own 122 (.int .u64)],bkC 4 116 [.own 3 Yq2,.dat Yq2,.dat Yq2,.od (.obj 0 Yq5)],bkU 6]⟩ (.tw 66 (.cl fx [] (.two 73 (.cl lC [] (.tw 77 (.cl fA [] .nil) .nil)) .nil)) .nil)) .nil)) .nil))))) (.pl (.pl .nil)))))) (.jn [(0,0)] ⟨[],[bkC 0 121 [.is 1 (.any),.own 122 (.int .u64)],bkU 4]⟩ [1,0] (.lp ⟨[kdI 28],[bkC 0 121 [.is 1 (.any),.own 122 (.int .u64)],bkU 4]⟩ (.tw 29 (.cl lC [] .nil) .nil)) (.c2 tq [] (.jn [] ⟨[],[bkC 8 116 [.own 3 Yq2,.dat Yq2,.dat Yq2,.od (.obj 0 Yq5)]]⟩ [8] (.lp ⟨[kdI 44],[bkC 8 116 [.own 3 Yq2,.dat Yq2,.dat Yq2,.od (.obj 0 Yq5)]]⟩ (.tw 45 (.cl lw [] (.cl fA [] .nil)) .nil)) (.jn [] ⟨[],[]⟩ [8,10,12] (.lp ⟨[],[bkC 8 116 [.own 3 Yq2,.dat Yq2,.dat Yq2,.od (.obj 0 Yq5)]]⟩ (.mc 8 1 19 (.mc 8 2 19 (.cl pu [] (.tw 55 (.cl pt [] (.jn [] ⟨[],[bkC 8 116 [.own 3 Yq2,.dat Yq2,.dat Yq2,.od (.obj 0 Yq5)]]⟩ [37,8,39] (.lp ⟨[kdI 65],[bkC 8 116 [.own 3 Yq2,.dat Yq2,.dat Yq2,.od (.obj 0 Yq5)]]⟩ (.tw 66 (.cl fx [5,0] (.gj 3 ⟨[kdB 77],[]⟩ [] (.two 73 (.cl lw [] .nil) .nil) (.tw 77 (.cl fA [] .nil) .nil))) .nil)) .nil)) .nil))))) .nil)) (.jn [(8,0)] ⟨[],[bkC 8 121 [.is 2 (.any),.own 122 (.int .u64)],bkC 12 116 [.own 3 Yq2,.dat Yq2,.dat Yq2,.od (.obj 0 Yq5)],bkU 14]⟩ [12,9,8] (.lp ⟨[kdI 44],[bkC 8 121 [.is 2 (.any),.own 122 (.int .u64)],bkC 12 116 [.own 3 Yq2,.dat Yq2,.dat Yq2,.od (.obj 0 Yq5)],bkU 14]⟩ (.tw 45 (.cl lC [] (.cl fA [] .nil)) .nil)) (.jn [] ⟨[],[bkC 8 121 [.is 1 (.any),.own 122 (.int .u64)],bkU 14]⟩ [8,12,15,18,20] (.lp ⟨[],[bkC 8 121 [.is 2 (.any),.own 122 (.int .u64)],bkC 12 116 [.own 3 Yq2,.dat Yq2,.dat Yq2,.od (.obj 0 Yq5)],bkU 14]⟩ (.mc 12 1 30 (.mc 12 2 30 (.cl pu [] (.tw 55 (.cl pt [] (.jn [] ⟨[],[bkC 8 121 [.is 2 (.any),.own 122 (.int .u64)],bkC 12 116 [.own 3 Yq2,.dat Yq2,.dat Yq2,.od (.obj 0 Yq5)],bkU 14]⟩ [48,12,50,8,23] (.lp ⟨[kdI 65],[bkC 8 121 [.is 2 (.any),.own 122 (.int .u64)],bkC 12 116 [.own 3 Yq2,.dat Yq2,.dat Yq2,.od (.obj 0 Yq5)],bkU 14]⟩ (.tw 66 (.cl fx [5,0] (.two 73 (.cl lC [] (.tw 77 (.cl fA [] .nil) .nil)) .nil)) .nil)) .nil)) .nil))))) (.pl (.pl .nil))))))
def G6:Spec:=⟨28,⟨[(0,.dat (.sl (.sl Yq2))),(1,.dat (.sl Yq2)),(2,.dat (.sl Yq2))],[]⟩,[⟨[(0,.nilp)],[]⟩,⟨[(0,.ptr 0 0)],[bkN 121 [.dat Yq2,.own 122 (.int .u64)]]⟩],fun x=>mV x.1 x.2.1 x.2.2⟩
def HU:OkSpec Tryz.prog:=⟨G6,ae func28 G5 (by kernel_rfl) (by kernel_rfl),call28⟩
end
section
open Go.RowKit _root_.Go.Proofs.Tryz

def me (xa:Int):Option Int :=
 some (IntKind.wrap .i64 ((BitVec.ofInt (IntKind.bits .i64) (IntKind.wrap .i64 (IntKind.wrap .u64 ((IntKind.wrap .u64 ((IntKind.wrap .u64 ((IntKind.wrap .u64 ((BitVec.ofInt (IntKind.bits .u64) (IntKind.wrap .u64 ((Int.fdiv (IntKind.wrap .u64 ((IntKind.wrap .u64 ((BitVec.ofInt (IntKind.bits .u64) (Int.fdiv (IntKind.wrap .u64 ((IntKind.wrap .u64 ((BitVec.ofInt (IntKind.bits .u64) (Int.fdiv xa (2 ^ (min (Int.toNat 1) (IntKind.bits .u64)))) &&& BitVec.ofInt (IntKind.bits .u64) 6148914691236517205).toNat:Int)) + (IntKind.wrap .u64 ((BitVec.ofInt (IntKind.bits .u64) xa &&& BitVec.ofInt (IntKind.bits .u64) 6148914691236517205).toNat:Int)))) (2 ^ (min (Int.toNat 2) (IntKind.bits .u64)))) &&& BitVec.ofInt (IntKind.bits .u64) 3689348814741910323).toNat:Int)) + (IntKind.wrap .u64 ((BitVec.ofInt (IntKind.bits .u64) (IntKind.wrap .u64 ((IntKind.wrap .u64 ((BitVec.ofInt (IntKind.bits .u64) (Int.fdiv xa (2 ^ (min (Int.toNat 1) (IntKind.bits .u64)))) &&& BitVec.ofInt (IntKind.bits .u64) 6148914691236517205).toNat:Int)) + (IntKind.wrap .u64 ((BitVec.ofInt (IntKind.bits .u64) xa &&& BitVec.ofInt (IntKind.bits .u64) 6148914691236517205).toNat:Int)))) &&& BitVec.ofInt (IntKind.bits .u64) 3689348814741910323).toNat:Int)))) (2 ^ (min (Int.toNat 4) (IntKind.bits .u64)))) + (IntKind.wrap .u64 ((IntKind.wrap .u64 ((BitVec.ofInt (IntKind.bits .u64) (Int.fdiv (IntKind.wrap .u64 ((IntKind.wrap .u64 ((BitVec.ofInt (IntKind.bits .u64) (Int.fdiv xa (2 ^ (min (Int.toNat 1) (IntKind.bits .u64)))) &&& BitVec.ofInt (IntKind.bits .u64) 6148914691236517205).toNat:Int)) + (IntKind.wrap .u64 ((BitVec.ofInt (IntKind.bits .u64) xa &&& BitVec.ofInt (IntKind.bits .u64) 6148914691236517205).toNat:Int)))) (2 ^ (min (Int.toNat 2) (IntKind.bits .u64)))) &&& BitVec.ofInt (IntKind.bits .u64) 3689348814741910323).toNat:Int)) + (IntKind.wrap .u64 ((BitVec.ofInt (IntKind.bits .u64) (IntKind.wrap .u64 ((IntKind.wrap .u64 ((BitVec.ofInt (IntKind.bits .u64) (Int.fdiv xa (2 ^ (min (Int.toNat 1) (IntKind.bits .u64)))) &&& BitVec.ofInt (IntKind.bits .u64) 6148914691236517205).toNat:Int)) + (IntKind.wrap .u64 ((BitVec.ofInt (IntKind.bits .u64) xa &&& BitVec.ofInt (IntKind.bits .u64) 6148914691236517205).toNat:Int)))) &&& BitVec.ofInt (IntKind.bits .u64) 3689348814741910323).toNat:Int)))))) &&& BitVec.ofInt (IntKind.bits .u64) 1085102592571150095).toNat:Int)) + (Int.fdiv (IntKind.wrap .u64 ((BitVec.ofInt (IntKind.bits .u64) (IntKind.wrap .u64 ((Int.fdiv (IntKind.wrap .u64 ((IntKind.wrap .u64 ((BitVec.ofInt (IntKind.bits .u64) (Int.fdiv (IntKind.wrap .u64 ((IntKind.wrap .u64 ((BitVec.ofInt (IntKind.bits .u64) (Int.fdiv xa (2 ^ (min (Int.toNat 1) (IntKind.bits .u64)))) &&& BitVec.ofInt (IntKind.bits .u64) 6148914691236517205).toNat:Int)) + (IntKind.wrap .u64 ((BitVec.ofInt (IntKind.bits .u64) xa &&& BitVec.ofInt (IntKind.bits .u64) 6148914691236517205).toNat:Int)))) (2 ^ (min (Int.toNat 2) (IntKind.bits .u64)))) &&& BitVec.ofInt (IntKind.bits .u64) 3689348814741910323).toNat:Int)) + (IntKind.wrap .u64 ((BitVec.ofInt (IntKind.bits .u64) (IntKind.wrap .u64 ((IntKind.wrap .u64 ((BitVec.ofInt (IntKind.bits .u64) (Int.fdiv xa (2 ^ (min (Int.toNat 1) (IntKind.bits .u64)))) &&& BitVec.ofInt (IntKind.bits .u64) 6148914691236517205).toNat:Int)) + (IntKind.wrap .u64 ((BitVec.ofInt (IntKind.bits .u64) xa &&& BitVec.ofInt (IntKind.bits .u64) 6148914691236517205).toNat:Int)))) &&& BitVec.ofInt (IntKind.bits .u64) 3689348814741910323).toNat:Int)))) (2 ^ (min (Int.toNat 4) (IntKind.bits .u64)))) + (IntKind.wrap .u64 ((IntKind.wrap .u64 ((BitVec.ofInt (IntKind.bits .u64) (Int.fdiv (IntKind.wrap .u64 ((IntKind.wrap .u64 ((BitVec.ofInt (IntKind.bits .u64) (Int.fdiv xa (2 ^ (min (Int.toNat 1) (IntKind.bits .u64)))) &&& BitVec.ofInt (IntKind.bits .u64) 6148914691236517205).toNat:Int)) + (IntKind.wrap .u64 ((BitVec.ofInt (IntKind.bits .u64) xa &&& BitVec.ofInt (IntKind.bits .u64) 6148914691236517205).toNat:Int)))) (2 ^ (min (Int.toNat 2) (IntKind.bits .u64)))) &&& BitVec.ofInt (IntKind.bits .u64) 3689348814741910323).toNat:Int)) + (IntKind.wrap .u64 ((BitVec.ofInt (IntKind.bits .u64) (IntKind.wrap .u64 ((IntKind.wrap .u64 ((BitVec.ofInt (IntKind.bits .u64) (Int.fdiv xa (2 ^ (min (Int.toNat 1) (IntKind.bits .u64)))) &&& BitVec.ofInt (IntKind.bits .u64) 6148914691236517205).toNat:Int)) + (IntKind.wrap .u64 ((BitVec.ofInt (IntKind.bits .u64) xa &&& BitVec.ofInt (IntKind.bits .u64) 6148914691236517205).toNat:Int)))) &&& BitVec.ofInt (IntKind.bits .u64) 3689348814741910323).toNat:Int)))))) &&& BitVec.ofInt (IntKind.bits .u64) 1085102592571150095).toNat:Int)) (2 ^ (min (Int.toNat 8) (IntKind.bits .u64)))))) + (Int.fdiv (IntKind.wrap .u64 ((IntKind.wrap .u64 ((BitVec.ofInt (IntKind.bits .u64) (IntKind.wrap .u64 ((Int.fdiv (IntKind.wrap .u64 ((IntKind.wrap .u64 ((BitVec.ofInt (IntKind.bits .u64) (Int.fdiv (IntKind.wrap .u64 ((IntKind.wrap .u64 ((BitVec.ofInt (IntKind.bits .u64) (Int.fdiv xa (2 ^ (min (Int.toNat 1) (IntKind.bits .u64)))) &&& BitVec.ofInt (IntKind.bits .u64) 6148914691236517205).toNat:Int)) + (IntKind.wrap .u64 ((BitVec.ofInt (IntKind.bits .u64) xa &&& BitVec.ofInt (IntKind.bits .u64) 6148914691236517205).toNat:Int)))) (2 ^ (min (Int.toNat 2) (IntKind.bits .u64)))) &&& BitVec.ofInt (IntKind.bits .u64) 3689348814741910323).toNat:Int)) + (IntKind.wrap .u64 ((BitVec.ofInt (IntKind.bits .u64) (IntKind.wrap .u64 ((IntKind.wrap .u64 ((BitVec.ofInt (IntKind.bits .u64) (Int.fdiv xa (2 ^ (min (Int.toNat 1) (IntKind.bits .u64)))) &&& BitVec.ofInt (IntKind.bits .u64) 6148914691236517205).toNat:Int)) + (IntKind.wrap .u64 ((BitVec.ofInt (IntKind.bits .u64) xa &&& BitVec.ofInt (IntKind.bits .u64) 6148914691236517205).toNat:Int)))) &&& BitVec.ofInt (IntKind.bits .u64) 3689348814741910323).toNat:Int)))) (2 ^ (min (Int.toNat 4) (IntKind.bits .u64)))) + (IntKind.wrap .u64 ((IntKind.wrap .u64 ((BitVec.ofInt (IntKind.bits .u64) (Int.fdiv (IntKind.wrap .u64 ((IntKind.wrap .u64 ((BitVec.ofInt (IntKind.bits .u64) (Int.fdiv xa (2 ^ (min (Int.toNat 1) (IntKind.bits .u64)))) &&& BitVec.ofInt (IntKind.bits .u64) 6148914691236517205).toNat:Int)) + (IntKind.wrap .u64 ((BitVec.ofInt (IntKind.bits .u64) xa &&& BitVec.ofInt (IntKind.bits .u64) 6148914691236517205).toNat:Int)))) (2 ^ (min (Int.toNat 2) (IntKind.bits .u64)))) &&& BitVec.ofInt (IntKind.bits .u64) 3689348814741910323).toNat:Int)) + (IntKind.wrap .u64 ((BitVec.ofInt (IntKind.bits .u64) (IntKind.wrap .u64 ((IntKind.wrap .u64 ((BitVec.ofInt (IntKind.bits .u64) (Int.fdiv xa (2 ^ (min (Int.toNat 1) (IntKind.bits .u64)))) &&& BitVec.ofInt (IntKind.bits .u64) 6148914691236517205).toNat:Int)) + (IntKind.wrap .u64 ((BitVec.ofInt (IntKind.bits .u64) xa &&& BitVec.ofInt (IntKind.bits .u64) 6148914691236517205).toNat:Int)))) &&& BitVec.ofInt (IntKind.bits .u64) 3689348814741910323).toNat:Int)))))) &&& BitVec.ofInt (IntKind.bits .u64) 1085102592571150095).toNat:Int)) + (Int.fdiv (IntKind.wrap .u64 ((BitVec.ofInt (IntKind.bits .u64) (IntKind.wrap .u64 ((Int.fdiv (IntKind.wrap .u64 ((IntKind.wrap .u64 ((BitVec.ofInt (IntKind.bits .u64) (Int.fdiv (IntKind.wrap .u64 ((IntKind.wrap .u64 ((BitVec.ofInt (IntKind.bits .u64) (Int.fdiv xa (2 ^ (min (Int.toNat 1) (IntKind.bits .u64)))) &&& BitVec.ofInt (IntKind.bits .u64) 6148914691236517205).toNat:Int)) + (IntKind.wrap .u64 ((BitVec.ofInt (IntKind.bits .u64) xa &&& BitVec.ofInt (IntKind.bits .u64) 6148914691236517205).toNat:Int)))) (2 ^ (min (Int.toNat 2) (IntKind.bits .u64)))) &&& BitVec.ofInt (IntKind.bits .u64) 3689348814741910323).toNat:Int)) + (IntKind.wrap .u64 ((BitVec.ofInt (IntKind.bits .u64) (IntKind.wrap .u64 ((IntKind.wrap .u64 ((BitVec.ofInt (IntKind.bits .u64) (Int.fdiv xa (2 ^ (min (Int.toNat 1) (IntKind.bits .u64)))) &&& BitVec.ofInt (IntKind.bits .u64) 6148914691236517205).toNat:Int)) + (IntKind.wrap .u64 ((BitVec.ofInt (IntKind.bits .u64) xa &&& BitVec.ofInt (IntKind.bits .u64) 6148914691236517205).toNat:Int)))) &&& BitVec.ofInt (IntKind.bits .u64) 3689348814741910323).toNat:Int)))) (2 ^ (min (Int.toNat 4) (IntKind.bits .u64)))) + (IntKind.wrap .u64 ((IntKind.wrap .u64 ((BitVec.ofInt (IntKind.bits .u64) (Int.fdiv (IntKind.wrap .u64 ((IntKind.wrap .u64 ((BitVec.ofInt (IntKind.bits .u64) (Int.fdiv xa (2 ^ (min (Int.toNat 1) (IntKind.bits .u64)))) &&& BitVec.ofInt (IntKind.bits .u64) 6148914691236517205).toNat:Int)) + (IntKind.wrap .u64 ((BitVec.ofInt (IntKind.bits .u64) xa &&& BitVec.ofInt (IntKind.bits .u64) 6148914691236517205).toNat:Int)))) (2 ^ (min (Int.toNat 2) (IntKind.bits .u64)))) &&& BitVec.ofInt (IntKind.bits .u64) 3689348814741910323).toNat:Int)) + (IntKind.wrap .u64 ((BitVec.ofInt (IntKind.bits .u64) (IntKind.wrap .u64 ((IntKind.wrap .u64 ((BitVec.ofInt (IntKind.bits .u64) (Int.fdiv xa (2 ^ (min (Int.toNat 1) (IntKind.bits .u64)))) &&& BitVec.ofInt (IntKind.bits .u64) 6148914691236517205).toNat:Int)) + (IntKind.wrap .u64 ((BitVec.ofInt (IntKind.bits .u64) xa &&& BitVec.ofInt (IntKind.bits .u64) 6148914691236517205).toNat:Int)))) &&& BitVec.ofInt (IntKind.bits .u64) 3689348814741910323).toNat:Int)))))) &&& BitVec.ofInt (IntKind.bits .u64) 1085102592571150095).toNat:Int)) (2 ^ (min (Int.toNat 8) (IntKind.bits .u64)))))) (2 ^ (min (Int.toNat 16) (IntKind.bits .u64)))))) + (Int.fdiv (IntKind.wrap .u64 ((IntKind.wrap .u64 ((IntKind.wrap .u64 ((BitVec.ofInt (IntKind.bits .u64) (IntKind.wrap .u64 ((Int.fdiv (IntKind.wrap .u64 ((IntKind.wrap .u64 ((BitVec.ofInt (IntKind.bits .u64) (Int.fdiv (IntKind.wrap .u64 ((IntKind.wrap .u64 ((BitVec.ofInt (IntKind.bits .u64) (Int.fdiv xa (2 ^ (min (Int.toNat 1) (IntKind.bits .u64)))) &&& BitVec.ofInt (IntKind.bits .u64) 6148914691236517205).toNat:Int)) + (IntKind.wrap .u64 ((BitVec.ofInt (IntKind.bits .u64) xa &&& BitVec.ofInt (IntKind.bits .u64) 6148914691236517205).toNat:Int)))) (2 ^ (min (Int.toNat 2) (IntKind.bits .u64)))) &&& BitVec.ofInt (IntKind.bits .u64) 3689348814741910323).toNat:Int)) + (IntKind.wrap .u64 ((BitVec.ofInt (IntKind.bits .u64) (IntKind.wrap .u64 ((IntKind.wrap .u64 ((BitVec.ofInt (IntKind.bits .u64) (Int.fdiv xa (2 ^ (min (Int.toNat 1) (IntKind.bits .u64)))) &&& BitVec.ofInt (IntKind.bits .u64) 6148914691236517205).toNat:Int)) + (IntKind.wrap .u64 ((BitVec.ofInt (IntKind.bits .u64) xa &&& BitVec.ofInt (IntKind.bits .u64) 6148914691236517205).toNat:Int)))) &&& BitVec.ofInt (IntKind.bits .u64) 3689348814741910323).toNat:Int)))) (2 ^ (min (Int.toNat 4) (IntKind.bits .u64)))) + (IntKind.wrap .u64 ((IntKind.wrap .u64 ((BitVec.ofInt (IntKind.bits .u64) (Int.fdiv (IntKind.wrap .u64 ((IntKind.wrap .u64 ((BitVec.ofInt (IntKind.bits .u64) (Int.fdiv xa (2 ^ (min (Int.toNat 1) (IntKind.bits .u64)))) &&& BitVec.ofInt (IntKind.bits .u64) 6148914691236517205).toNat:Int)) + (IntKind.wrap .u64 ((BitVec.ofInt (IntKind.bits .u64) xa &&& BitVec.ofInt (IntKind.bits .u64) 6148914691236517205).toNat:Int)))) (2 ^ (min (Int.toNat 2) (IntKind.bits .u64)))) &&& BitVec.ofInt (IntKind.bits .u64) 3689348814741910323).toNat:Int)) + (IntKind.wrap .u64 ((BitVec.ofInt (IntKind.bits .u64) (IntKind.wrap .u64 ((IntKind.wrap .u64 ((BitVec.ofInt (IntKind.bits .u64) (Int.fdiv xa (2 ^ (min (Int.toNat 1) (IntKind.bits .u64)))) &&& BitVec.ofInt (IntKind.bits .u64) 6148914691236517205).toNat:Int)) + (IntKind.wrap .u64 ((BitVec.ofInt (IntKind.bits .u64) xa &&& BitVec.ofInt (IntKind.bits .u64) 6148914691236517205).toNat:Int)))) &&& BitVec.ofInt (IntKind.bits .u64) 3689348814741910323).toNat:Int)))))) &&& BitVec.ofInt (IntKind.bits .u64) 1085102592571150095).toNat:Int)) + (Int.fdiv (IntKind.wrap .u64 ((BitVec.ofInt (IntKind.bits .u64) (IntKind.wrap .u64 ((Int.fdiv (IntKind.wrap .u64 ((IntKind.wrap .u64 ((BitVec.ofInt (IntKind.bits .u64) (Int.fdiv (IntKind.wrap .u64 ((IntKind.wrap .u64 ((BitVec.ofInt (IntKind.bits .u64) (Int.fdiv xa (2 ^ (min (Int.toNat 1) (IntKind.bits .u64)))) &&& BitVec.ofInt (IntKind.bits .u64) 6148914691236517205).toNat:Int)) + (IntKind.wrap .u64 ((BitVec.ofInt (IntKind.bits .u64) xa &&& BitVec.ofInt (IntKind.bits .u64) 6148914691236517205).toNat:Int)))) (2 ^ (min (Int.toNat 2) (IntKind.bits .u64)))) &&& BitVec.ofInt (IntKind.bits .u64) 3689348814741910323).toNat:Int)) + (IntKind.wrap .u64 ((BitVec.ofInt (IntKind.bits .u64) (IntKind.wrap .u64 ((IntKind.wrap .u64 ((BitVec.ofInt (IntKind.bits .u64) (Int.fdiv xa (2 ^ (min (Int.toNat 1) (IntKind.bits .u64)))) &&& BitVec.ofInt (IntKind.bits .u64) 6148914691236517205).toNat:Int)) + (IntKind.wrap .u64 ((BitVec.ofInt (IntKind.bits .u64) xa &&& BitVec.ofInt (IntKind.bits .u64) 6148914691236517205).toNat:Int)))) &&& BitVec.ofInt (IntKind.bits .u64) 3689348814741910323).toNat:Int)))) (2 ^ (min (Int.toNat 4) (IntKind.bits .u64)))) + (IntKind.wrap .u64 ((IntKind.wrap .u64 ((BitVec.ofInt (IntKind.bits .u64) (Int.fdiv (IntKind.wrap .u64 ((IntKind.wrap .u64 ((BitVec.ofInt (IntKind.bits .u64) (Int.fdiv xa (2 ^ (min (Int.toNat 1) (IntKind.bits .u64)))) &&& BitVec.ofInt (IntKind.bits .u64) 6148914691236517205).toNat:Int)) + (IntKind.wrap .u64 ((BitVec.ofInt (IntKind.bits .u64) xa &&& BitVec.ofInt (IntKind.bits .u64) 6148914691236517205).toNat:Int)))) (2 ^ (min (Int.toNat 2) (IntKind.bits .u64)))) &&& BitVec.ofInt (IntKind.bits .u64) 3689348814741910323).toNat:Int)) + (IntKind.wrap .u64 ((BitVec.ofInt (IntKind.bits .u64) (IntKind.wrap .u64 ((IntKind.wrap .u64 ((BitVec.ofInt (IntKind.bits .u64) (Int.fdiv xa (2 ^ (min (Int.toNat 1) (IntKind.bits .u64)))) &&& BitVec.ofInt (IntKind.bits .u64) 6148914691236517205).toNat:Int)) + (IntKind.wrap .u64 ((BitVec.ofInt (IntKind.bits .u64) xa &&& BitVec.ofInt (IntKind.bits .u64) 6148914691236517205).toNat:Int)))) &&& BitVec.ofInt (IntKind.bits .u64) 3689348814741910323).toNat:Int)))))) &&& BitVec.ofInt (IntKind.bits .u64) 1085102592571150095).toNat:Int)) (2 ^ (min (Int.toNat 8) (IntKind.bits .u64)))))) + (Int.fdiv (IntKind.wrap .u64 ((IntKind.wrap .u64 ((BitVec.ofInt (IntKind.bits .u64) (IntKind.wrap .u64 ((Int.fdiv (IntKind.wrap .u64 ((IntKind.wrap .u64 ((BitVec.ofInt (IntKind.bits .u64) (Int.fdiv (IntKind.wrap .u64 ((IntKind.wrap .u64 ((BitVec.ofInt (IntKind.bits .u64) (Int.fdiv xa (2 ^ (min (Int.toNat 1) (IntKind.bits .u64)))) &&& BitVec.ofInt (IntKind.bits .u64) 6148914691236517205).toNat:Int)) + (IntKind.wrap .u64 ((BitVec.ofInt (IntKind.bits .u64) xa &&& BitVec.ofInt (IntKind.bits .u64) 6148914691236517205).toNat:Int)))) (2 ^ (min (Int.toNat 2) (IntKind.bits .u64)))) &&& BitVec.ofInt (IntKind.bits .u64) 3689348814741910323).toNat:Int)) + (IntKind.wrap .u64 ((BitVec.ofInt (IntKind.bits .u64) (IntKind.wrap .u64 ((IntKind.wrap .u64 ((BitVec.ofInt (IntKind.bits .u64) (Int.fdiv xa (2 ^ (min (Int.toNat 1) (IntKind.bits .u64)))) &&& BitVec.ofInt (IntKind.bits .u64) 6148914691236517205).toNat:Int)) + (IntKind.wrap .u64 ((BitVec.ofInt (IntKind.bits .u64) xa &&& BitVec.ofInt (IntKind.bits .u64) 6148914691236517205).toNat:Int)))) &&& BitVec.ofInt (IntKind.bits .u64) 3689348814741910323).toNat:Int)))) (2 ^ (min (Int.toNat 4) (IntKind.bits .u64)))) + (IntKind.wrap .u64 ((IntKind.wrap .u64 ((BitVec.ofInt (IntKind.bits .u64) (Int.fdiv (IntKind.wrap .u64 ((IntKind.wrap .u64 ((BitVec.ofInt (IntKind.bits .u64) (Int.fdiv xa (2 ^ (min (Int.toNat 1) (IntKind.bits .u64)))) &&& BitVec.ofInt (IntKind.bits .u64) 6148914691236517205).toNat:Int)) + (IntKind.wrap .u64 ((BitVec.ofInt (IntKind.bits .u64) xa &&& BitVec.ofInt (IntKind.bits .u64) 6148914691236517205).toNat:Int)))) (2 ^ (min (Int.toNat 2) (IntKind.bits .u64)))) &&& BitVec.ofInt (IntKind.bits .u64) 3689348814741910323).toNat:Int)) + (IntKind.wrap .u64 ((BitVec.ofInt (IntKind.bits .u64) (IntKind.wrap .u64 ((IntKind.wrap .u64 ((BitVec.ofInt (IntKind.bits .u64) (Int.fdiv xa (2 ^ (min (Int.toNat 1) (IntKind.bits .u64)))) &&& BitVec.ofInt (IntKind.bits .u64) 6148914691236517205).toNat:Int)) + (IntKind.wrap .u64 ((BitVec.ofInt (IntKind.bits .u64) xa &&& BitVec.ofInt (IntKind.bits .u64) 6148914691236517205).toNat:Int)))) &&& BitVec.ofInt (IntKind.bits .u64) 3689348814741910323).toNat:Int)))))) &&& BitVec.ofInt (IntKind.bits .u64) 1085102592571150095).toNat:Int)) + (Int.fdiv (IntKind.wrap .u64 ((BitVec.ofInt (IntKind.bits .u64) (IntKind.wrap .u64 ((Int.fdiv (IntKind.wrap .u64 ((IntKind.wrap .u64 ((BitVec.ofInt (IntKind.bits .u64) (Int.fdiv (IntKind.wrap .u64 ((IntKind.wrap .u64 ((BitVec.ofInt (IntKind.bits .u64) (Int.fdiv xa (2 ^ (min (Int.toNat 1) (IntKind.bits .u64)))) &&& BitVec.ofInt (IntKind.bits .u64) 6148914691236517205).toNat:Int)) + (IntKind.wrap .u64 ((BitVec.ofInt (IntKind.bits .u64) xa &&& BitVec.ofInt (IntKind.bits .u64) 6148914691236517205).toNat:Int)))) (2 ^ (min (Int.toNat 2) (IntKind.bits .u64)))) &&& BitVec.ofInt (IntKind.bits .u64) 3689348814741910323).toNat:Int)) + (IntKind.wrap .u64 ((BitVec.ofInt (IntKind.bits .u64) (IntKind.wrap .u64 ((IntKind.wrap .u64 ((BitVec.ofInt (IntKind.bits .u64) (Int.fdiv xa (2 ^ (min (Int.toNat 1) (IntKind.bits .u64)))) &&& BitVec.ofInt (IntKind.bits .u64) 6148914691236517205).toNat:Int)) + (IntKind.wrap .u64 ((BitVec.ofInt (IntKind.bits .u64) xa &&& BitVec.ofInt (IntKind.bits .u64) 6148914691236517205).toNat:Int)))) &&& BitVec.ofInt (IntKind.bits .u64) 3689348814741910323).toNat:Int)))) (2 ^ (min (Int.toNat 4) (IntKind.bits .u64)))) + (IntKind.wrap .u64 ((IntKind.wrap .u64 ((BitVec.ofInt (IntKind.bits .u64) (Int.fdiv (IntKind.wrap .u64 ((IntKind.wrap .u64 ((BitVec.ofInt (IntKind.bits .u64) (Int.fdiv xa (2 ^ (min (Int.toNat 1) (IntKind.bits .u64)))) &&& BitVec.ofInt (IntKind.bits .u64) 6148914691236517205).toNat:Int)) + (IntKind.wrap .u64 ((BitVec.ofInt (IntKind.bits .u64) xa &&& BitVec.ofInt (IntKind.bits .u64) 6148914691236517205).toNat:Int)))) (2 ^ (min (Int.toNat 2) (IntKind.bits .u64)))) &&& BitVec.ofInt (IntKind.bits .u64) 3689348814741910323).toNat:Int)) + (IntKind.wrap .u64 ((BitVec.ofInt (IntKind.bits .u64) (IntKind.wrap .u64 ((IntKind.wrap .u64 ((BitVec.ofInt (IntKind.bits .u64) (Int.fdiv xa (2 ^ (min (Int.toNat 1) (IntKind.bits .u64)))) &&& BitVec.ofInt (IntKind.bits .u64) 6148914691236517205).toNat:Int)) + (IntKind.wrap .u64 ((BitVec.ofInt (IntKind.bits .u64) xa &&& BitVec.ofInt (IntKind.bits .u64) 6148914691236517205).toNat:Int)))) &&& BitVec.ofInt (IntKind.bits .u64) 3689348814741910323).toNat:Int)))))) &&& BitVec.ofInt (IntKind.bits .u64) 1085102592571150095).toNat:Int)) (2 ^ (min (Int.toNat 8) (IntKind.bits .u64)))))) (2 ^ (min (Int.toNat 16) (IntKind.bits .u64)))))) (2 ^ (min (Int.toNat 32) (IntKind.bits .u64))))))) &&& BitVec.ofInt (IntKind.bits .i64) 127).toNat:Int))
def Iz:Hn Tryz.prog := .nil
def IQ:Spec:=⟨55,⟨[(0,.dat (.int .u64))],[]⟩,[⟨[kdI 0],[]⟩],fun x=>me x⟩
def GM:OkSpec Tryz.prog:=⟨IQ,ae func55 Iz (by kernel_rfl) (by kernel_rfl),call55⟩
def jQ (y1:Tq7):bw→Option (bw⊕Int):=fun (i2,i3)=>cond (decide (i3 < (y1.2.length:Int))) ((aa y1.2 i3).bind fun x4=>(me x4).bind fun i5=>some (.inl ((IntKind.wrap .i64 (i2 + i5),IntKind.wrap .i64 (i3 + 1))))) (some (.inr (i2)))
def fV (xa:(Option Tq7)):Option Int :=
 cond (xa.isNone) (some (0)) (xa.bind fun y1=>(loop (jQ y1) (0,0)).bind fun i2=>some (i2))
def IU:Hn Tryz.prog := .tw 7 .nil (.jn [] ⟨[kdI 3],[]⟩ [] (.lp ⟨[kdI 3,kdI 13],[]⟩ (.tw 14 (.cl GM [] .nil) .nil)) .nil)
def Ih:Spec:=⟨29,⟨[(0,.dat Yq8)],[]⟩,[⟨[kdI 0],[]⟩],fun x=>fV x⟩
def tG:OkSpec Tryz.prog:=⟨Ih,ae func29 IU (by kernel_rfl) (by kernel_rfl),call29⟩
def kb (p1:(Option hY)) (l2:(List (List Int))) (z3:List (Option Tq7)):bW→Option (bW⊕(List (Option Tq7))):=fun (i4,l5)=>cond (decide (i4 < (z3.length:Int))) ((mn p1 i4).bind fun (l6,l7)=>cond (decide (0 < (l6.length:Int))) ((aa l5 i4).bind fun x8=>(mV l2 l6 l7).bind fun o=>match o with | .inl _=>(aa l5 i4).bind fun _=>(bV i4 i4).bind fun _=>(aa (l5.set i4.toNat none) i4).bind fun x9=>(aa (l5.set i4.toNat none) i4).bind fun _=>(bV i4 i4).bind fun _=>(fV x9).bind fun i10=>(aR 2 i10).bind fun _=>some (.inl ((IntKind.wrap .i64 (i4 + 1),(l5.set i4.toNat none).set i4.toNat x9))) | .inr (i11,l12)=>(aa l5 i4).bind fun _=>(bV i4 i4).bind fun _=>(aa (l5.set i4.toNat (some (i11,l12))) i4).bind fun x13=>(aa (l5.set i4.toNat (some (i11,l12))) i4).bind fun _=>(bV i4 i4).bind fun _=>(fV x13).bind fun i14=>(aR 2 i14).bind fun _=>some (.inl ((IntKind.wrap .i64 (i4 + 1),(l5.set i4.toNat (some (i11,l12))).set i4.toNat x13)))) (some (.inl ((IntKind.wrap .i64 (i4 + 1),l5))))) (some (.inr (l5)))
def cw (xa:Tq1):Option ((Option bW)) :=
 (eU xa).bind fun p1=>(qb p1).bind fun i2=>cond (decide (i2=0)) (some ((some (i2,[])))) ((aR 2 i2).bind fun _=>(kC xa).bind fun p3=>(m8 p3 i2).bind fun l4=>(mk (xa.2.2.2.1.length:Int) (xa.2.2.2.1.length:Int) none:Option (List (Option Tq7))).bind fun z5=>(loop (kb p1 l4 z5) (0,z5)).bind fun l6=>some ((some (i2,l6))))
def H0:Hn Tryz.prog := .cl Lq [] (.cl LB [] (.tw 21 (.perb 2 3 ew .nil) (.cl dK [] (.mix [([0,2,3,4,5],1)] [] [6,7] [] (.cl Jt [] (.cl He [] (.ot (.box 121 (.cons (.dat Yq2) (.one (.row 122 (.dat (.int .u64)))))) (.per 4 5 (.jn [] ⟨[],[bkO 6 (.row 73 (.box 121 (.cons (.dat Yq2) (.one (.row 122 (.dat (.int .u64)))))))]⟩ [6,0] (.lp ⟨[kdI 48],[bkO 6 (.row 73 (.box 121 (.cons (.dat Yq2) (.one (.row 122 (.dat (.int .u64)))))))]⟩ (.tw 49 (.cl HL [] (.tw 59 (.opp [4] 6 64 (.mix [([0,1,2,3,4,5,6,7],8)] [9] [10] [12,10] (.per 10 11 (.per 12 13 (.c2 HU [] (.cls 6 16 (.opn 6 75 (.cl tG [19] (.cl dK [] (.cls 6 18 .nil))))) (.cls 6 20 (.opn 6 75 (.cl tG [23] (.cl dK [] (.cls 6 22 .nil)))))))))) .nil)) .nil)) (.per 6 9 (.perb 2 8 ew .nil)))))))))))
def Hw:Spec:=⟨7,⟨[(0,.dat Yq1),(1,.nilp)],[]⟩,[⟨[(0,.dat (.ptr ew))],[]⟩],fun x=>cw x⟩
def oT:OkSpec Tryz.prog:=⟨Hw,ae func7 H0 (by kernel_rfl) (by kernel_rfl),call7⟩

def df (xa:(Option bW)):Option Int :=
 cond (xa.isNone) (some (0)) (xa.bind fun y11=>some (y11.1))
def Hv:Hn Tryz.prog := .tw 4 .nil .nil
def Hq:Spec:=⟨9,⟨[(0,.dat (.ptr ew))],[]⟩,[⟨[kdI 0],[]⟩],fun x=>df x⟩
def lx:OkSpec Tryz.prog:=⟨Hq,ae func9 Hv (by kernel_rfl) (by kernel_rfl),call9⟩
def kd (i1:Int) (x2:((List Tq3)×Tq6)):(bU×Int)→Option ((bU×Int)⊕bU):=fun (l3,i4)=>cond (decide (i4≤(x2.1.length:Int))) ((app l3 (([(i1,i4,decide (i4=(x2.1.length:Int)))]:List (Int×Int×Bool)))).bind fun z5=>some (.inl ((z5,IntKind.wrap .i64 (i4 + 1))))) (some (.inr (l3)))
def kj (xa:Tq1):(bU×Int)→Option ((bU×Int)⊕bU):=fun (l1,i2)=>cond (decide (i2 < (xa.2.2.2.2.2.2.length:Int))) ((aa xa.2.2.2.2.2.2 i2).bind fun x3=>(loop (kd i2 x3) (l1,0)).bind fun l4=>some (.inl ((l4,IntKind.wrap .i64 (i2 + 1))))) (some (.inr (l1)))
def cx (xa:Tq1):Option (bU) :=
 (eW xa).bind fun t1=>cond (!t1) (some (([]:List (Int×Int×Bool)))) ((loop (kj xa) ((([]:List (Int×Int×Bool)),0))).bind fun l2=>some (l2))
def Ij:Hn Tryz.prog := .cl zJ [] (.tw 10 .nil (.jn [] ⟨[(3,.own 76 (.cons Yq2 Yq3)),(7,.any)],[]⟩ [2] (.lp ⟨[(3,.own 76 (.cons Yq2 Yq3)),kdI 4],[]⟩ (.tw 16 (.pl (.pl (.jn [] ⟨[(3,.own 76 (.cons Yq2 Yq3))],[]⟩ [4] (.lp ⟨[(3,.own 76 (.cons Yq2 Yq3)),kdI 6],[]⟩ (.tw 28 .nil .nil)) .nil))) .nil)) .nil))
def GN:Spec:=⟨8,⟨[(0,.dat Yq1)],[]⟩,[⟨[(0,.own 76 (.cons Yq2 Yq3))],[]⟩],fun x=>cx x⟩
def tB:OkSpec Tryz.prog:=⟨GN,ae func8 Ij (by kernel_rfl) (by kernel_rfl),call8⟩
def mw (xb:Int) (y1:bW):aQ→Option (aQ⊕(List Int)):=fun (l2,i3)=>cond (decide (i3 < (y1.2.length:Int))) ((aa y1.2 i3).bind fun x4=>(bZ x4 xb).bind fun t5=>cond (t5) ((app l2 ([i3]:List Int)).bind fun z6=>some (.inl ((z6,IntKind.wrap .i64 (i3 + 1))))) (some (.inl ((l2,IntKind.wrap .i64 (i3 + 1)))))) (some (.inr (l2)))
def cN (xa:(Option bW)) (xb:Int):Option (List Int) :=
 cond (xa.isNone) (some ([])) (xa.bind fun y1=>(loop (mw xb y1) ([],0)).bind fun l2=>some (l2))
def H4:Hn Tryz.prog := .tw 9 .nil (.jn [] ⟨[(5,.own 3 Yq2)],[]⟩ [] (.lp ⟨[(5,.own 3 Yq2),kdI 15],[]⟩ (.tw 16 (.cl fx [] (.tw 22 .nil .nil)) .nil)) .nil)
def Ip:Spec:=⟨13,⟨[(0,.dat (.ptr ew)),kdI 1],[]⟩,[⟨[(0,.own 3 Yq2)],[]⟩],fun x=>cN x.1 x.2⟩
def pe:OkSpec Tryz.prog:=⟨Ip,ae func13 H4 (by kernel_rfl) (by kernel_rfl),call13⟩
def mJ (xa:(List Int)) (xb:(List Int)):Int→Option (Int⊕(Unit⊕Bool)):=fun i1=>cond (decide (i1 < (xa.length:Int))) ((aa xa i1).bind fun x2=>(aa xb i1).bind fun x3=>cond (!decide (x2=x3)) (some (.inr ((.inr (false))))) (some (.inl (IntKind.wrap .i64 (i1 + 1))))) (some (.inr ((.inl ()))))
def ix (xa:(List Int)) (xb:(List Int)):Option Bool :=
 cond (!decide ((xa.length:Int)=(xb.length:Int))) (some (false)) ((loop (mJ xa xb) 0).bind fun o=>match o with | .inr r=>some r | .inl ()=>some (true))
def HC:Hn Tryz.prog := .tw 10 .nil (.jx [] ⟨[],[]⟩ [] (.lp ⟨[kdI 5],[]⟩ (.tw 14 (.mix [] [0,1,2,3,4,5,6,7,8] [] [] (.tw 25 .nil .nil)) .nil)) .nil)
def Hj:Spec:=⟨17,⟨[(0,.dat (.sl Yq2)),(1,.dat (.sl Yq2))],[]⟩,[⟨[kdB 0],[]⟩],fun x=>ix x.1 x.2⟩
def tF:OkSpec Tryz.prog:=⟨Hj,ae func17 HC (by kernel_rfl) (by kernel_rfl),call17⟩
def mh (y1:bW):bw→Option (bw⊕Int):=fun (i2,i3)=>cond (decide (i3 < (y1.2.length:Int))) ((aa y1.2 i3).bind fun x4=>(fV x4).bind fun i5=>some (.inl ((IntKind.wrap .i64 (i2 + i5),IntKind.wrap .i64 (i3 + 1))))) (some (.inr (i2)))
def dR (xa:(Option bW)):Option Int :=
 cond (xa.isNone) (some (0)) (xa.bind fun y1=>(loop (mh y1) (0,0)).bind fun i2=>some (i2))
def Gx:Hn Tryz.prog := .tw 7 .nil (.jn [] ⟨[kdI 3],[]⟩ [] (.lp ⟨[kdI 3,kdI 13],[]⟩ (.tw 14 (.cl tG [] .nil) .nil)) .nil)
def HD:Spec:=⟨12,⟨[(0,.dat (.ptr ew))],[]⟩,[⟨[kdI 0],[]⟩],fun x=>dR x⟩
def pq:OkSpec Tryz.prog:=⟨HD,ae func12 Gx (by kernel_rfl) (by kernel_rfl),call12⟩

def iu  : Option Bool :=
 (mk 3 3 ([]):Option (List Tq2)).bind fun z1=>(cw ((1,1,[],z1,[],[],([(([(1,1,2,0,false),(4,0,1,0,false)]:List Tq3),(3,0,0,[],[],[]))]:List ((List Tq3)×Tq6))))).bind fun p2=>(cN p2 0).bind fun l3=>(ix l3 ([0,2]:List Int)).bind fun t4=>(cond (t4) ((cN p2 1).bind fun l5=>(ix l5 ([0,1]:List Int)).bind fun t6=>some (t6)) (some (false))).bind fun t7=>(cond (t7) ((cN p2 2).bind fun l8=>(ix l8 ([0]:List Int)).bind fun t9=>some (t9)) (some (false))).bind fun t10=>(cond (t10) ((dR p2).bind fun i11=>some (decide (i11=5))) (some (false))).bind fun t12=>some (t12)
def AW:Hn Tryz.prog := .per 2 3 (.per 0 1 (.per 4 5 (.cl oT [] (.cl pe [] (.cl tF [6,8] (.gj 4 ⟨[kdB 20],[]⟩ [] (.two 15 (.cl pe [] (.cl tF [10,12] .nil)) .nil) (.wt 21 (.gj 4 ⟨[kdB 26],[]⟩ [] (.two 21 (.cl pe [] (.cl tF [10,12] .nil)) .nil) (.wt 27 (.gj 3 ⟨[kdB 31],[]⟩ [] (.two 27 (.cl pq [] .nil) .nil) .nil))))))))))
def uF:Spec:=⟨6,⟨[],[]⟩,[⟨[kdB 0],[]⟩],fun x=>iu⟩
theorem AR:cX Tryz.prog uF:=ae func6 AW (by kernel_rfl) (by kernel_rfl)
def uE:OkSpec Tryz.prog:=⟨uF,AR,call6⟩

def eQ (xa:(Option bW)) (xb:Int):Option ((Option Tq7)) :=
 (cond (xa.isNone||(decide (xb < 0))) (some (true)) (xa.bind fun y68=>some (decide ((y68.2.length:Int)≤xb)))).bind fun t66=>cond (t66) (some (none)) (xa.bind fun y79=>(aa y79.2 xb).bind fun x89=>some (x89))
def HJ:Hn Tryz.prog := .gp 2 (.wt 11 (.gj 7 ⟨[kdB 19],[]⟩ [] (.two 11 .nil .nil) (.tw 19 .nil .nil)))
def IA:Spec:=⟨33,⟨[(0,.dat (.ptr ew)),kdI 1],[]⟩,[⟨[(0,.dat Yq8)],[]⟩],fun x=>eQ x.1 x.2⟩
def zu:OkSpec Tryz.prog:=⟨IA,ae func33 HJ (by kernel_rfl) (by kernel_rfl),call33⟩

def eP (xa:(Option bW)) (xb:Int) (xc:Int):Option Bool :=
 (eQ xa xc).bind fun p18=>(bZ p18 xb).bind fun t26=>some (t26)
def Ia:Hn Tryz.prog := .cl zu [] (.cl fx [] .nil)
def GK:Spec:=⟨16,⟨[(0,.dat (.ptr ew)),kdI 1,kdI 2],[]⟩,[⟨[kdB 0],[]⟩],fun x=>eP x.1 x.2.1 x.2.2⟩
def tg:OkSpec Tryz.prog:=⟨GK,ae func16 Ia (by kernel_rfl) (by kernel_rfl),call16⟩
def kp (xa:bU) (xb:Int) (xc:Int):Int→Option (Int⊕(Unit⊕(Int×Bool))):=fun i1=>cond (decide (i1 < (xa.length:Int))) ((aa xa i1).bind fun x2=>(cond (decide (x2.1=xb)) ((aa xa i1).bind fun x3=>some (decide (x3.2.1=xc))) (some (false))).bind fun t4=>cond (t4) (some (.inr ((.inr ((i1,true)))))) (some (.inl (IntKind.wrap .i64 (i1 + 1))))) (some (.inr ((.inl ()))))
def kD (xa:bU) (xb:Int) (xc:Int):Option (Int×Bool) :=
 (loop (kp xa xb xc) 0).bind fun o=>match o with | .inr r=>some r | .inl ()=>some ((0,false))
def Iq:Hn Tryz.prog := .jx [] ⟨[],[]⟩ [] (.lp ⟨[kdI 8],[]⟩ (.tw 12 (.wt 22 (.gj 7 ⟨[kdB 30],[]⟩ [] (.two 22 .nil .nil) (.tw 30 .nil .nil))) .nil)) .nil
def HN:Spec:=⟨101,⟨[(0,.dat (.sl (.cons Yq2 Yq3))),kdI 1,kdI 2],[]⟩,[⟨[(0,.tup [.dat Yq2,.dat .bool])],[]⟩],fun x=>kD x.1 x.2.1 x.2.2⟩
def Iw:OkSpec Tryz.prog:=⟨HN,ae func101 Iq (by kernel_rfl) (by kernel_rfl),call101⟩
def qm (xb:bU) (xd:Int) (x1:((List Tq3)×Tq6)):Int→Option (Int⊕(Unit⊕Bool)):=fun i2=>cond (decide (i2 < (x1.2.2.2.2.1.length:Int))) ((aa x1.2.2.2.2.1 i2).bind fun x3=>(kD xb x3 0).bind fun (i4,t5)=>cond (t5&&(decide (i4=xd))) (some (.inr ((.inr (true))))) (some (.inl (IntKind.wrap .i64 (i2 + 1))))) (some (.inr ((.inl ()))))
def kx (xa:Tq1) (xb:bU) (xc:Int) (xd:Int):Option Bool :=
 (aa xb xc).bind fun x1=>cond (!x1.2.2) (some (decide (xd=(IntKind.wrap .i64 (xc + 1))))) ((aa xb xc).bind fun x2=>(aa xa.2.2.2.2.2.2 x2.1).bind fun x3=>(loop (qm xb xd x3) 0).bind fun o=>match o with | .inr r=>some r | .inl ()=>some (false))
def Il:Hn Tryz.prog := .tw 18 .nil (.mix [] [0,1,2,3,4,5,6,7,8,9,10,11] [] [] (.jx [] ⟨[],[]⟩ [0] (.lp ⟨[kdI 10],[]⟩ (.tw 37 (.cl Iw [] (.gp 3 (.tw 54 .nil .nil))) .nil)) .nil))
def HY:Spec:=⟨85,⟨[(0,.dat Yq1),(1,.dat (.sl (.cons Yq2 Yq3))),kdI 2,kdI 3],[]⟩,[⟨[kdB 0],[]⟩],fun x=>kx x.1 x.2.1 x.2.2.1 x.2.2.2⟩
def Iy:OkSpec Tryz.prog:=⟨HY,ae func85 Il (by kernel_rfl) (by kernel_rfl),call85⟩
def j9 (xa:Tq1) (l1:bU) (i2:Int):(Tq5×Int)→Option ((Tq5×Int)⊕Tq5):=fun (l3,i4)=>cond (decide (i4 < (l1.length:Int))) ((kx xa l1 i2 i4).bind fun t5=>cond (t5) ((app l3 (([(i2,i4)]:List bw))).bind fun z6=>some (.inl ((z6,IntKind.wrap .i64 (i4 + 1))))) (some (.inl ((l3,IntKind.wrap .i64 (i4 + 1)))))) (some (.inr (l3)))
def ka (xa:Tq1) (l1:bU):(Tq5×Int)→Option ((Tq5×Int)⊕Tq5):=fun (l2,i3)=>cond (decide (i3 < (l1.length:Int))) ((loop (j9 xa l1 i3) (l2,0)).bind fun l4=>some (.inl ((l4,IntKind.wrap .i64 (i3 + 1))))) (some (.inr (l2)))
def ky (xa:Tq1):Option (Tq5) :=
 (cx xa).bind fun l1=>(loop (ka xa l1) ((([]:List bw),0))).bind fun l2=>some (l2)
def GI:Hn Tryz.prog := .cl tB [] (.jn [] ⟨[(4,.own 130 cM),(9,.any)],[]⟩ [4] (.lp ⟨[(4,.own 130 cM),kdI 5],[]⟩ (.tw 13 (.pl (.pl (.jn [] ⟨[(4,.own 130 cM)],[]⟩ [6] (.lp ⟨[(4,.own 130 cM),kdI 6],[]⟩ (.tw 19 (.cl Iy [2] (.tw 26 .nil .nil)) .nil)) .nil))) .nil)) .nil)
def GV:Spec:=⟨58,⟨[(0,.dat Yq1)],[]⟩,[⟨[(0,.own 130 cM)],[]⟩],fun x=>ky x⟩
def IW:OkSpec Tryz.prog:=⟨GV,ae func58 GI (by kernel_rfl) (by kernel_rfl),call58⟩
def mE (xc:Int) (x1:((List Tq3)×Tq6)):Int→Option (Int⊕(Unit⊕Bool)):=fun i2=>cond (decide (i2 < (x1.2.2.2.2.2.1.length:Int))) ((aa x1.2.2.2.2.2.1 i2).bind fun x3=>cond (decide (x3=xc)) (some (.inr ((.inr (true))))) (some (.inl (IntKind.wrap .i64 (i2 + 1))))) (some (.inr ((.inl ()))))
def iv (xa:Tq1) (xb:(Int×Int×Bool)) (xc:Int):Option Bool :=
 (aa xa.2.2.2.2.2.2 xb.1).bind fun x1=>cond (!xb.2.2) ((aa x1.1 xb.2.1).bind fun x2=>some (((decide (1≤x2.1))&&(decide (x2.1≤4)))&&(decide (x2.2.2.1=xc)))) (cond (decide (x1.2.1=3)) (some (decide (xc=0))) ((loop (mE xc x1) 0).bind fun o=>match o with | .inr r=>some r | .inl ()=>some (false)))
def IJ:Hn Tryz.prog := .tw 18 (.wt 28 (.gp 3 (.wt 33 (.gp 4 .nil)))) (.tw 42 .nil (.jx [] ⟨[],[]⟩ [2,0] (.lp ⟨[kdI 9],[]⟩ (.tw 50 (.tw 60 .nil .nil) .nil)) .nil))
def Hl:Spec:=⟨59,⟨[(0,.dat Yq1),(1,.dat (.cons Yq2 Yq3)),kdI 2],[]⟩,[⟨[kdB 0],[]⟩],fun x=>iv x.1 x.2.1 x.2.2⟩
def GP:OkSpec Tryz.prog:=⟨Hl,ae func59 IJ (by kernel_rfl) (by kernel_rfl),call59⟩

def iq (xa:Tq1) (xb:(Int×Int×Bool)) (xc:Int):Option Bool :=
 (aa xa.2.2.2.2.2.2 xb.1).bind fun x58=>cond (!xb.2.2) ((aa x58.1 xb.2.1).bind fun x85=>some (((((decide (x85.1=1))||(decide (x85.1=2)))||(decide (x85.1=3)))||(decide (x85.1=5)))&&(decide (x85.2.1=xc)))) (some ((decide (x58.2.1=4))&&(decide (x58.2.2.2.1=xc))))
def Hk:Hn Tryz.prog := .tw 17 (.wt 27 (.gp 3 (.wt 32 (.gp 3 (.wt 37 (.gp 3 (.wt 42 (.gp 4 .nil)))))))) (.wt 52 (.gp 5 .nil))
def Ha:Spec:=⟨60,⟨[(0,.dat Yq1),(1,.dat (.cons Yq2 Yq3)),kdI 2],[]⟩,[⟨[kdB 0],[]⟩],fun x=>iq x.1 x.2.1 x.2.2⟩
def IX:OkSpec Tryz.prog:=⟨Ha,ae func60 Hk (by kernel_rfl) (by kernel_rfl),call60⟩
def jX (xa:Tq1) (xb:Int) (l1:bU):aQ→Option (aQ⊕(List Int)):=fun (l2,i3)=>cond (decide (i3 < (l1.length:Int))) ((aa l1 i3).bind fun x4=>(iv xa (x4.1,x4.2.1,x4.2.2) xb).bind fun t5=>cond (t5) ((app l2 ([1]:List Int)).bind fun z6=>some (.inl ((z6,IntKind.wrap .i64 (i3 + 1))))) ((app l2 ([0]:List Int)).bind fun z7=>some (.inl ((z7,IntKind.wrap .i64 (i3 + 1)))))) (some (.inr (l2)))
def jZ (xa:Tq1) (xb:Int) (l1:bU) (l2:Tq5):((List Int)×Bool×Int)→Option (((List Int)×Bool×Int)⊕((List Int)×Bool)):=fun (l3,t4,i5)=>cond (decide (i5 < (l2.length:Int))) ((aa l2 i5).bind fun x6=>((aa l3 x6.1).bind fun x7=>cond (decide (x7=0)) ((aa l2 i5).bind fun x8=>(aa l3 x8.2).bind fun x9=>cond (decide (x9=1)) ((aa l1 x6.1).bind fun x10=>(iq xa (x10.1,x10.2.1,x10.2.2) xb).bind fun t11=>some (!t11)) (some (false))) (some (false)):Option Bool).bind fun t12=>cond (t12) ((aa l3 x6.1).bind fun x13=>(some (l3.set x6.1.toNat 1)).bind fun z14=>some (.inl ((z14,true,IntKind.wrap .i64 (i5 + 1))))) (some (.inl ((l3,t4,IntKind.wrap .i64 (i5 + 1)))))) (some (.inr (((l3,t4)))))
def qf (xa:Tq1) (xb:Int) (l1:bU) (l2:Tq5):((List Int)×Bool)→Option (((List Int)×Bool)⊕(List Int)):=fun (l3,t4)=>cond (t4) ((loop (jZ xa xb l1 l2) (l3,false,0)).bind fun (l5,t6)=>some (.inl (l5,t6))) (some (.inr (l3)))
def kh (xa:Tq1) (xb:Int):Option (List Int) :=
 (cx xa).bind fun l1=>(ky xa).bind fun l2=>(loop (jX xa xb l1) ((([]:List Int),0))).bind fun l3=>(loop (qf xa xb l1 l2) (l3,true)).bind fun l4=>some (l4)
def Ig:Hn Tryz.prog := .cl tB [] (.cl IW [] (.jn [] ⟨[(7,.own 3 Yq2),(16,.any)],[]⟩ [6] (.lp ⟨[(7,.own 3 Yq2),kdI 8],[]⟩ (.tw 20 (.mix [] [0,1,2,3,4,5] [6] [] (.cl GP [] (.tw 29 .nil .nil))) .nil)) (.jn [] ⟨[(7,.own 3 Yq2)],[]⟩ [8] (.lp ⟨[(7,.own 3 Yq2),kdB 9],[]⟩ (.tw 36 (.pl (.jn [] ⟨[(7,.own 3 Yq2),kdB 9],[]⟩ [10] (.lp ⟨[(7,.own 3 Yq2),kdB 9,kdI 10],[]⟩ (.tw 40 (.pl (.pl (.sq [] ⟨[kdB 73],[]⟩ [] (.mix [] [0,1,2,3,4,5,6,7,8,9,10,11,12,13,14,15,16,17,18,19,20,21,22] [23,24,25] [] (.two 53 (.two 64 (.cl IX [] .nil) .nil) .nil)) (.tw 73 .nil .nil)))) .nil)) .nil)) .nil)) .nil)))
def GB:Spec:=⟨35,⟨[(0,.dat Yq1),kdI 1],[]⟩,[⟨[(0,.own 3 Yq2)],[]⟩],fun x=>kh x.1 x.2⟩
def GJ:OkSpec Tryz.prog:=⟨GB,ae func35 Ig (by kernel_rfl) (by kernel_rfl),call35⟩
def mB (xa:(List Int)):aQ→Option (aQ⊕(List Int)):=fun (l1,i2)=>cond (decide (i2 < (xa.length:Int))) ((aa xa i2).bind fun x3=>cond (decide (x3=1)) ((app l1 ([i2]:List Int)).bind fun z4=>some (.inl ((z4,IntKind.wrap .i64 (i2 + 1))))) (some (.inl ((l1,IntKind.wrap .i64 (i2 + 1)))))) (some (.inr (l1)))
def mY (xa:(List Int)):Option (List Int) :=
 (loop (mB xa) ((([]:List Int),0))).bind fun l1=>some (l1)
def IO:Hn Tryz.prog := .jn [] ⟨[(3,.own 3 Yq2),(5,.any)],[]⟩ [0] (.lp ⟨[(3,.own 3 Yq2),kdI 4],[]⟩ (.tw 9 (.tw 16 .nil .nil) .nil)) .nil
def HT:Spec:=⟨36,⟨[(0,.dat (.sl Yq2))],[]⟩,[⟨[(0,.own 3 Yq2)],[]⟩],fun x=>mY x⟩
def Hr:OkSpec Tryz.prog:=⟨HT,ae func36 IO (by kernel_rfl) (by kernel_rfl),call36⟩

def mW (xa:Tq1) (xb:Int):Option (List Int) :=
 (kh xa xb).bind fun l33=>(mY l33).bind fun l46=>some (l46)
def Gv:Hn Tryz.prog := .cl GJ [] (.per 2 3 (.cl Hr [] .nil))
def Ir:Spec:=⟨18,⟨[(0,.dat Yq1),kdI 1],[]⟩,[⟨[(0,.own 3 Yq2)],[]⟩],fun x=>mW x.1 x.2⟩
def HB:OkSpec Tryz.prog:=⟨Ir,ae func18 Gv (by kernel_rfl) (by kernel_rfl),call18⟩

def mM (xa:(Option Tq7)):Option Unit :=
 some (())
def Hs:Hn Tryz.prog := .nil
def HP:Spec:=⟨57,⟨[(0,.is 0 (.dat Yq8))],[bkM]⟩,[⟨[(0,.fn 83 [.ptr 0 0])],[bkN 73 [.is 1 (.any)],bkU 0]⟩],fun x=>mM x⟩
def IL:OkSpec Tryz.prog:=⟨HP,ae func57 Hs (by kernel_rfl) (by kernel_rfl),call57⟩
def ig (y1:Tq7):bw→Option (bw⊕(bw⊕Int)):=fun (i2,i3)=>cond (decide (i3=0)) (cond (decide ((IntKind.wrap .i64 (i2 + 1))=(y1.2.length:Int))) (some (.inr ((.inr ((-1)))))) ((aa y1.2 (IntKind.wrap .i64 (i2 + 1))).bind fun x4=>some (.inl ((IntKind.wrap .i64 (i2 + 1),x4))))) (some (.inr ((.inl (i2,i3)))))
def eN (xa:(Option Tq7)) (xb:Int):Option Int :=
 (eK xa (if xb < 0 then 0 else xb)).bind fun t1=>cond (!t1) (some ((-1))) (xa.bind fun y2=>(aa y2.2 (IntKind.wrap .i64 (Int.tdiv (if xb < 0 then 0 else xb) 64))).bind fun x3=>(ge0 (Int.tmod (if xb < 0 then 0 else xb) 64)).bind fun u4=>(ge0 (Int.tmod (if xb < 0 then 0 else xb) 64)).bind fun u5=>(loop (ig y2) ((IntKind.wrap .i64 (Int.tdiv (if xb < 0 then 0 else xb) 64),IntKind.wrap .u64 ((Int.fdiv x3 (2 ^ (min (Int.toNat (Int.tmod (if xb < 0 then 0 else xb) 64)) (IntKind.bits .u64)))) * 2 ^ (min (Int.toNat (Int.tmod (if xb < 0 then 0 else xb) 64)) (IntKind.bits .u64)))))).bind fun o=>match o with | .inr r=>some r | .inl (i6,i7)=>(tzF i7).bind fun i8=>some (IntKind.wrap .i64 ((IntKind.wrap .i64 (i6 * 64)) + i8)))
def HV:Hn Tryz.prog := .ms 0 (.cl pp [] (.tw 12 .nil (.jx [] ⟨[kdI 5,(6,.dat (.int .u64))],[]⟩ [] (.lp ⟨[kdI 5,(6,.dat (.int .u64))],[]⟩ (.tw 29 (.tw 38 .nil .nil) .nil)) (.cl HM [] .nil))))
def IC:Spec:=⟨84,⟨[(0,.dat Yq8),kdI 1],[]⟩,[⟨[kdI 0],[]⟩],fun x=>eN x.1 x.2⟩
def zl:OkSpec Tryz.prog:=⟨IC,ae func84 HV (by kernel_rfl) (by kernel_rfl),call84⟩
def qa (xa:(Option Tq7)):Tq7→Option (Tq7⊕(List Int)):=fun (i1,l2)=>cond (decide (0≤i1)) ((app l2 ([i1]:List Int)).bind fun z3=>(eN xa (IntKind.wrap .i64 (i1 + 1))).bind fun i4=>some (.inl (i4,z3))) (some (.inr (l2)))
def im (xa:(Option Tq7)):Option (List Int) :=
 (mM xa).bind fun _=>(eN xa 0).bind fun i1=>(loop (qa xa) (i1,[])).bind fun l2=>some (l2)
def Hz:Hn Tryz.prog := .ms 5 (.cl IL [] (.rg ⟨83,_,func83,call83⟩ (.cl zl [] (.jn [] ⟨[],[bkC 0 43 [.own 3 Yq2],⟨(some 5),0,[],false,false,none,true⟩]⟩ [5,0] (.lp ⟨[kdI 3],[bkC 0 43 [.own 3 Yq2],⟨(some 5),0,[],false,false,none,true⟩]⟩ (.tw 7 (.yl 2 (.cl zl [] .nil)) .nil)) .nil))))
def Gw:Spec:=⟨34,⟨[(0,.dat Yq8)],[]⟩,[⟨[(0,.own 3 Yq2)],[]⟩],fun x=>im x⟩
def IV:OkSpec Tryz.prog:=⟨Gw,ae func34 Hz (by kernel_rfl) (by kernel_rfl),call34⟩

def de (xa:(Option bW)) (xb:Int):Option (List Int) :=
 (eQ xa xb).bind fun p26=>(im p26).bind fun l34=>some (l34)
def Hc:Hn Tryz.prog := .cl zu [] (.cl IV [] .nil)
def HZ:Spec:=⟨14,⟨[(0,.dat (.ptr ew)),kdI 1],[]⟩,[⟨[(0,.own 3 Yq2)],[]⟩],fun x=>de x.1 x.2⟩
def zo:OkSpec Tryz.prog:=⟨HZ,ae func14 Hc (by kernel_rfl) (by kernel_rfl),call14⟩
def jU (xa:Tq1) (p1:(Option bW)) (p2:(Option bW)) (i3:Int):Int→Option (Int⊕(Unit⊕(Int⊕(Unit⊕Bool)))):=fun i4=>cond (decide (i4 < (xa.2.2.2.1.length:Int))) ((eP p2 i3 i4).bind fun t5=>(cond (t5) ((eP p1 i3 i4).bind fun t6=>some (!t6)) (some (false))).bind fun t7=>cond (t7) (some (.inr ((.inr (.inr ((.inr (false)))))))) (some (.inl (IntKind.wrap .i64 (i4 + 1))))) (some (.inr ((.inl ()))))
def jS (xa:Tq1) (p1:(Option bW)) (p2:(Option bW)):Int→Option (Int⊕(Unit⊕Bool)):=fun i3=>(df p1).bind fun i4=>cond (decide (i3 < i4)) ((loop (jU xa p1 p2 i3) 0).bind fun o=>match o with | .inr r=>some r | .inl ()=>some (.inl (IntKind.wrap .i64 (i3 + 1)))) (some (.inr ((.inl ()))))
def jT (xa:Tq1) (l1:(List ((List Tq3)×Tq6))) (p2:(Option bW)):Int→Option (Int⊕(Unit⊕Bool)):=fun i3=>cond (decide (i3 < (xa.2.2.2.1.length:Int))) ((mW (xa.1,xa.2.1,xa.2.2.1,xa.2.2.2.1,xa.2.2.2.2.1,xa.2.2.2.2.2.1,l1) i3).bind fun l4=>(cond (decide ((l4.length:Int)=0)) ((de p2 i3).bind fun l5=>some (decide (0 < (l5.length:Int)))) (some (false))).bind fun t6=>cond (t6) (some (.inr ((.inr (false))))) (some (.inl (IntKind.wrap .i64 (i3 + 1))))) (some (.inr ((.inl ()))))
def qi (xa:Tq1) (xb:Int) (xc:Int):Option Bool :=
 (gy xa).bind fun t1=>(cond (!t1) (some (true)) ((eW xa).bind fun t2=>some (!t2))).bind fun t3=>cond (t3) ((cw xa).bind fun p4=>(df p4).bind fun i5=>(cx xa).bind fun l6=>cond (decide (i5=(l6.length:Int))) ((iu).bind fun t7=>some (t7)) (some (false))) ((app (([]:List ((List Tq3)×Tq6))) xa.2.2.2.2.2.2).bind fun z8=>((cond (((decide (0≤xb))&&(decide (xb < (xa.2.2.2.2.2.2.length:Int))))&&(decide (0≤xc))) ((aa xa.2.2.2.2.2.2 xb).bind fun x9=>some (decide (xc < (x9.1.length:Int)))) (some (false))).bind fun t10=>(cond (t10) ((aa xa.2.2.2.2.2.2 xb).bind fun x11=>(aa x11.1 xc).bind fun x12=>some (decide (x12.1=4))) (some (false))).bind fun t13=>cond (t13) ((aa xa.2.2.2.2.2.2 xb).bind fun x14=>(app (([]:List Tq3)) x14.1).bind fun z15=>(aa z8 xb).bind fun _=>(aa z8 xb).bind fun x16=>(bV xb xb).bind fun _=>(aa z8 xb).bind fun _=>(bV xb xb).bind fun _=>(aa z15 xc).bind fun x17=>(some (z15.set xc.toNat (0,0,0,0,false))).bind fun z18=>some (z8.set xb.toNat ((z18,(x16.2.1,x16.2.2.1,x16.2.2.2.1,x16.2.2.2.2.1,x16.2.2.2.2.2.1,x16.2.2.2.2.2.2))))) (some (z8)):Option ((List ((List Tq3)×Tq6)))).bind fun l19=>(cw xa).bind fun p20=>(cw (xa.1,xa.2.1,xa.2.2.1,xa.2.2.2.1,xa.2.2.2.2.1,xa.2.2.2.2.2.1,l19)).bind fun p21=>(loop (jS xa p20 p21) 0).bind fun o=>match o with | .inr r=>some r | .inl ()=>(loop (jT xa l19 p21) 0).bind fun o=>match o with | .inr r=>some r | .inl ()=>(df p20).bind fun i22=>(df p21).bind fun i23=>(cond (decide (i22=i23)) ((dR p21).bind fun i24=>(dR p20).bind fun i25=>some (decide (i24≤i25))) (some (false))).bind fun t26=>(cond (t26) ((df none).bind fun i27=>some (decide (i27=0))) (some (false))).bind fun t28=>(cond (t28) ((cN none 0).bind fun l29=>some (decide ((l29.length:Int)=0))) (some (false))).bind fun t30=>(cond (t30) ((eP none 0 0).bind fun t31=>some (!t31)) (some (false))).bind fun t32=>(cond (t32) ((de none 0).bind fun l33=>some (decide ((l33.length:Int)=0))) (some (false))).bind fun t34=>(cond (t34) ((dR none).bind fun i35=>some (decide (i35=0))) (some (false))).bind fun t36=>(cond (t36) ((iu).bind fun t37=>some (t37)) (some (false))).bind fun t38=>some (t38))
def AG:Hn Tryz.prog := .cl oQ2 [] (.gj 3 ⟨[kdB 21],[]⟩ [] (.two 17 .nil (.cl zJ [] .nil)) (.tw 21 (.mix [([0,3],1),([],2)] [] [4,5,6,7,8,9,10] [] (.cl oT [] (.cl lx [] (.cl tB [] (.two 29 (.cl uE [] .nil) .nil))))) (.cls 7 8 (.sq [] ⟨[],[bkO 7 (.row 55 (.one (.dat (.cons (.sl Yq6) (.one db)))))]⟩ [7] (.wt 40 (.gp 5 (.wt 47 (.gp 2 (.wt 51 (.gj 9 ⟨[kdB 61],[]⟩ [] (.two 51 .nil .nil) (.wt 62 (.gj 11 ⟨[kdB 74],[]⟩ [] (.two 62 .nil .nil) (.tw 74 (.mix [([0,1,2,4,5,6,7,8,9],3),([],10)] [11,12] [13] [] (.wt 87 (.opn 7 1000001 (.per 13 17 (.cls 7 16 .nil))))) .nil))))))))) (.mix [([0,2],1)] [] [3,4,5] [] (.cl oT [] (.per 7 11 (.cl oT [] (.jx [] ⟨[],[]⟩ [] (.lp ⟨[kdI 10],[]⟩ (.cl lx [] (.tw 104 (.pl (.pl (.jx [] ⟨[],[]⟩ [] (.lp ⟨[kdI 11],[]⟩ (.tw 111 (.cl tg [] (.gj 5 ⟨[kdB 124],[]⟩ [] (.two 118 (.cl tg [] .nil) .nil) (.tw 124 .nil .nil))) .nil)) .nil))) .nil))) (.jx [] ⟨[],[]⟩ [] (.lp ⟨[kdI 12],[]⟩ (.tw 129 (.cl HB [] (.gj 5 ⟨[kdB 143],[]⟩ [] (.two 137 (.cl zo [] .nil) .nil) (.tw 143 .nil .nil))) .nil)) (.cl lx [] (.cl lx [] (.gj 5 ⟨[kdB 155],[]⟩ [] (.two 149 (.cl pq [] (.cl pq [] .nil)) .nil) (.wt 156 (.gj 3 ⟨[kdB 160],[]⟩ [] (.two 156 (.cl lx [] .nil) .nil) (.wt 161 (.gj 4 ⟨[kdB 166],[]⟩ [] (.two 161 (.cl pe [] .nil) .nil) (.wt 167 (.gj 3 ⟨[kdB 171],[]⟩ [] (.two 167 (.cl tg [] .nil) .nil) (.wt 172 (.gj 4 ⟨[kdB 177],[]⟩ [] (.two 172 (.cl zo [] .nil) .nil) (.wt 178 (.gj 3 ⟨[kdB 182],[]⟩ [] (.two 178 (.cl pq [] .nil) .nil) (.wt 183 (.gj 1 ⟨[kdB 185],[]⟩ [] (.two 183 (.cl uE [] .nil) .nil) .nil)))))))))))))))))))))))))
def uA:Spec:=⟨4,⟨[(0,.dat Yq1),kdI 1,kdI 2],[]⟩,[⟨[kdB 0],[]⟩],fun x=>qi x.1 x.2.1 x.2.2⟩
theorem AF:cX Tryz.prog uA:=ae func4 AG (by kernel_rfl) (by kernel_rfl)
end
set_option linter.unnecessarySimpa false
set_option linter.unusedSimpArgs false
open Go.RowKit
abbrev St:=Int×Bool
def shp (xa xb:List St):Bool:=decide (xa.map (·.2)=xb.map (·.2))
theorem vc (xa xb:List St) {body:Int→Option (Int⊕(Unit⊕Bool))} (hl:xa.length=xb.length) (hb:∀ (k:Nat) (h:k < xa.length),body (k:Int)=some (if xa[k].2=(xb[k]'(by omega)).2 then .inl ((k + 1:Nat):Int) else .inr (.inr false))) (he:body (xa.length:Int)=some (.inr (.inl ()))) :
   loop body 0=some (if shp xa xb then .inl () else .inr false):=by
 have:=ve (body:=body) (xa.map (·.2)) (xb.map (·.2)) (.inr false) (.inl ()) (by simp [hl]) (fun k h=>by simpa using hb k (by simpa using h)) (by simpa using he)
 rw [this]; unfold shp
 by_cases h:xa.map (·.2)=xb.map (·.2) <;> simp [h]
theorem r6 {xa xb:List St} (h:¬ xa.length=xb.length):shp xa xb=false:=by
 unfold shp; simp only [decide_eq_false_iff_not]
 intro e; exact h (by simpa using congrArg List.length e)
theorem kV {xa xb:List St} (h:shp xa xb=true):xa.length=xb.length:=by
 unfold shp at h; simpa using congrArg List.length (of_decide_eq_true h)
theorem fh (xa xb:List St):shp xa xb=shp xb xa:=by unfold shp; simp only [eq_comm]
theorem sW (xa:List St) (n:Int):gE xa n=some (decide ((xa.length:Int)≤n)):=rfl
theorem kF (xa xb:List St) (hn:xa.length≤1073741824):gv xa xb=some (shp xa xb):=by
 unfold gv
 by_cases hl:xa.length=xb.length
 . rw [ur hl,cond_false,vc xa xb hl ?_ ?_]
   . cases shp xa xb <;> rfl
   . intro k h; unfold qg
     have h2:k < xb.length:=by omega
     by_cases q:xa[k].2=xb[k].2 <;> simp [ah h,ah h2,h,q,ak h (by omega),yk]
   . simp [qg]
 . rw [oX hl,cond_true,r6 hl]
theorem gF (xa xb:List St) (hn:xa.length≤1073741824):dk xa xb=some (shp xa xb):=by
 unfold dk lR
 by_cases hl:xa.length=xb.length
 . rw [ur hl,cond_false,vc xa xb hl ?_ ?_]
   . cases shp xa xb <;> rfl
   . intro k h; unfold pN qr
     have h2:k < xb.length:=by omega
     by_cases q:xa[k].2=xb[k].2 <;> simp [ah h,ah h2,h,q,ak h (by omega),yk]
   . simp [pN]
 . rw [oX hl,cond_true,r6 hl]; rfl
theorem Ct (xa:List St) (n:Int) (m:Bool) (hn:xa.length≤1000000000):nr xa n m=some ((n,false) :: xa.map fun x=>(x.1,x.2||m)):=by
 unfold nr
 have:=rI xa (fun x:St=>(x.1,x.2||m)) [(n,false)] (by simp; omega) (body:=uJ xa m) (fun c i=>rfl)
 rw [this]; rfl
theorem CA (xa:List St) (n:Int) (m:Bool) (hn:xa.length≤1000000000):na xa n m=some ((n,false) :: xa.map fun x=>(x.1,x.2||m)):=by
 unfold na
 have:=rI xa (fun x:St=>(x.1,x.2||m)) [(n,false)] (by simp; omega) (body:=qp xa m) (fun c i=>by
   unfold qp
   cases hg:aa xa i with
   | none=>simp [hg]
   | some x=>cases h2:x.2 <;> simp [hg,h2])
 rw [this]; rfl
theorem vA {α:Type} (xa:List α) (t:α→Bool):(∃ k,xa.findIdx? t=some k∧xa.any t=true)∨(xa.findIdx? t=none∧xa.any t=false):=by
 cases h:xa.findIdx? t with
 | none =>
   refine .inr ⟨rfl,?_⟩
   rw [List.any_eq_false]; intro x hx; have:=List.findIdx?_eq_none_iff.1 h x hx; simp [this]
 | some k =>
   obtain ⟨hk,h1,_⟩:=List.findIdx?_eq_some_iff_getElem.1 h
   exact .inl ⟨k,rfl,List.any_eq_true.2 ⟨_,List.getElem_mem hk,h1⟩⟩
def rin (n:Int) (xa:List St):Bool:=xa.any fun x=>decide (x.1 < 0)||decide (n≤x.1)
def rck (n:Int) (xa:List St):Int:=if 16 < xa.length then 6 else if rin n xa then 7 else 0
def sbs (xb:List Int) (x:St):St:=(xb.getD x.1.toNat 0,x.2)
theorem B5 {n:Int} {xa:List St} (h:rin n xa=false) {k:Nat} {x:St} (hx:xa[k]? = some x):0≤x.1∧x.1 < n:=by
 unfold rin at h
 have:=List.any_eq_false.1 h x (List.mem_of_getElem? hx)
 simp at this; omega
theorem nY {xb:List Int} {i:Int} (h:0≤i) (h2:i < (xb.length:Nat)):aa xb i=some (xb.getD i.toNat 0):=by
 unfold aa; rw [if_pos h]
 have:i.toNat < xb.length:=by omega
 simp [this]
theorem uM (xa:List St) (n:Int) (hn:xa.length≤1073741824):kv xa n=some (!rin n xa):=by
 unfold kv pR pS
 rw [aS (body:=lT xa n) xa (fun x=>decide (x.1 < 0)||decide (n≤x.1)) (fun k => .inr (k:Int)) (.inl ()) ?_ ?_]
 . rcases vA xa (fun x=>decide (x.1 < 0)||decide (n≤x.1)) with ⟨k,h1,h2⟩ | ⟨h1,h2⟩
   . rw [h1]; unfold rin; simp [h2]
   . rw [h1]; unfold rin; simp [h2]
 . intro k hk
   unfold lT p8
   simp only [dlt hk,cond_true,ah hk,Option.bind_some,ak hk (by omega:xa.length≤9223372036854775807)]
   cases (decide (xa[k].1 < 0)||decide (n≤xa[k].1)) <;> rfl
 . simp [lT]
theorem ne (xa:List St) (n:Int) (hn:xa.length≤1073741824):dj xa n=some (rck n xa):=by
 unfold dj rck
 rw [uM xa n hn]
 by_cases h:16 < xa.length
 . rw [decide_eq_true (by omega),if_pos h]; rfl
 . rw [decide_eq_false (by omega),if_neg h,cond_false]
   cases rin n xa <;> rfl
theorem iE (xa:List St) (n:Int):gA xa n=some (rck n xa):=by
 unfold gA rck
 by_cases h:16 < xa.length
 . rw [decide_eq_true (by omega),if_pos h]; rfl
 . rw [decide_eq_false (by omega),if_neg h,cond_false]
   rw [dp (body:=mG xa n) xa (fun x=>decide (x.1 < 0)||decide (n≤x.1)) (.inr 7) (.inl ()) ?_ ?_]
   . unfold rin; cases (xa.any fun x=>decide (x.1 < 0)||decide (n≤x.1)) <;> rfl
   . intro k hk
     unfold mG
     by_cases q:xa[k].1 < 0 <;> by_cases q2:n≤xa[k].1 <;> simp [hk,ah hk,ak hk (by omega:xa.length≤9223372036854775807),q,q2]
   . simp [mG]
theorem Bl (xa:List St) (hn:xa.length≤1073741824):nc xa=some xa:=by
 unfold nc pX
 rw [sf]
 . rw [aI (by simpa using hn)]; simp
 . rintro rfl; rw [aI (by simp)]; rfl
theorem va (xa:List St) (xb:List Int) (hn:xa.length≤1073741824):kA xa xb=some (if rin xb.length xa then ([],7) else (xa.map (sbs xb),0)):=by
 unfold kA
 rw [uM xa _ hn,Option.bind_some,Bl xa hn]
 cases h:rin xb.length xa with
 | true=>simp
 | false =>
   simp only [Bool.not_false,Bool.not_true,cond_false,Option.bind_some,Bool.false_eq_true,if_false]
   have hl:=aF (body:=ke xb xa) (fun k:Nat=>((xa.take k).map (sbs xb)++xa.drop k,(k:Int))) xa.length (b:=xa.map (sbs xb)) ?_ ?_
   . simp only [List.take_zero,List.map_nil,List.nil_append,List.drop_zero] at hl
     have hl':loop (ke xb xa) (xa,0)=some (xa.map (sbs xb)):=hl
     rw [hl']; rfl
   . intro k hk
     have hg:aa ((xa.take k).map (sbs xb)++xa.drop k) (k:Int)=some xa[k]:=by
       rw [ah (by simp; omega)]
       rw [List.getElem_append_right (by simp; omega)]
       simp [List.getElem_drop,Nat.min_eq_left (Nat.le_of_lt hk)]
     have hr:=B5 h (k:=k) (x:=xa[k]) (by simp [hk])
     unfold ke
     dsimp only
     rw [hg]
     simp only [Option.bind_some,nY hr.1 hr.2,Int.ofNat_lt.2 hk,decide_true,cond_true,ak hk (by omega:xa.length≤9223372036854775807),Int.toNat_natCast]
     congr 3
     rw [List.take_succ_eq_append_getElem hk,List.drop_eq_getElem_cons hk,List.set_append_right _ _ (by simp; omega)]
     rw [List.length_map,List.length_take,Nat.min_eq_left (Nat.le_of_lt hk),Nat.sub_self,List.set_cons_zero,List.map_append,List.append_assoc]
     rfl
   . simp [ke]
theorem qJ (xa:List St) (xb:List Int) (hn:xa.length≤1073741824):kr xa xb=some (if rin xb.length xa then ([],7) else (xa.map (sbs xb),0)):=by
 unfold kr
 have hl:=eX (body:=j7 xa xb)
   (fun k=>∃ x,xa[k]? = some x∧(x.1 < 0∨(xb.length:Int)≤x.1)) (fun k:Nat=>((xa.take k).map (sbs xb),(k:Int))) xa.length (fun _ => .inr ([],7)) (.inl (xa.map (sbs xb))) ?_ ?_ ?_
 . simp only [List.take_zero,List.map_nil] at hl
   rcases hl with ⟨k,h1,⟨x,h2,h2'⟩,_,h3⟩ | ⟨h1,h3⟩
   . have:rin xb.length xa=true:=List.any_eq_true.2 ⟨x,List.mem_of_getElem? h2,by simpa using h2'⟩
     rw [this]; erw [h3]; rfl
   . have:rin xb.length xa=false:=by
       cases hh:rin xb.length xa with
       | false=>rfl
       | true =>
         obtain ⟨x,h4,h5⟩:=List.any_eq_true.1 hh
         obtain ⟨k,h6,rfl⟩:=List.getElem_of_mem h4
         exact absurd ⟨xa[k],by simp [h6],by simpa using h5⟩ (h1 k h6)
     rw [this]; erw [h3]; rfl
 . intro k hk hp
   have hx:¬ (xa[k].1 < 0∨(xb.length:Int)≤xa[k].1):=fun h=>hp ⟨_,by simp [hk],h⟩
   have h1:((decide (xa[k].1 < 0))||(decide (((xb.length:Nat):Int)≤xa[k].1)))=false:=by simp; omega
   have ha:=aI (a:=(xa.take k).map (sbs xb)) (b:=[sbs xb xa[k]]) (by simp; omega)
   have h5:aa xb xa[k].1=some (xb.getD xa[k].1.toNat 0):=nY (by omega) (by omega)
   unfold j7
   dsimp only
   simp only [Option.bind_some,ah hk,h1,cond_false,h5,Int.ofNat_lt.2 hk,decide_true,cond_true,ak hk (by omega:xa.length≤9223372036854775807)]
   rw [show app ((xa.take k).map (sbs xb)) [(xb.getD xa[k].1.toNat 0,xa[k].2)]=_ from ha,List.take_succ_eq_append_getElem hk,List.map_append]
   rfl
 . rintro k hk ⟨x,h1,h2⟩
   have hx:xa[k]=x:=by rw [List.getElem?_eq_getElem hk] at h1; exact Option.some.inj h1
   have h1:((decide (xa[k].1 < 0))||(decide (((xb.length:Nat):Int)≤xa[k].1)))=true:=by rw [hx]; simpa using h2
   unfold j7
   dsimp only
   simp only [Option.bind_some,ah hk,h1,cond_true,Int.ofNat_lt.2 hk,decide_true]
 . simp [j7]
abbrev Nd:=Int×Int×Int×Int×Bool
def jz (kind f:Int) (x y:St):List Nd:=(x.1,y.1,kind,f,false) :: if y.2 then [(y.1,x.1,kind,f,true)] else []
def rel (kind f:Int):List St→List St→List Nd
 | x :: xs,y :: ys=>jz kind f x y++rel kind (f + 1) xs ys
 | _,_=>[]
theorem wv (kind:Int) (x y:St):∀ (xs ys:List St) (f:Int),xs.length=ys.length→rel kind f (xs++[x]) (ys++[y])=rel kind f xs ys++jz kind (f + xs.length) x y
 | [],[],f,_=>by simp [rel]
 | [],_ :: _,f,h=>by simp at h
 | _ :: _,[],f,h=>by simp at h
 | a :: xs,b :: ys,f,h=>by
   simp only [List.cons_append,rel,wv kind x y xs ys (f + 1) (by simpa using h),List.append_assoc,List.length_cons]
   rw [show f + 1 + (xs.length:Int)=f + ((xs.length + 1:Nat):Int) by omega]
theorem cy (kind:Int) (xs ys:List St) (f:Int):(rel kind f xs ys).length≤2 * xs.length:=by
 induction xs generalizing ys f with
 | nil=>simp [rel]
 | cons a xs ih=>cases ys with
   | nil=>simp [rel]
   | cons b ys =>
     have:=ih ys (f + 1)
     cases hb:b.2 <;> simp [rel,jz,hb] <;> omega
theorem iH (xa xb:List St) (kind f:Int) (hl:xa.length=xb.length) (hn:xa.length≤30) (hf : -9223372036854775808≤f) (hf2:f≤1099511627776) (c:List Nd) (hc:c.length≤10) :
   fQ xa xb kind f c=some (c++rel kind f xa xb):=by
 unfold fQ
 have h:=qR (body:=mf xa xb kind f) xa (fun k=>c++rel kind f (xa.take k) (xb.take k)) (c++rel kind f xa xb) ?_ ?_
 . simp only [List.take_zero,rel,List.append_nil] at h
   rw [h]; rfl
 . intro k h
   have h2:k < xb.length:=by omega
   have hlen:=cy kind (xa.take k) (xb.take k) f
   simp only [List.length_take] at hlen
   have hw:IntKind.wrap .i64 (f + (k:Int))=f + k:=w64 (by omega) (by omega)
   unfold mf
   rw [bF h,bF h2,wv _ _ _ _ _ _ (by simp; omega)]
   have e:(xa.take k).length=k:=by simp; omega
   rw [e]
   cases hb:xb[k].2 with
   | true =>
     simp [ah h,ah h2,h,hb,ak h (by omega),hw,jz]
     rw [aI (by simp; omega)]
     simp
     rw [aI (by simp; omega)]
     simp
   | false =>
     simp [ah h,ah h2,h,hb,ak h (by omega),hw,jz]
     rw [aI (by simp; omega)]
     simp
 . have e:xb.take xa.length=xb:=by rw [hl,List.take_length]
   simp [mf,e]
theorem qz (xa xb:List St) (kind f:Int):j6 xa xb kind f=fQ xa xb kind f []:=rfl
theorem nt (xa xb:List St) (kind f:Int) (hn:xa.length≤30) (hf : -9223372036854775808≤f) (hf2:f≤1099511627776):gx xa xb kind f=some (if shp xa xb then (rel kind f xa xb,0) else ([],8)):=by
 unfold gx
 rw [gF _ _ (by omega),Option.bind_some]
 cases hs:shp xa xb with
 | false=>rfl
 | true=>rw [Bool.not_true,cond_false,qz,iH xa xb kind f (kV hs) hn hf hf2 [] (by simp)]; simp
theorem gG (xa xb:List St) (kind f:Int) (hn:xa.length≤30) (hf : -9223372036854775808≤f) (hf2:f≤1099511627776):dW xa xb kind f=some (if shp xa xb then (rel kind f xa xb,0) else ([],8)):=by
 unfold dW
 rw [kF _ _ (by omega),Option.bind_some]
 cases hs:shp xa xb with
 | false=>rfl
 | true=>rw [Bool.not_true,cond_false,iH xa xb kind f (kV hs) hn hf hf2 [] (by simp)]; simp
def lo (n:Int) (m:Bool) (xa xb:List St):List Nd×Int :=
 if shp ((n,false) :: xa.map fun x=>(x.1,x.2||m)) xb then ((n,(xb.head?.getD (0,false)).1,2,0,false) :: rel 1 1 xa (xb.drop 1),0) else ([],8)
theorem sU {n:Int} {m:Bool} {xa xb:List St} (h:shp ((n,false) :: xa.map fun x=>(x.1,x.2||m)) xb=true):xb.length=xa.length + 1:=by
 have:=kV h; simp at this; omega
theorem BT (xa xb:List St) (n:Int) (m:Bool) (hn:xa.length≤30):mZ xa xb n m=some (lo n m xa xb):=by
 unfold mZ lo
 rw [Ct _ _ _ (by omega),Option.bind_some,fh]
 by_cases hb:xb.length≤1000
 . rw [gF _ _ (by omega),Option.bind_some]
   cases hs:shp xb ((n,false) :: xa.map fun x=>(x.1,x.2||m)) with
   | false=>rfl
   | true =>
     have hl:=sU (by rw [fh]; exact hs)
     cases xb with
     | nil=>simp at hl
     | cons y ys =>
       have hl2:xa.length=ys.length:=by simpa using hl.symm
       rw [Bool.not_true,cond_false,show aa (y :: ys) 0=some y from rfl,Option.bind_some,hU (by simp),Option.bind_some,qz,iH _ _ _ _ (by simpa using hl2) hn (by omega) (by omega) _ (by simp)]
       have:=cy 1 xa ys 1
       simp only [List.nil_append,Option.bind_some,List.drop_succ_cons,List.drop_zero]
       rw [aI (by simp; omega)]
       simp
 . have hs:shp xb ((n,false) :: xa.map fun x=>(x.1,x.2||m))=false:=r6 (by simp; omega)
   unfold dk lR
   rw [oX (by simp; omega),cond_true,hs]; rfl
theorem B2 (xa xb:List St) (n:Int) (m:Bool) (hn:xa.length≤30):m5 xa xb n m=some (lo n m xa xb):=by
 unfold m5 lo
 rw [CA _ _ _ (by omega),Option.bind_some,kF _ _ (by simp; omega),Option.bind_some]
 cases hs:shp ((n,false) :: xa.map fun x=>(x.1,x.2||m)) xb with
 | false=>rfl
 | true =>
   have hl:=sU hs
   cases xb with
   | nil=>simp at hl
   | cons y ys =>
     have hl2:xa.length=ys.length:=by simpa using hl.symm
     rw [Bool.not_true,cond_false,show aa (y :: ys) 0=some y from rfl,Option.bind_some,hU (by simp),Option.bind_some,iH _ _ _ _ (by simpa using hl2) hn (by omega) (by omega) _ (by simp)]
     simp
def ag (n:Int) (m:Bool) (xa xb:List St):List Nd×Int :=
 match xa,xb with
 | x :: xs,y :: ys=>if x.2||!shp (x :: xs) (y :: ys)||(m&&xs.any (fun z=>!z.2)) then ([],8) else ((x.1,n,3,0,false) :: (n,y.1,2,0,false) :: rel 1 1 xs ys,0)
 | _,_=>([],8)
theorem FC (xa xb:List St) (m:Bool) (hn:xa.length≤30):mb xa xb m=some (match xa with | []=>false | x :: xs=>!(x.2||!shp xa xb||(m&&xs.any (fun z=>!z.2)))):=by
 unfold mb
 cases xa with
 | nil=>rfl
 | cons x xs =>
   have e0:decide ((((x :: xs).length:Nat):Int)=0)=false:=by simp; omega
   rw [e0,cond_false,show aa (x :: xs) 0=some x from rfl,Option.bind_some,Option.bind_some]
   cases hx:x.2 with
   | true=>simp [hx]
   | false =>
     rw [cond_false,gF _ _ (by omega),Option.bind_some,Option.bind_some]
     cases hs:shp (x :: xs) xb with
     | false=>simp
     | true =>
       rw [Bool.not_true,cond_false,hU (by simp),Option.bind_some]
       unfold pP pQ
       rw [aS (List.drop 1 (x :: xs)) (fun z:St=>!z.2) (fun k => .inr (k:Int)) (.inl ()) ?_ ?_]
       . simp only [List.drop_succ_cons,List.drop_zero]
         cases h:xs.findIdx? (fun z:St=>!z.2) with
         | none =>
           have:xs.any (fun z:St=>!z.2)=false:=by
             rw [List.any_eq_false]; intro z hz; have:=List.findIdx?_eq_none_iff.1 h z hz; simpa using this
           simp [this,hx]
         | some k =>
           obtain ⟨hk,h1,_⟩:=List.findIdx?_eq_some_iff_getElem.1 h
           have:xs.any (fun z:St=>!z.2)=true:=List.any_eq_true.2 ⟨_,List.getElem_mem hk,h1⟩
           simp [this,hx]
       . intro k h
         unfold pO pZ
         simp only [List.drop_succ_cons,List.drop_zero] at h ⊢
         have hn':xs.length≤30:=by simp at hn; omega
         cases hz:xs[k].2 <;> simp [ah h,h,ak h (by omega),hz]
       . simp [pO]
theorem By (xa xb:List St) (n:Int) (m:Bool) (hn:xa.length≤30):mR xa xb n m=some (ag n m xa xb):=by
 unfold mR
 rw [FC _ _ _ hn,Option.bind_some]
 cases xa with
 | nil=>rfl
 | cons x xs =>
   simp only [ag,Bool.not_not]
   by_cases hc:(x.2||!shp (x :: xs) xb||(m&&xs.any (fun z=>!z.2)))=true
   . rw [hc]; cases xb <;> simp_all
   . have hc':(x.2||!shp (x :: xs) xb||(m&&xs.any (fun z=>!z.2)))=false:=by simpa using hc
     have hs:shp (x :: xs) xb=true:=by
       cases q:shp (x :: xs) xb with
       | true=>rfl
       | false=>rw [q] at hc'; simp at hc'
     have hl:=kV hs
     cases xb with
     | nil=>simp at hl
     | cons y ys =>
       simp only [hc',cond_false,if_false,show aa (x :: xs) 0=some x from rfl,show aa (y :: ys) 0=some y from rfl,Option.bind_some,hU (show 1≤(x :: xs).length by simp),hU (show 1≤(y :: ys).length by simp),List.drop_succ_cons,List.drop_zero,Bool.false_eq_true]
       have hl2:xs.length=ys.length:=by simpa using hl
       rw [qz,iH _ _ _ _ hl2 (by simp at hn; omega) (by omega) (by omega) _ (by simp),Option.bind_some]
       have:=cy 1 xs ys 1
       simp at hn
       rw [aI (by simp; omega)]
       simp
theorem Bq (xa xb:List St) (n:Int) (m:Bool) (hn:xa.length≤30):mX xa xb n m=some (ag n m xa xb):=by
 unfold mX
 cases xa with
 | nil=>rfl
 | cons x xs =>
   have e0:decide ((((x :: xs).length:Nat):Int)=0)=false:=by simp; omega
   rw [e0,cond_false,kF _ _ (by omega),Option.bind_some,Option.bind_some]
   cases hs:shp (x :: xs) xb with
   | false=>cases xb <;> simp [ag,hs]
   | true =>
     have hl:=kV hs
     cases xb with
     | nil=>simp at hl
     | cons y ys =>
       have hl2:xs.length=ys.length:=by simpa using hl
       simp only [Bool.not_true,cond_false,show aa (x :: xs) 0=some x from rfl,show aa (y :: ys) 0=some y from rfl,Option.bind_some]
       cases hx:x.2 with
       | true=>simp [ag,hx]
       | false =>
         have hn':xs.length≤29:=by simp at hn; omega
         have hloop:loop (io (x :: xs) m) 1=some (if (m&&xs.any (fun z=>!z.2)) then .inr ([],8) else .inl ()):=by
           have:=Db (body:=io (x :: xs) m) (fun k=>(m&&(xs[k]?.any (fun z=>!z.2)))=true) (fun k=>((k + 1:Nat):Int)) xs.length (.inr ([],8)) (.inl ()) ?_ ?_ ?_
           . rw [show ((1:Int))=((0 + 1:Nat):Int) from rfl,this]
             congr 1
             by_cases hq:(m&&xs.any (fun z=>!z.2))=true
             . rw [if_pos hq,if_pos]
               simp only [Bool.and_eq_true] at hq
               obtain ⟨z,hz,hz2⟩:=List.any_eq_true.1 hq.2
               obtain ⟨k,hk,rfl⟩:=List.getElem_of_mem hz
               exact ⟨k,hk,by simp [hq.1,hk]; simpa using hz2⟩
             . rw [if_neg hq,if_neg]
               rintro ⟨k,hk,hk2⟩
               apply hq
               simp [hk] at hk2
               rw [hk2.1,Bool.true_and]
               exact List.any_eq_true.2 ⟨_,List.getElem_mem hk,by simpa using hk2.2⟩
           . intro k hk hp
             have h2:k + 1 < (x :: xs).length:=by simp; omega
             simp [hk] at hp
             unfold io
             rw [dlt h2,cond_true,ak h2 (by simp; omega)]
             cases m with
             | false=>simp
             | true=>simp [yZ h2,hp rfl]
           . intro k hk hp
             have h2:k + 1 < (x :: xs).length:=by simp; omega
             simp [hk] at hp
             unfold io
             rw [dlt h2,cond_true]
             simp [yZ h2,hp.1,hp.2]
           . simp [io]
         rw [hloop]
         by_cases hq:(m&&xs.any (fun z=>!z.2))=true
         . simp [ag,hx,hs,hq]
         . have hq':(m&&xs.any (fun z=>!z.2))=false:=by simpa using hq
           rw [hq']
           simp only [cond_false,Option.bind_some,if_false,hU (show 1≤(x :: xs).length by simp),hU (show 1≤(y :: ys).length by simp),List.drop_succ_cons,List.drop_zero,Bool.false_eq_true]
           rw [iH _ _ _ _ hl2 (by omega) (by omega) (by omega) _ (by simp)]
           simp [ag,hx,hs,hq']
theorem DL (n:Int) (m:Bool) (xa xb:List St) (h:xa.length≤30):(lo n m xa xb).1.length≤100:=by
 unfold lo
 have:=cy 1 xa (xb.drop 1) 1
 simp at this
 split <;> simp; omega
theorem DB (n:Int) (m:Bool) (xa xb:List St) (h:xa.length≤30):(ag n m xa xb).1.length≤100:=by
 unfold ag
 split
 . rename_i x xs y ys
   have:=cy 1 xs ys 1
   simp at h
   split <;> simp; omega
 . simp
abbrev Sg:=Int×List (Int×Int)×List (List St)×List St
def aK (n:Int) (b:Int×Int):Bool:=(((decide (b.1 < 0))||(decide (n≤b.1)))||(decide (b.2 < 0)))||(decide (n≤b.2))
def lc (n:Int) (A:List (List St)):Unit⊕Int:=match A.findIdx? (fun t=>!decide (rck n t=0)) with | some k => .inr (rck n (A.getD k [])) | none => .inl ()
def chk (s:Sg):Int :=
 if s.1 < 0 then 7 else if 16 < s.1∨16 < s.2.1.length∨16 < s.2.2.1.length then 6 else if s.2.1.any (aK s.1) then 7
 else match lc s.1 s.2.2.1 with | .inr e=>e | .inl ()=>rck s.1 s.2.2.2
theorem se (a:Int) (b c:Nat):(((decide (16 < a))||(decide (16 < ((b:Nat):Int))))||(decide (16 < ((c:Nat):Int))))=decide (16 < a∨16 < b∨16 < c):=by
 by_cases h1:16 < a <;> by_cases h2:16 < b <;> by_cases h3:16 < c <;> simp [h1,h2,h3] <;> omega
theorem tc {n:Int} {A:List (List St)} {body:Int→Option (Int⊕(Unit⊕Int))} (hn:A.length≤1000) (hb:∀ (k:Nat) (h:k < A.length),body (k:Int)=cond (!decide (rck n A[k]=0)) (some (.inr (.inr (rck n A[k])))) (some (.inl (IntKind.wrap .i64 ((k:Int) + 1))))) (he:body (A.length:Int)=some (.inr (.inl ()))):loop body 0=some (lc n A):=by
 rw [aS A (fun t=>!decide (rck n t=0)) (fun k => .inr (rck n (A.getD k []))) (.inl ()) ?_ he]
 . rfl
 . intro k hk
   rw [hb k hk,ak hk (by omega:A.length≤9223372036854775807)]
   have:A.getD k []=A[k]:=by simp [List.getD,hk]
   rw [this]
   cases (!decide (rck n A[k]=0)) <;> rfl
theorem uR (s:Sg) (hr:s.2.2.2.length≤1000) (ha:∀ t∈s.2.2.1,t.length≤1000):cP s=some (chk s):=by
 obtain ⟨n,B,A,R⟩:=s
 unfold cP chk
 dsimp only at *
 by_cases h0:n < 0
 . rw [decide_eq_true h0,if_pos h0]; rfl
 . rw [decide_eq_false h0,if_neg h0,cond_false,se]
   by_cases h1:16 < n∨16 < B.length∨16 < A.length
   . rw [decide_eq_true h1,if_pos h1]; rfl
   . rw [decide_eq_false h1,if_neg h1,cond_false]
     rw [dp (body:=gq (n,B,A,R)) B (aK n) (.inr 7) (.inl ()) ?_ ?_]
     . cases hb:B.any (aK n) with
       | true=>rfl
       | false =>
         simp only [Bool.false_eq_true,if_false,Option.bind_some]
         rw [tc (body:=gt (n,B,A,R)) (n:=n) (A:=A) (by omega) ?_ ?_]
         . rw [ne R n (by omega)]
           simp only [Option.bind_some]
           cases lc n A <;> rfl
         . intro k hk
           unfold gt
           have:=ha A[k] (List.getElem_mem hk)
           simp only [dlt hk,cond_true,ah hk,Option.bind_some]
           rw [ne _ _ (by omega),Option.bind_some]
         . simp [gt]
     . intro k hk
       unfold gq jP
       simp only [dlt hk,cond_true,ah hk,Option.bind_some,ak hk (by omega:B.length≤9223372036854775807)]
       generalize B[k]=b
       obtain ⟨b1,b2⟩:=b
       have e (x:Int):(!((decide (0≤x))&&(decide (x < n))))=(decide (x < 0)||decide (n≤x)):=by
         by_cases p:x < 0 <;> by_cases q:n≤x <;> simp [p,q] <;> omega
       simp only [e,aK]
       by_cases p1:b1 < 0 <;> by_cases p2:n≤b1 <;> by_cases p3:b2 < 0 <;> by_cases p4:n≤b2 <;> simp [p1,p2,p3,p4]
     . simp [gq]
theorem qB (s:Sg):eR s=some (chk s):=by
 obtain ⟨n,B,A,R⟩:=s
 unfold eR chk
 dsimp only at *
 by_cases h0:n < 0
 . rw [decide_eq_true h0,if_pos h0]; rfl
 . rw [decide_eq_false h0,if_neg h0,cond_false,se]
   by_cases h1:16 < n∨16 < B.length∨16 < A.length
   . rw [decide_eq_true h1,if_pos h1]; rfl
   . rw [decide_eq_false h1,if_neg h1,cond_false]
     rw [dp (body:=mC (n,B,A,R)) B (aK n) (.inr 7) (.inl ()) ?_ ?_]
     . cases hb:B.any (aK n) with
       | true=>rfl
       | false =>
         simp only [Bool.false_eq_true,if_false,Option.bind_some]
         rw [tc (body:=mH (n,B,A,R)) (n:=n) (A:=A) (by omega) ?_ ?_]
         . rw [iE R n]
           simp only [Option.bind_some]
           cases lc n A <;> rfl
         . intro k hk
           unfold mH
           simp only [dlt hk,cond_true,ah hk,Option.bind_some]
           rw [iE _ _,Option.bind_some]
         . simp [mH]
     . intro k hk
       unfold mC
       simp only [dlt hk,cond_true,ah hk,Option.bind_some,ak hk (by omega:B.length≤9223372036854775807)]
       generalize B[k]=b
       show cond (aK n b) _ _=_
       cases aK n b <;> rfl
     . simp [mC]
theorem d9 {n:Int} {t:List St} (h:rck n t=0):t.length≤16∧rin n t=false:=by
 unfold rck at h
 by_cases q:16 < t.length
 . rw [if_pos q] at h; cases h
 . rw [if_neg q] at h
   cases hr:rin n t with
   | true=>rw [hr] at h; cases h
   | false=>exact ⟨by omega,rfl⟩
theorem wq {s:Sg} (h:chk s=0):0≤s.1∧s.1≤16∧s.2.1.length≤16∧s.2.2.1.length≤16∧(∀ b∈s.2.1,aK s.1 b=false)∧(∀ t∈s.2.2.1,t.length≤16∧rin s.1 t=false)∧s.2.2.2.length≤16∧rin s.1 s.2.2.2=false:=by
 unfold chk at h
 by_cases h0:s.1 < 0
 . rw [if_pos h0] at h; cases h
 . rw [if_neg h0] at h
   by_cases h1:16 < s.1∨16 < s.2.1.length∨16 < s.2.2.1.length
   . rw [if_pos h1] at h; cases h
   . rw [if_neg h1] at h
     cases hb:s.2.1.any (aK s.1) with
     | true=>rw [hb] at h; cases h
     | false =>
       rw [hb] at h
       simp only [Bool.false_eq_true,if_false] at h
       unfold lc at h
       cases hf:s.2.2.1.findIdx? (fun t=>!decide (rck s.1 t=0)) with
       | some k =>
         rw [hf] at h
         obtain ⟨hk,h2,_⟩:=List.findIdx?_eq_some_iff_getElem.1 hf
         have:s.2.2.1.getD k []=s.2.2.1[k]:=by simp [List.getD,hk]
         simp only [this] at h
         simp [h] at h2
       | none =>
         rw [hf] at h
         have hz:=List.findIdx?_eq_none_iff.1 hf
         refine ⟨by omega,by omega,by omega,by omega,fun b hb2=>?_,fun t ht=>d9 (by simpa using hz t ht),(d9 h).1,(d9 h).2⟩
         have:=List.any_eq_false.1 hb b hb2
         simpa using this
theorem oq (names:List Int) (xs ys:List St):shp xs (ys.map (sbs names))=shp xs ys:=by
 unfold shp; rw [List.map_map]; rfl
theorem wu (names:List Int) (xs ys:List St):shp (xs.map (sbs names)) ys=shp xs ys:=by
 rw [fh,oq,fh]
def mis (A C:List (List St)) (k:Nat):Bool:=!shp (C.getD k []) (A.getD k [])
def fl (names:List Int) (A C:List (List St)) (j:Nat):List Nd:=rel 5 (16 * (j:Int)) (C.getD j []) ((A.getD j []).map (sbs names))
def fls (names:List Int) (A C:List (List St)):Nat→List Nd
 | 0=>[]
 | k + 1=>fls names A C k++fl names A C k
theorem je (names:List Int) (A C:List (List St)) (hc:∀ t∈C,t.length≤20):∀ k,(fls names A C k).length≤40 * k
 | 0=>by simp [fls]
 | k + 1=>by
   have ih:=je names A C hc k
   have h1:=cy 5 (C.getD k []) ((A.getD k []).map (sbs names)) (16 * (k:Int))
   have h2:(C.getD k []).length≤20:=by
     by_cases h:k < C.length
     . have:C.getD k []=C[k]:=by simp [List.getD,h]
       rw [this]; exact hc _ (List.getElem_mem h)
     . have:C.getD k []=[]:=by simp [List.getD,List.getElem?_eq_none (Nat.not_lt.1 h)]
       rw [this]; simp
   simp only [fls,List.length_append,fl]
   omega
def bds (names:List Int) (B:List (Int×Int)):Nat→List Nd
 | 0=>[]
 | k + 1=>bds names B k++[(names.getD (B.getD k (0,0)).1.toNat 0,names.getD (B.getD k (0,0)).2.toNat 0,4,(k:Int),false)]
theorem iZ (names:List Int) (B:List (Int×Int)):∀ k,(bds names B k).length=k
 | 0=>rfl
 | k + 1=>by simp [bds,iZ names B k]
def csp (s:Sg) (names:List Int) (C:List (List St)) (D:List St):List Nd×Int :=
 if chk s≠0 then ([],chk s)
 else if ¬ (names.length:Int)=s.1∨¬ C.length=s.2.2.1.length then ([],2)
 else if (List.range s.2.2.1.length).any (mis s.2.2.1 C) then ([],8)
 else if shp D s.2.2.2 then (bds names s.2.1 s.2.1.length++fls names s.2.2.1 C s.2.2.1.length++rel 6 0 (s.2.2.2.map (sbs names)) D,0) else ([],8)
theorem uZ {names:List Int} {n:Int} {B:List (Int×Int)} {body:(List Nd×Int)→Option ((List Nd×Int)⊕List Nd)} (hB:B.length≤16) (hn:(names.length:Int)=n) (hb:∀ b∈B,aK n b=false)
   (hgo:∀ (l:List Nd) (k:Nat) (h:k < B.length),body (l,(k:Int))=((aa names B[k].1).bind fun x=>(aa names B[k].2).bind fun y=>(app l [(x,y,4,(k:Int),false)]).bind fun z=>some (.inl (z,IntKind.wrap .i64 ((k:Int) + 1))))) (he:∀ l,body (l,(B.length:Int))=some (.inr l)) :
   loop body ([],0)=some (bds names B B.length):=by
 refine aF (body:=body) (fun k=>(bds names B k,(k:Int))) B.length ?_ (he _)
 intro k hk
 have h1:=hb B[k] (List.getElem_mem hk)
 have e:B.getD k (0,0)=B[k]:=by simp [List.getD,hk]
 unfold aK at h1
 simp at h1
 rw [hgo _ k hk,nY (by omega) (by omega),Option.bind_some,nY (by omega) (by omega),Option.bind_some,aI (by simp [iZ]; omega),Option.bind_some,ak hk (by omega)]
 simp only [bds,e]
theorem k9 {names:List Int} {n:Int} {t:List St} (hn:(names.length:Int)=n) (h:rin n t=false):rin names.length t=false:=by rw [hn]; exact h
theorem BS (s:Sg) (names:List Int) (C:List (List St)) (D:List St) (hr:s.2.2.2.length≤20) (ha:∀ t∈s.2.2.1,t.length≤20) (hC:∀ t∈C,t.length≤20) (hD:D.length≤20) :
   kE s names C D=some (csp s names C D):=by
 have hck:=uR s (by omega) (fun t ht=>by have:=ha t ht; omega)
 unfold kE qn csp
 rw [show cP (s.1,s.2.1,s.2.2.1,s.2.2.2)=some (chk s) from hck]
 obtain ⟨n,B,A,R⟩:=s
 dsimp only at *
 by_cases h0:chk (n,B,A,R)=0
 . obtain ⟨n0, n1, hB, hA, hb, hat, hR, hrin⟩ := wq h0
   dsimp only at n0 n1 hB hA hb hat hR hrin
   simp only [h0,Option.bind_some,decide_true,Bool.not_true,cond_false,ne_eq,not_true_eq_false,if_false]
   by_cases h1:¬ (names.length:Int)=n∨¬ C.length=A.length
   . have:((!decide ((((names.length:Nat):Int))=n))||(!decide ((((C.length:Nat):Int))=(((A.length:Nat):Int)))))=true:=by simp; omega
     rw [this,if_pos h1]; rfl
   . have:((!decide ((((names.length:Nat):Int))=n))||(!decide ((((C.length:Nat):Int))=(((A.length:Nat):Int)))))=false:=by simp; omega
     rw [this,if_neg h1,cond_false]
     have hn:(names.length:Int)=n:=by omega
     have hl:C.length=A.length:=by omega
     rw [dp (body:=mq (n,B,A,R) C) (List.range A.length) (mis A C) (.inr 8) (.inl ()) ?_ ?_]
     . cases hm:(List.range A.length).any (mis A C) with
       | true=>rfl
       | false =>
         simp only [Bool.false_eq_true,if_false,Option.bind_some]
         rw [gF D R (by omega)]
         cases hs:shp D R with
         | false=>rfl
         | true =>
           simp only [Option.bind_some,Bool.not_true,cond_false,decide_true,if_true]
           rw [uZ (body:=m4 (n,B,A,R) names) hB hn hb ?_ ?_]
           . simp only [Option.bind_some]
             have hfl:=aF (body:=ko (n,B,A,R) names C) (fun k=>(bds names B B.length++fls names A C k,(k:Int))) A.length (b:=bds names B B.length++fls names A C A.length) ?_ ?_
             . have hfl':loop (ko (n,B,A,R) names C) (bds names B B.length,0)=some (bds names B B.length++fls names A C A.length):=by
                 have e0:(bds names B B.length,(0:Int))=(bds names B B.length++fls names A C 0,((0:Nat):Int)):=by simp [fls]
                 rw [e0]; exact hfl
               have q1:=je names A C hC A.length
               have q2:=iZ names B B.length
               have q3:=cy 6 (R.map (sbs names)) D 0
               rw [List.length_map] at q3
               rw [hfl',Option.bind_some,va R names (by omega),k9 hn hrin]
               simp only [Bool.false_eq_true,if_false,Option.bind_some]
               rw [nt _ _ _ _ (by simp; omega) (by omega) (by omega),wu,fh,hs]
               simp only [if_true,Option.bind_some]
               rw [aI (by simp only [List.length_append]; omega)]
               rfl
             . intro k hk
               have hkC:k < C.length:=by omega
               have ht:=hat A[k] (List.getElem_mem hk)
               have hc:=hC C[k] (List.getElem_mem hkC)
               have e1:A.getD k []=A[k]:=by simp [List.getD,hk]
               have e2:C.getD k []=C[k]:=by simp [List.getD,hkC]
               have hsh:shp C[k] A[k]=true:=by
                 have:=List.any_eq_false.1 hm k (List.mem_range.2 hk)
                 unfold mis at this
                 rw [e1,e2] at this
                 simpa using this
               have q1:=je names A C hC k
               have q2:=iZ names B B.length
               have q3:=cy 5 C[k] (A[k].map (sbs names)) (16 * (k:Int))
               unfold ko
               simp only [dlt hk,cond_true,ah hk,Option.bind_some]
               rw [va _ names (by omega),k9 hn ht.2]
               simp only [Bool.false_eq_true,if_false,Option.bind_some,ah hkC]
               rw [w64 (x:=16 * (k:Int)) (by omega) (by omega),nt _ _ _ _ (by omega) (by omega) (by omega),oq,hsh]
               simp only [if_true,Option.bind_some]
               rw [aI (by simp only [List.length_append]; omega),Option.bind_some,ak hk (by omega)]
               simp only [fls,fl,e1,e2,List.append_assoc]
             . simp [ko]
           . intro l k hk
             unfold m4
             simp only [dlt hk,cond_true,ah hk,Option.bind_some]
           . intro l; simp [m4]
     . intro k hk
       simp only [List.length_range] at hk
       have hkC:k < C.length:=by omega
       have e1:A.getD k []=A[k]:=by simp [List.getD,hk]
       have e2:C.getD k []=C[k]:=by simp [List.getD,hkC]
       have hc:=hC C[k] (List.getElem_mem hkC)
       unfold mq
       simp only [dlt hk,cond_true,ah hk,ah hkC,Option.bind_some,List.getElem_range,mis,e1,e2,ak hk (by omega:A.length≤9223372036854775807)]
       rw [gF _ _ (by omega),Option.bind_some]
       cases shp C[k] A[k] <;> rfl
     . simp [mq]
 . simp [h0]
theorem BA (s:Sg) (names:List Int) (C:List (List St)) (D:List St) (hr:s.2.2.2.length≤20) (ha:∀ t∈s.2.2.1,t.length≤20) (hC:∀ t∈C,t.length≤20) (hD:D.length≤20) :
   kw s names C D=some (csp s names C D):=by
 unfold kw csp
 rw [show eR (s.1,s.2.1,s.2.2.1,s.2.2.2)=some (chk s) from qB s]
 obtain ⟨n,B,A,R⟩:=s
 dsimp only at *
 by_cases h0:chk (n,B,A,R)=0
 . obtain ⟨n0,n1,hB,hA,hb,hat,hR,hrin⟩:=wq h0
   dsimp only at n0 n1 hB hA hb hat hR hrin
   simp only [h0,Option.bind_some,decide_true,Bool.not_true,cond_false,ne_eq,not_true_eq_false,if_false]
   by_cases h1:¬ (names.length:Int)=n∨¬ C.length=A.length
   . have:((!decide ((((names.length:Nat):Int))=n))||(!decide ((((C.length:Nat):Int))=(((A.length:Nat):Int)))))=true:=by simp; omega
     rw [this,if_pos h1]; rfl
   . have:((!decide ((((names.length:Nat):Int))=n))||(!decide ((((C.length:Nat):Int))=(((A.length:Nat):Int)))))=false:=by simp; omega
     rw [this,if_neg h1,cond_false]
     have hn:(names.length:Int)=n:=by omega
     have hl:C.length=A.length:=by omega
     rw [uZ (body:=mI (n,B,A,R) names) hB hn hb ?_ ?_]
     . simp only [Option.bind_some]
       have q2:=iZ names B B.length
       have hfl:=eX (body:=kc (n,B,A,R) names C) (fun k=>mis A C k=true) (fun k=>(bds names B B.length++fls names A C k,(k:Int))) A.length (fun _ => .inr ([],8)) (.inl (bds names B B.length++fls names A C A.length)) ?_ ?_ ?_
       . have e0:(bds names B B.length,(0:Int))=(bds names B B.length++fls names A C 0,((0:Nat):Int)):=by simp [fls]
         rw [e0]
         rcases hfl with ⟨k,k1,k2,_,k3⟩ | ⟨k1,k3⟩
         . have:(List.range A.length).any (mis A C)=true:=List.any_eq_true.2 ⟨k,List.mem_range.2 k1,k2⟩
           rw [k3,this]; rfl
         . have:(List.range A.length).any (mis A C)=false:=by
             rw [List.any_eq_false]; intro k hk; exact k1 k (List.mem_range.1 hk)
           rw [k3,this]
           have q1:=je names A C hC A.length
           have q3:=cy 6 (R.map (sbs names)) D 0
           rw [List.length_map] at q3
           simp only [Option.bind_some,Bool.false_eq_true,if_false]
           rw [qJ R names (by omega),k9 hn hrin]
           simp only [Bool.false_eq_true,if_false,Option.bind_some]
           rw [gG _ _ _ _ (by simp; omega) (by omega) (by omega),wu,fh]
           cases hs:shp D R with
           | false=>rfl
           | true =>
             simp only [if_true,Option.bind_some,decide_true,Bool.not_true,cond_false]
             rw [aI (by simp only [List.length_append]; omega)]
             rfl
       . intro k hk hp
         have hkC:k < C.length:=by omega
         have ht:=hat A[k] (List.getElem_mem hk)
         have hc:=hC C[k] (List.getElem_mem hkC)
         have e1:A.getD k []=A[k]:=by simp [List.getD,hk]
         have e2:C.getD k []=C[k]:=by simp [List.getD,hkC]
         have hsh:shp C[k] A[k]=true:=by
           unfold mis at hp
           rw [e1,e2] at hp
           simpa using hp
         have q1:=je names A C hC k
         have q3:=cy 5 C[k] (A[k].map (sbs names)) (16 * (k:Int))
         unfold kc
         simp only [dlt hk,cond_true,ah hk,Option.bind_some]
         rw [qJ _ names (by omega),k9 hn ht.2]
         simp only [Bool.false_eq_true,if_false,Option.bind_some,ah hkC]
         rw [w64 (x:=16 * (k:Int)) (by omega) (by omega),gG _ _ _ _ (by omega) (by omega) (by omega),oq,hsh]
         simp only [if_true,Option.bind_some,decide_true,Bool.not_true,cond_false]
         rw [aI (by simp only [List.length_append]; omega),Option.bind_some,ak hk (by omega)]
         simp only [fls,fl,e1,e2,List.append_assoc]
       . intro k hk hp
         have hkC:k < C.length:=by omega
         have ht:=hat A[k] (List.getElem_mem hk)
         have hc:=hC C[k] (List.getElem_mem hkC)
         have e1:A.getD k []=A[k]:=by simp [List.getD,hk]
         have e2:C.getD k []=C[k]:=by simp [List.getD,hkC]
         have hsh:shp C[k] A[k]=false:=by
           unfold mis at hp
           rw [e1,e2] at hp
           simpa using hp
         unfold kc
         simp only [dlt hk,cond_true,ah hk,Option.bind_some]
         rw [qJ _ names (by omega),k9 hn ht.2]
         simp only [Bool.false_eq_true,if_false,Option.bind_some,ah hkC]
         rw [w64 (x:=16 * (k:Int)) (by omega) (by omega),gG _ _ _ _ (by omega) (by omega) (by omega),oq,hsh]
         rfl
       . simp [kc]
     . intro l k hk
       unfold mI
       simp only [dlt hk,cond_true,ah hk,Option.bind_some]
     . intro l; simp [mI]
 . simp [h0]
theorem E5 (s:Sg) (names:List Int) (C:List (List St)) (D:List St) (hs:s.2.1.length≤20∧s.2.2.1.length≤20∧s.2.2.2.length≤20) (hC:∀ t∈C,t.length≤20):(csp s names C D).1.length≤1000000:=by
 have q1:=je names s.2.2.1 C hC s.2.2.1.length
 have q2:=iZ names s.2.1 s.2.1.length
 have q3:=cy 6 (s.2.2.2.map (sbs names)) D 0
 rw [List.length_map] at q3
 unfold csp
 split
 . simp
 . split
   . simp
   . split
     . simp
     . split
       . simp only [List.length_append]; omega
       . simp
abbrev Stm:=Int×Int×Int×Int×Bool
def aY (k:Int):Bool:=(((decide (k=1))||(decide (k=2)))||(decide (k=3)))||(decide (k=5))
def aZ (k:Int):Bool:=(decide (1≤k))&&(decide (k≤4))
def bX (k:Int):Bool:=(decide (k=2))||(decide (k=3))
def fOk (x:Stm):Bool:=decide (0≤x.1)&&decide (x.1≤5)&&(aY x.1||decide (x.2.1=0))&&(aZ x.1||decide (x.2.2.1=0))&&(bX x.1||(decide (x.2.2.2.1=0)&&!x.2.2.2.2))
theorem six {k:Int} (h:decide (0≤k)&&decide (k≤5)):k=0∨k=1∨k=2∨k=3∨k=4∨k=5:=by simp at h; omega
theorem Bm (k:Int):mN k=some (if decide (0≤k)&&decide (k≤5) then (aY k,aZ k,bX k,true) else (false,false,false,false)):=by
 by_cases h:(decide (0≤k)&&decide (k≤5))=true
 . rcases six h with rfl | rfl | rfl | rfl | rfl | rfl <;> rfl
 . rw [if_neg h]
   have h':k < 0∨5 < k:=by simp at h; omega
   have e (j:Int) (h0:0≤j) (h5:j≤5):decide (k=j)=false:=by simp; omega
   unfold mN
   simp only [e 0 (by omega) (by omega),e 1 (by omega) (by omega),e 2 (by omega) (by omega),e 3 (by omega) (by omega),e 4 (by omega) (by omega),e 5 (by omega) (by omega),cond_false,Option.bind_some]
theorem kH (x:Stm):eT x=some (fOk x):=by
 obtain ⟨k,d,s,r,m⟩:=x
 have h1:iC k=some (aY k):=rfl
 have h2:iB k=some (aZ k):=rfl
 have h3:ki k=some (bX k):=rfl
 unfold eT fOk
 simp only [h1,h2,h3,Option.bind_some]
 cases (decide (0≤k)&&decide (k≤5)) <;> simp
 cases (aY k||decide (d=0)) <;> simp
 cases (aZ k||decide (s=0)) <;> simp
theorem EZ (x:Stm):m9 x=some (if fOk x then (aY x.1,aZ x.1,bX x.1,0) else (false,false,false,3)):=by
 obtain ⟨k,d,s,r,m⟩:=x
 unfold m9
 rw [Bm]
 by_cases h:(decide (0≤k)&&decide (k≤5))=true
 . simp only [h,if_true,Option.bind_some,Bool.not_true,cond_false]
   have ho:nh (k,d,s,r,m) (aY k,aZ k,bX k)=some (k,if aY k then d else 0,if aZ k then s else 0,if bX k then r else 0,if bX k then m else false):=by
     unfold nh
     cases aY k <;> cases aZ k <;> cases bX k <;> rfl
   rw [ho,Option.bind_some]
   unfold fOk
   simp only [h,Bool.true_and]
   cases aY k <;> cases aZ k <;> cases bX k <;> simp
   all_goals (by_cases q1:d=0 <;> by_cases q2:s=0 <;> by_cases q3:r=0 <;> cases m <;> simp [q1,q2,q3])
 . have h':(decide (0≤k)&&decide (k≤5))=false:=by simpa using h
   unfold fOk
   simp [h']
def loc (xb:List (List St)) (d:Int):Bool:=decide (0≤d)&&decide (d < ((xb.length:Nat):Int))
theorem xI (xb:List (List St)) (d:Int):(decide (d < 0)||decide (((xb.length:Nat):Int)≤d)) = !loc xb d:=by
 unfold loc
 by_cases h1:d < 0 <;> by_cases h2:((xb.length:Nat):Int)≤d <;> simp [h1,h2] <;> omega
theorem jf {xb:List (List St)} {d:Int} (h:loc xb d=true) (hb:∀ t∈xb,t.length≤20):∃ t:List St,aa xb d=some t∧t.length≤20:=by
 unfold loc at h
 simp at h
 exact ⟨_,pF h.1 h.2,hb _ (List.getElem_mem _)⟩
def Gd (R:Int) (n:Nd):Prop:=(0≤n.1∧n.1 < R)∧(0≤n.2.1∧n.2.1 < R)∧(1≤n.2.2.1∧n.2.2.1≤7)∧(0≤n.2.2.2.1∧n.2.2.2.1≤1000000)
theorem dz {R:Int} {t:List St} (h:rin R t=false) {x:St} (hx:x∈t):0≤x.1∧x.1 < R:=by
 have:=List.any_eq_false.1 h x hx
 simp at this; omega
theorem jh {R:Int} {t:List St} (h:∀ x∈t,0≤x.1∧x.1 < R):rin R t=false:=by
 unfold rin
 rw [List.any_eq_false]
 intro x hx
 have:=h x hx
 simp; omega
theorem gJ {R kind:Int} (hk:1≤kind∧kind≤7):∀ (xs ys:List St) (f:Int),0≤f→f + (xs.length:Int)≤1000000→rin R xs=false→rin R ys=false→∀ n∈rel kind f xs ys,Gd R n
 | x :: xs,y :: ys,f,h0,h1,hx,hy,n,hn=>by
   have a1:=dz hx (x:=x) (by simp)
   have a2:=dz hy (x:=y) (by simp)
   simp only [List.length_cons] at h1
   simp only [rel,List.mem_append] at hn
   rcases hn with hn | hn
   . unfold jz at hn
     rcases List.mem_cons.1 hn with rfl | hn
     . exact ⟨a1,a2,hk,h0,by show f≤_; omega⟩
     . split at hn
       . rcases List.mem_cons.1 hn with rfl | hn
         . exact ⟨a2,a1,hk,h0,by show f≤_; omega⟩
         . simp at hn
       . simp at hn
   . exact gJ hk xs ys (f + 1) (by omega) (by omega) (jh fun z hz=>dz hx (by simp [hz])) (jh fun z hz=>dz hy (by simp [hz])) n hn
 | [],_,_,_,_,_,_,n,hn=>by simp [rel] at hn
 | _ :: _,[],_,_,_,_,_,n,hn=>by simp [rel] at hn
theorem Fi {R r:Int} {m:Bool} {xa xb:List St} (hr:0≤r∧r < R) (hl:xa.length≤30) (hx:rin R xa=false) (hy:rin R xb=false):∀ n∈(lo r m xa xb).1,Gd R n:=by
 intro n hn
 unfold lo at hn
 split at hn
 . rename_i hs
   have:=sU hs
   cases xb with
   | nil=>simp at this
   | cons y ys =>
     rcases List.mem_cons.1 hn with rfl | hn
     . exact ⟨hr,dz hy (x:=y) (by simp),by simp,by simp⟩
     . exact gJ (by decide) xa _ 1 (by omega) (by omega) hx (jh fun z hz=>dz hy (List.mem_of_mem_drop hz)) n hn
 . simp at hn
theorem EV {R r:Int} {m:Bool} {xa xb:List St} (hr:0≤r∧r < R) (hl:xa.length≤30) (hx:rin R xa=false) (hy:rin R xb=false):∀ n∈(ag r m xa xb).1,Gd R n:=by
 intro n hn
 unfold ag at hn
 split at hn
 . split at hn
   . simp at hn
   . rename_i x xs y ys _
     simp only [List.length_cons] at hl
     rcases List.mem_cons.1 hn with rfl | hn
     . exact ⟨dz hx (by simp),hr,by simp,by simp⟩
     . rcases List.mem_cons.1 hn with rfl | hn
       . exact ⟨hr,dz hy (by simp),by simp,by simp⟩
       . exact gJ (by decide) xs ys 1 (by omega) (by omega) (jh fun z hz=>dz hx (by simp [hz])) (jh fun z hz=>dz hy (by simp [hz])) n hn
 . simp at hn
theorem iO {α:Type} {l:List α} {i:Int} {x:α} (h:aa l i=some x):x∈l:=List.mem_of_getElem? (dq h).2.1
theorem uO (x:Stm) (xb:List (List St)) (xc:Int) (hb:∀ t∈xb,t.length≤20):∃ l e,eS x xb xc=some (l,e)∧bM x xb xc=some (l,e)∧l.length≤1000∧((∀ t∈xb,rin xc t=false)→∀ n∈l,Gd xc n):=by
 obtain ⟨k,d,s,r,m⟩:=x
 unfold eS bM
 have g1:iC k=some (aY k):=rfl
 have g2:iB k=some (aZ k):=rfl
 have g3:ki k=some (bX k):=rfl
 have g4 (d:Int):mi d xb=some (loc xb d):=rfl
 simp only [EZ,kH,Option.bind_some,g1,g2,g3,g4,xI]
 cases hf:fOk (k,d,s,r,m) with
 | false=>exact ⟨[],3,rfl,rfl,by simp,by simp⟩
 | true =>
   have hk:k=0∨k=1∨k=2∨k=3∨k=4∨k=5:=by
     unfold fOk at hf
     simp only [Bool.and_eq_true] at hf
     exact six (by simpa using hf.1.1.1)
   have bad:∃ l e,(some (([]:List Nd),(7:Int)):Option (List Nd×Int))=some (l,e)∧(some (([]:List Nd),(7:Int)):Option (List Nd×Int))=some (l,e)∧l.length≤1000∧((∀ t∈xb,rin xc t=false)→∀ n∈l,Gd xc n):=⟨[],7,rfl,rfl,by simp,by simp⟩
   have good:∃ l e,(some (([]:List Nd),(0:Int)):Option (List Nd×Int))=some (l,e)∧(some (([]:List Nd),(0:Int)):Option (List Nd×Int))=some (l,e)∧l.length≤1000∧((∀ t∈xb,rin xc t=false)→∀ n∈l,Gd xc n):=⟨[],0,rfl,rfl,by simp,by simp⟩
   rcases hk with rfl | rfl | rfl | rfl | rfl | rfl
   . simpa [aY,aZ,bX] using good
   . have e1:aY 1=true:=rfl
     have e2:aZ 1=true:=rfl
     have e3:bX 1=false:=rfl
     cases h1:loc xb d with
     | false=>simpa [e1,e2,e3,h1] using bad
     | true =>
       cases h2:loc xb s with
       | false=>simpa [e1,e2,e3,h1,h2] using bad
       | true =>
         obtain ⟨t1,a1,b1⟩:=jf h1 hb
         obtain ⟨t2,a2,b2⟩:=jf h2 hb
         simp [e1,e2,e3,h1,h2,a1,a2]
         rw [nt _ _ _ _ (by omega) (by omega) (by omega),gG _ _ _ _ (by omega) (by omega) (by omega)]
         have hr:=cy 1 t2 t1 0
         by_cases q:shp t2 t1=true
         . exact ⟨rel 1 0 t2 t1,0,by simp [q],by simp [q],by omega,fun hg=>by simpa using gJ (kind:=1) (by decide) t2 t1 0 (by omega) (by omega) (hg _ (iO a2)) (hg _ (iO a1))⟩
         . exact ⟨[],8,by simp [q],by simp [q],by simp,by simp⟩
   all_goals try
     (have e1:aY 4=false:=rfl
      have e2:aZ 4=true:=rfl
      have e3:bX 4=false:=rfl
      cases h2:loc xb s with
      | false=>simpa [e1,e2,e3,h2] using bad
      | true=>simpa [e1,e2,e3,h2] using good)
   all_goals try
     (have e1:aY 5=true:=rfl
      have e2:aZ 5=false:=rfl
      have e3:bX 5=false:=rfl
      cases h2:loc xb d with
      | false=>simpa [e1,e2,e3,h2] using bad
      | true=>simpa [e1,e2,e3,h2] using good)
   . have e1:aY 2=true:=rfl
     have e2:aZ 2=true:=rfl
     have e3:bX 2=true:=rfl
     cases h1:loc xb d with
     | false=>simpa [e1,e2,e3,h1] using bad
     | true =>
       cases h2:loc xb s with
       | false=>simpa [e1,e2,e3,h1,h2] using bad
       | true =>
         cases h3:(decide (r < 0)||decide (xc≤r)) with
         | true=>simpa [e1,e2,e3,h1,h2,h3] using bad
         | false =>
           obtain ⟨t1,a1,b1⟩:=jf h1 hb
           obtain ⟨t2,a2,b2⟩:=jf h2 hb
           have hq:=DL r m t2 t1 (by omega)
           refine ⟨(lo r m t2 t1).1,(lo r m t2 t1).2,?_,?_,by omega,fun hg=>Fi (by simp at h3; omega) (by omega) (hg _ (iO a2)) (hg _ (iO a1))⟩
           . simp [e1,e2,e3,h1,h2,h3,a1,a2,BT t2 t1 r m (by omega)]
           . simp [e1,e2,e3,h1,h2,h3,a1,a2,B2 t2 t1 r m (by omega)]
   . have e1:aY 3=true:=rfl
     have e2:aZ 3=true:=rfl
     have e3:bX 3=true:=rfl
     cases h1:loc xb d with
     | false=>simpa [e1,e2,e3,h1] using bad
     | true =>
       cases h2:loc xb s with
       | false=>simpa [e1,e2,e3,h1,h2] using bad
       | true =>
         cases h3:(decide (r < 0)||decide (xc≤r)) with
         | true=>simpa [e1,e2,e3,h1,h2,h3] using bad
         | false =>
           obtain ⟨t1,a1,b1⟩:=jf h1 hb
           obtain ⟨t2,a2,b2⟩:=jf h2 hb
           have hq:=DB r m t2 t1 (by omega)
           refine ⟨(ag r m t2 t1).1,(ag r m t2 t1).2,?_,?_,by omega,fun hg=>EV (by simp at h3; omega) (by omega) (hg _ (iO a2)) (hg _ (iO a1))⟩
           . simp [e1,e2,e3,h1,h2,h3,a1,a2,By t2 t1 r m (by omega)]
           . simp [e1,e2,e3,h1,h2,h3,a1,a2,Bq t2 t1 r m (by omega)]
abbrev Tm:=Int×Int×Int×List Int×List Int×List Int
def jg (x:Tm):Bool:=((!decide (x.2.1=0))||(!decide (x.2.2.1=0)))||(decide (0 < x.2.2.2.2.2.length))
def ls (x:Tm):Bool :=
 if x.1=1 then decide (x.2.2.2.1.length=1)&&decide (x.2.2.2.2.1.length=0)&&!jg x
 else if x.1=2 then decide (0 < x.2.2.2.1.length)&&!jg x
 else if x.1=3 then decide (x.2.2.2.1.length=0)&&decide (x.2.2.2.2.1.length=0)&&!jg x
 else if x.1=4 then decide (x.2.2.2.1.length=1) else false
def bf (x:Tm):Int:=if ls x=true then if 16 < x.2.2.2.1.length∨16 < x.2.2.2.2.1.length∨16 < x.2.2.2.2.2.length then 6 else 0 else 3
theorem bnd (a b:Bool):(cond a (some b) (some false):Option Bool)=some (a&&b):=by cases a <;> rfl
theorem dn1 (n:Nat):decide ((n:Int)=1)=decide (n=1):=by by_cases h:n=1 <;> simp [h] <;> omega
theorem dn0 (n:Nat):decide ((n:Int)=0)=decide (n=0):=by by_cases h:n=0 <;> simp [h] <;> omega
theorem dp0 (n:Nat):decide (0 < (n:Int))=decide (0 < n):=by by_cases h:0 < n <;> simp [h] <;> omega
theorem d16 (n:Nat):decide (16 < (n:Int))=decide (16 < n):=by by_cases h:16 < n <;> simp [h] <;> omega
theorem w9 (x:Tm):iA x=some (bf x):=by
 obtain ⟨k,g,d,tos,args,ps⟩:=x
 have hc:iy (k,g,d,tos,args,ps)=some (jg (k,g,d,tos,args,ps)):=by unfold iy jg; simp only [dp0]
 unfold iA bf
 have hr:∀ b:Bool,(cond (!b) (some 3) (cond (((decide (16 < ((tos.length:Nat):Int)))||(decide (16 < ((args.length:Nat):Int))))||(decide (16 < ((ps.length:Nat):Int)))) (some 6) (some 0)):Option Int)=some (if b=true then if 16 < tos.length∨16 < args.length∨16 < ps.length then 6 else 0 else 3):=by
   intro b
   cases b with
   | false=>rfl
   | true =>
     simp only [d16,Bool.not_true,cond_false,if_true]
     by_cases h1:16 < tos.length <;> by_cases h2:16 < args.length <;> by_cases h3:16 < ps.length <;> simp [h1,h2,h3]
 dsimp only at *
 have hm:∀ (m:Option Bool) (b:Bool),m=some b→(m.bind fun t194=>cond (!t194) (some 3) (cond (((decide (16 < ((tos.length:Nat):Int)))||(decide (16 < ((args.length:Nat):Int))))||(decide (16 < ((ps.length:Nat):Int)))) (some 6) (some 0)):Option Int)=some (if b=true then if 16 < tos.length∨16 < args.length∨16 < ps.length then 6 else 0 else 3):=by
   rintro _ b rfl; exact hr b
 refine hm _ _ ?_
 simp only [hc,Option.bind_some,dn1,dn0,dp0]
 unfold ls
 dsimp only
 by_cases k1:k=1
 . simp [k1,bnd,Bool.and_assoc]
 . by_cases k2:k=2
   . simp [k2,bnd,Bool.and_assoc]
   . by_cases k3:k=3
     . simp [k3,bnd,Bool.and_assoc]
     . by_cases k4:k=4
       . simp [k4]
       . simp [k1,k2,k3,k4]
theorem qO {x:Tm} (h:bf x=0):ls x=true∧x.2.2.2.1.length≤16∧x.2.2.2.2.1.length≤16∧x.2.2.2.2.2.length≤16:=by
 unfold bf at h
 split at h
 . split at h
   . cases h
   . rename_i q; exact ⟨by assumption,by omega,by omega,by omega⟩
 . cases h
theorem B6 (xa:List Int) (n:Int) (hn:xa.length≤1073741824):dg xa n=some (!xa.any (fun x=>decide (x < 0)||decide (n≤x))):=by
 unfold dg
 rw [dp (body:=mr xa n) xa (fun x=>decide (x < 0)||decide (n≤x)) (.inr false) (.inl ()) ?_ ?_]
 . cases xa.any (fun x=>decide (x < 0)||decide (n≤x)) <;> rfl
 . intro k hk
   unfold mr
   by_cases q:xa[k] < 0 <;> by_cases q2:n≤xa[k] <;> simp [hk,ah hk,ak hk (by omega:xa.length≤9223372036854775807),q,q2]
 . simp [mr]
theorem iD (x:Tm):dh x=some (bf x):=by
 obtain ⟨k,g,d,tos,args,ps⟩:=x
 unfold dh bf ls jg
 dsimp only
 simp only [dn1,dn0,d16,dp0]
 have hps:decide (0 < ps.length) = !decide (ps.length=0):=by by_cases h:ps.length=0 <;> simp [h] <;> omega
 have hto:decide (0 < tos.length) = !decide (tos.length=0):=by by_cases h:tos.length=0 <;> simp [h] <;> omega
 rw [hps,hto]
 have last:(cond (((decide (16 < tos.length))||(decide (16 < args.length)))||(decide (16 < ps.length))) (some 6) (some 0):Option Int)=some (if 16 < tos.length∨16 < args.length∨16 < ps.length then 6 else 0):=by
   by_cases h1:16 < tos.length <;> by_cases h2:16 < args.length <;> by_cases h3:16 < ps.length <;> simp [h1,h2,h3]
 rw [last]
 generalize (if 16 < tos.length∨16 < args.length∨16 < ps.length then (6:Int) else 0)=z
 generalize decide (tos.length=1)=t1
 generalize decide (tos.length=0)=t0
 generalize decide (args.length=0)=a0
 generalize decide (ps.length=0)=p0
 generalize decide (g=0)=g0
 generalize decide (d=0)=d0
 by_cases k1:k=1
 . subst k1; cases t1 <;> cases t0 <;> cases a0 <;> cases p0 <;> cases g0 <;> cases d0 <;> simp
 . by_cases k2:k=2
   . subst k2; cases t1 <;> cases t0 <;> cases a0 <;> cases p0 <;> cases g0 <;> cases d0 <;> simp
   . by_cases k3:k=3
     . subst k3; cases t1 <;> cases t0 <;> cases a0 <;> cases p0 <;> cases g0 <;> cases d0 <;> simp
     . by_cases k4:k=4
       . subst k4; cases t1 <;> cases t0 <;> cases a0 <;> cases p0 <;> cases g0 <;> cases d0 <;> simp
       . have:(decide (k < 1)||decide (4 < k))=true:=by simp; omega
         simp [this,k1,k2,k3,k4]
theorem zS {xa:List (List St)} {body:Int→Option (Int⊕(Unit⊕Bool))} (hn:xa.length≤1000) (hb:∀ i,body i=cond (decide (i < (((xa.length:Nat):Int)))) ((aa xa i).bind fun x=>(gE x 20).bind fun t=>cond (!t) (some (.inr ((.inr (false))))) (some (.inl (IntKind.wrap .i64 (i + 1))))) (some (.inr ((.inl ()))))) :
   loop body 0=some (if xa.any (fun t=>!decide (t.length≤20)) then (Sum.inr false:Unit⊕Bool) else .inl ()):=by
 refine dp (β:=Unit⊕Bool) xa (fun t=>!decide (t.length≤20)) (.inr false) (.inl ()) ?_ ?_
 . intro k hk
   rw [hb]
   simp only [dlt hk,cond_true,ah hk,Option.bind_some,ak hk (by omega:xa.length≤9223372036854775807),sW]
   by_cases q:xa[k].length≤20
   . have:decide (((xa[k].length:Nat):Int)≤20)=true:=by simp; omega
     simp [this,q]
   . have:decide (((xa[k].length:Nat):Int)≤20)=false:=by simp; omega
     simp [this,q]
 . rw [hb]; simp
theorem ye {xa:List (List St)} (h:xa.any (fun t=>!decide (t.length≤20))=false):∀ t∈xa,t.length≤20:=by
 intro t ht
 have:=List.any_eq_false.1 h t ht
 simpa using this
theorem zq (s:Sg):eV s=some false∨(eV s=some true∧s.2.1.length≤20∧s.2.2.1.length≤20∧s.2.2.2.length≤20∧∀ t∈s.2.2.1,t.length≤20):=by
 unfold eV
 by_cases h:20 < s.2.1.length∨20 < s.2.2.1.length
 . have:((decide (20 < (((s.2.1.length:Nat):Int))))||(decide (20 < (((s.2.2.1.length:Nat):Int)))))=true:=by simp; omega
   rw [this]; exact .inl rfl
 . have:((decide (20 < (((s.2.1.length:Nat):Int))))||(decide (20 < (((s.2.2.1.length:Nat):Int)))))=false:=by simp; omega
   rw [this,cond_false,sW]
   by_cases q:s.2.2.2.length≤20
   . have e:decide (((s.2.2.2.length:Nat):Int)≤20)=true:=by simp; omega
     simp only [Option.bind_some,e,Bool.not_true,cond_false]
     rw [zS (body:=uD s) (xa:=s.2.2.1) (by omega) (fun i=>rfl)]
     cases hf:s.2.2.1.any (fun t=>!decide (t.length≤20)) with
     | true=>exact .inl rfl
     | false=>exact .inr ⟨rfl,by omega,by omega,q,ye hf⟩
   . have e:decide (((s.2.2.2.length:Nat):Int)≤20)=false:=by simp; omega
     simp only [Option.bind_some,e]; exact .inl rfl
def bad (n:Int) (xa:List Int):Bool:=xa.any (fun x=>decide (x < 0)||decide (n≤x))
theorem qF (xa:List Int) (n:Int) (hn:xa.length≤1000):hZ xa n=some (bad n xa):=by
 unfold hZ pU
 rw [aS (body:=lU xa n) xa (fun x=>decide (x < 0)||decide (n≤x)) (fun k => .inr (k:Int)) (.inl ()) ?_ ?_]
 . rcases vA xa (fun x=>decide (x < 0)||decide (n≤x)) with ⟨k,h1,h2⟩ | ⟨h1,h2⟩
   . rw [h1]; unfold bad; simp [h2]
   . rw [h1]; unfold bad; simp [h2]
 . intro k hk
   unfold lU ic
   simp only [dlt hk,cond_true,ah hk,Option.bind_some,ak hk (by omega:xa.length≤9223372036854775807)]
   cases (decide (xa[k] < 0)||decide (n≤xa[k])) <;> rfl
 . simp [lU]
theorem cQ (xa:List Int) (n:Int) (hn:xa.length≤1000):dg xa n=some (!bad n xa):=B6 xa n (by omega)
abbrev Ar:=Int×Int×List (List St)×List St×List Sg
theorem Cc {x:Tm} {a:Ar} (hx:x.2.2.2.2.1.length≤20) (hb:bad (a.2.2.1.length:Int) x.2.2.2.2.1=false) (hL:∀ t∈a.2.2.1,t.length≤20) :
   ∃ C:List (List St),loop (ip x a) ([],0)=some C∧(∀ t∈C,t.length≤20)∧∀ t∈C,t∈a.2.2.1:=by
 have hin (k:Nat) (hk:k < x.2.2.2.2.1.length):0≤x.2.2.2.2.1[k]∧x.2.2.2.2.1[k] < (a.2.2.1.length:Int):=by
   have:=List.any_eq_false.1 hb _ (List.getElem_mem hk)
   simp at this; omega
 have hl:=aF (body:=ip x a) (fun k:Nat=>((x.2.2.2.2.1.take k).map (fun i=>a.2.2.1.getD i.toNat []),(k:Int))) x.2.2.2.2.1.length (b:=x.2.2.2.2.1.map (fun i=>a.2.2.1.getD i.toNat [])) ?_ ?_
 . have hm:∀ t∈x.2.2.2.2.1.map (fun i=>a.2.2.1.getD i.toNat []),t∈a.2.2.1:=by
     intro t ht
     obtain ⟨i,hi,rfl⟩:=List.mem_map.1 ht
     obtain ⟨k,hk,rfl⟩:=List.getElem_of_mem hi
     have h2:=hin k hk
     have:x.2.2.2.2.1[k].toNat < a.2.2.1.length:=by omega
     have e:a.2.2.1.getD x.2.2.2.2.1[k].toNat []=a.2.2.1[x.2.2.2.2.1[k].toNat]:=by simp [List.getD,this]
     rw [e]; exact List.getElem_mem _
   refine ⟨_,hl,fun t ht=>?_,hm⟩
   obtain ⟨i,hi,rfl⟩:=List.mem_map.1 ht
   obtain ⟨k,hk,rfl⟩:=List.getElem_of_mem hi
   have h2:=hin k hk
   have:x.2.2.2.2.1[k].toNat < a.2.2.1.length:=by omega
   have e:a.2.2.1.getD x.2.2.2.2.1[k].toNat []=a.2.2.1[x.2.2.2.2.1[k].toNat]:=by simp [List.getD,this]
   rw [e]; exact hL _ (List.getElem_mem _)
 . intro k hk
   have h2:=hin k hk
   have h3:x.2.2.2.2.1[k].toNat < a.2.2.1.length:=by omega
   have e:a.2.2.1.getD x.2.2.2.2.1[k].toNat []=a.2.2.1[x.2.2.2.2.1[k].toNat]:=by simp [List.getD,h3]
   unfold ip
   simp only [dlt hk,cond_true,ah hk,Option.bind_some]
   rw [pF h2.1 h2.2,Option.bind_some,aI (by simp; omega),Option.bind_some,ak hk (by omega),bF hk,List.map_append]
   simp only [List.map_cons,List.map_nil,e]
 . simp [ip]
theorem qS {R:Int} {names:List Int} (hR:0 < R) (hn:bad R names=false) (i:Nat):0≤names.getD i 0∧names.getD i 0 < R:=by
 by_cases q:i < names.length
 . have e:names.getD i 0=names[i]:=by simp [List.getD,q]
   rw [e]
   have:=List.any_eq_false.1 hn _ (List.getElem_mem q)
   simp at this; omega
 . have e:names.getD i 0=0:=by simp [List.getD,List.getElem?_eq_none (Nat.not_lt.1 q)]
   rw [e]; omega
theorem wD {R:Int} {names:List Int} (hR:0 < R) (hn:bad R names=false) {t:List St}:rin R (t.map (sbs names))=false:=by
 refine jh fun x hx=>?_
 obtain ⟨y,_,rfl⟩:=List.mem_map.1 hx
 exact qS hR hn _
theorem DX {R:Int} {s:Sg} {names:List Int} {C:List (List St)} {D:List St} (hR:0 < R) (hn:bad R names=false) (hC:∀ t∈C,t.length≤20∧rin R t=false) (hD:rin R D=false) (hs:s.2.1.length≤20∧s.2.2.1.length≤20∧s.2.2.2.length≤20):∀ n∈(csp s names C D).1,Gd R n:=by
 intro n h
 unfold csp at h
 split at h
 . simp at h
 split at h
 . simp at h
 split at h
 . simp at h
 split at h
 . have hb : ∀ k, k ≤ 20 → ∀ n ∈ bds names s.2.1 k, Gd R n := by
     intro k
     induction k with
     | zero=>intro _ n hn; simp [bds] at hn
     | succ k ih =>
       intro hk n hn'
       simp only [bds,List.mem_append,List.mem_singleton] at hn'
       rcases hn' with hn' | rfl
       . exact ih (by omega) n hn'
       . exact ⟨qS hR hn _,qS hR hn _,by simp,by show (0:Int)≤(k:Int); omega,by show (k:Int)≤_; omega⟩
   have hf : ∀ k, k ≤ 20 → ∀ n ∈ fls names s.2.2.1 C k, Gd R n := by
     intro k
     induction k with
     | zero=>intro _ n hn; simp [fls] at hn
     | succ k ih =>
       intro hk n hn'
       simp only [fls,List.mem_append] at hn'
       rcases hn' with hn' | hn'
       . exact ih (by omega) n hn'
       . unfold fl at hn'
         have hc:(C.getD k []).length≤20∧rin R (C.getD k [])=false:=by
           by_cases q:k < C.length
           . have e:C.getD k []=C[k]:=by simp [List.getD,q]
             rw [e]; exact hC _ (List.getElem_mem q)
           . have e:C.getD k []=[]:=by simp [List.getD,List.getElem?_eq_none (Nat.not_lt.1 q)]
             rw [e]; exact ⟨by simp,rfl⟩
         exact gJ (by decide) _ _ _ (by omega) (by omega) hc.2 (wD hR hn) n hn'
   rcases List.mem_append.1 h with h | h
   . rcases List.mem_append.1 h with h | h
     . exact hb _ hs.1 n h
     . exact hf _ hs.2.1 n h
   . exact gJ (by decide) _ _ 0 (by omega) (by simp; omega) (wD hR hn) hD n h
 . simp at h
theorem xG (x:Tm) (a:Ar) (l2:x.2.2.2.1.length≤20) (l3:x.2.2.2.2.1.length≤20) (l4:x.2.2.2.2.2.length≤20) (hR:a.2.2.2.1.length≤20) (hL:∀ t∈a.2.2.1,t.length≤20) (hS:∀ s∈a.2.2.2.2,s.2.1.length≤20∧s.2.2.1.length≤20∧s.2.2.2.length≤20∧∀ t∈s.2.2.1,t.length≤20) :
   ∃ l e,di x a=some (l,e)∧bQ x a=some (l,e)∧l.length≤1000000∧((0 < a.2.1∧(∀ t∈a.2.2.1,rin a.2.1 t=false)∧rin a.2.1 a.2.2.2.1=false)→∀ n∈l,Gd a.2.1 n):=by
 have same:uB x a=ip x a:=rfl
 unfold di bQ
 rw [show iA (x.1,x.2.1,x.2.2.1,x.2.2.2.1,x.2.2.2.2.1,x.2.2.2.2.2)=some (bf x) from w9 x,show dh (x.1,x.2.1,x.2.2.1,x.2.2.2.1,x.2.2.2.2.1,x.2.2.2.2.2)=some (bf x) from iD x,same]
 have hw:mT (x.1,x.2.1,x.2.2.1,x.2.2.2.1,x.2.2.2.2.1,x.2.2.2.2.2) (a.1,a.2.1,a.2.2.1,a.2.2.2.1,a.2.2.2.2)=some (!(bad a.1 x.2.2.2.1||bad (a.2.2.1.length:Int) x.2.2.2.2.1||bad a.2.1 x.2.2.2.2.2||(decide (x.1=4)&&(bad (a.2.2.1.length:Int) [x.2.2.1]||bad (a.2.2.2.2.length:Int) [x.2.1])))):=by
   unfold mT iw ic
   simp only [Option.bind_some,qF x.2.2.2.1 _ (by omega:x.2.2.2.1.length≤1000),qF x.2.2.2.2.1 _ (by omega:x.2.2.2.2.1.length≤1000),qF x.2.2.2.2.2 _ (by omega:x.2.2.2.2.2.length≤1000)]
   have e (n i:Int):bad n [i]=(decide (i < 0)||decide (n≤i)):=by simp [bad]
   rw [e,e]
   cases bad a.1 x.2.2.2.1 <;> cases bad (a.2.2.1.length:Int) x.2.2.2.2.1 <;> cases bad a.2.1 x.2.2.2.2.2 <;> cases decide (x.1=4) <;> cases (decide (x.2.2.1 < 0)||decide ((a.2.2.1.length:Int)≤x.2.2.1)) <;> cases (decide (x.2.1 < 0)||decide ((a.2.2.2.2.length:Int)≤x.2.1)) <;> rfl
 rw [hw]
 by_cases hf:bf x=0
 . have o1 (i n:Int):dg [i] n=some (!bad n [i]):=cQ [i] n (by simp)
   simp only [hf,Option.bind_some,decide_true,Bool.not_true,cond_false,cQ x.2.2.2.1 _ (by omega:x.2.2.2.1.length≤1000),cQ x.2.2.2.2.1 _ (by omega:x.2.2.2.2.1.length≤1000),cQ x.2.2.2.2.2 _ (by omega:x.2.2.2.2.2.length≤1000),o1,Bool.not_not]
   have seven:∃ l e,(some (([]:List Nd),(7:Int)):Option (List Nd×Int))=some (l,e)∧(some (([]:List Nd),(7:Int)):Option (List Nd×Int))=some (l,e)∧l.length≤1000000∧((0 < a.2.1∧(∀ t∈a.2.2.1,rin a.2.1 t=false)∧rin a.2.1 a.2.2.2.1=false)→∀ n∈l,Gd a.2.1 n):=⟨[],7,rfl,rfl,by simp,by simp⟩
   cases b1:bad a.1 x.2.2.2.1 with
   | true=>exact seven
   | false =>
     cases b2:bad (a.2.2.1.length:Int) x.2.2.2.2.1 with
     | true=>exact seven
     | false =>
       cases b3:bad a.2.1 x.2.2.2.2.2 with
       | true=>exact seven
       | false =>
         by_cases k4:x.1=4
         . have n3:¬ x.1=3:=by omega
           rw [decide_eq_true k4,decide_eq_false n3]
           cases b4:bad (a.2.2.1.length:Int) [x.2.2.1] with
           | true=>exact seven
           | false =>
             cases b5:bad (a.2.2.2.2.length:Int) [x.2.1] with
             | true=>exact seven
             | false =>
               obtain ⟨C,c1,c2,c3⟩:=Cc l3 b2 hL
               simp [bad] at b4 b5
               simp only [Bool.or_self,Bool.and_false,Bool.not_false,Bool.not_true,cond_false,cond_true,Option.bind_some,c1,Bool.false_and,Bool.true_and]
               rw [pF b5.1 b5.2,pF b4.1 b4.2]
               have hs:=hS _ (List.getElem_mem (l:=a.2.2.2.2) (n:=x.2.1.toNat) (by omega))
               have ht:=hL _ (List.getElem_mem (l:=a.2.2.1) (n:=x.2.2.1.toNat) (by omega))
               have hDm:=List.getElem_mem (l:=a.2.2.1) (n:=x.2.2.1.toNat) (by omega)
               simp only [Option.bind_some]
               generalize a.2.2.2.2[x.2.1.toNat]=S at hs ⊢
               generalize a.2.2.1[x.2.2.1.toNat]=D at ht hDm ⊢
               rw [show kE (S.1,S.2.1,S.2.2.1,S.2.2.2) x.2.2.2.2.2 C D=_ from BS S _ C D hs.2.2.1 hs.2.2.2 c2 ht,show kw (S.1,S.2.1,S.2.2.1,S.2.2.2) x.2.2.2.2.2 C D=_ from BA S _ C D hs.2.2.1 hs.2.2.2 c2 ht]
               have hn:=E5 S x.2.2.2.2.2 C D ⟨hs.1,hs.2.1,hs.2.2.1⟩ c2
               exact ⟨(csp S x.2.2.2.2.2 C D).1,(csp S x.2.2.2.2.2 C D).2,rfl,rfl,hn,fun hg=>DX hg.1 b3 (fun t ht=>⟨c2 t ht,hg.2.1 t (c3 t ht)⟩) (hg.2.1 _ hDm) ⟨hs.1,hs.2.1,hs.2.2.1⟩⟩
         . rw [decide_eq_false k4]
           by_cases k3:x.1=3
           . rw [decide_eq_true k3]
             cases hz:a.2.2.1 with
             | nil=>exact ⟨[],14,by simp,by simp,by simp,by simp⟩
             | cons t ts =>
               have ht:=hL t (by rw [hz]; simp)
               have hl0:decide ((((t :: ts).length:Nat):Int)=0)=false:=decide_eq_false (by simp; omega)
               simp only [hl0,Bool.or_self,Bool.and_false,Bool.false_and,Bool.not_false,Bool.not_true,cond_false,cond_true,Option.bind_some,show aa (t :: ts) 0=some t from rfl]
               rw [nt _ _ _ _ (by omega) (by omega) (by omega),gG _ _ _ _ (by omega) (by omega) (by omega)]
               have hr:=cy 7 t a.2.2.2.1 0
               by_cases q:shp t a.2.2.2.1=true
               . exact ⟨rel 7 0 t a.2.2.2.1,0,by simp [q],by simp [q],by omega,fun hg=>gJ (by decide) _ _ 0 (by omega) (by omega) (hg.2.1 t (by simp)) hg.2.2⟩
               . exact ⟨[],8,by simp [q],by simp [q],by simp,by simp⟩
           . rw [decide_eq_false k3]
             exact ⟨[],0,rfl,rfl,by simp,by simp⟩
 . exact ⟨[],bf x,by simp [hf],by simp [hf],by simp,by simp⟩
end
end Go.Proofs.YtfldcmoebihobaaGreatDoor
