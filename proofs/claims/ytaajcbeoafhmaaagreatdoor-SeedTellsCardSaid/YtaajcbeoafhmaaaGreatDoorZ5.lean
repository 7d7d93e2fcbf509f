/- A part of the proof: what lies ahead of the law. Nothing is claimed here. -/
import Derived.Test.YtaajcbeoafhmaaaGreatDoorZ4
import Derived.Test.YtaajcbeoafhmaaaGreatDoorRows
namespace Go.Proofs.YtaajcbeoafhmaaaGreatDoor
noncomputable section
set_option linter.unusedVariables false
set_option maxRecDepth 100000
set_option maxHeartbeats 4000000
section
open Go.RowKit _root_.Go.Proofs.Tryz
abbrev bkO (i:Nat) (o:OT):Bk:=⟨some i,0,[],false,false,some o,false⟩
abbrev bkC (i:Nat) (e:TypeId) (ks:List Kd):Bk:=⟨some i,e,ks,false,false,none,false⟩
abbrev bkN (e:TypeId) (ks:List Kd):Bk:=⟨none,e,ks,false,false,none,false⟩
abbrev bkU (i:Nat):Bk:=⟨some i,0,[],false,true,none,false⟩
abbrev bkM:Bk:=⟨none,0,[],false,true,none,false⟩
abbrev kdI (i:Nat):Nat×Kd:=(i,.dat (.int .i64))
abbrev kdB (i:Nat):Nat×Kd:=(i,.dat .bool)
abbrev Tq1:Type:=(Int×Int×(List (Int×Int))×(List (List (Int×Bool)))×(List (Int×Bool))×(List (Int×(List (Int×Int))×(List (List (Int×Bool)))×(List (Int×Bool))))×(List ((List (Int×Int×Int×Int×Bool))×(Int×Int×Int×(List Int)×(List Int)×(List Int)))))
abbrev Yq1:Tp:=(.cons (.int .i64) (.cons (.int .i64) (.cons (.sl (.cons (.int .i64) (.one (.int .i64)))) (.cons (.sl (.one (.sl (.cons (.int .i64) (.one .bool))))) (.cons (.one (.sl (.cons (.int .i64) (.one .bool)))) (.cons (.sl (.cons (.int .i64) (.cons (.sl (.cons (.int .i64) (.one (.int .i64)))) (.cons (.sl (.one (.sl (.cons (.int .i64) (.one .bool))))) (.one (.one (.sl (.cons (.int .i64) (.one .bool))))))))) (.one (.sl (.cons (.sl (.cons (.int .i64) (.cons (.int .i64) (.cons (.int .i64) (.cons (.int .i64) (.one .bool)))))) (.one (.cons (.int .i64) (.cons (.int .i64) (.cons (.int .i64) (.cons (.sl (.int .i64)) (.cons (.sl (.int .i64)) (.one (.sl (.int .i64))))))))))))))))))
abbrev Yq2:Tp:=(.int .i64)
abbrev Tq2:Type:=(Int×(Option (List Int))×(Option (Int×(List Int))))
abbrev Yq3:Tp:=(.cons Yq2 (.one .bool))
abbrev Tq3:Type:=(List (Int×Bool))
abbrev Tq4:Type:=((List Int)×(List Int))
abbrev Tq5:Type:=(Option (Int×(List Int)))
abbrev Tq6:Type:=(Int×Int×Int×Int×Bool)
abbrev Tq7:Type:=(List (Int×Int))
abbrev Yq4:Tp:=(.sl (.cons Yq2 (.one Yq2)))
abbrev Yq5:Tp:=(.cons (.sl Yq2) (.one (.sl Yq2)))
abbrev Tq8:Type:=(List (Option Tq2))
abbrev Yq6:Tp:=(.cons Yq2 (.cons Yq2 (.cons Yq2 Yq3)))
abbrev Tq9:Type:=(Int×Int×Int×(List Int)×(List Int)×(List Int))
abbrev Yq7:Tp:=(.int .u64)
abbrev aE:Type:=(Option (List Int))
abbrev Yq8:Tp:=(.one (.sl Yq3))
abbrev bc:Type:=(Int×Int×Int×Int)
abbrev aR:Type:=(List (Int×Int×Bool))
abbrev Yq9:Tp:=(.ptr (.cons Yq2 (.one (.sl Yq7))))
abbrev gz:Type:=((List Int)×(List Int)×Int×Int×(Option Tq7))
abbrev gA:Type:=(Int×(List Int)×(List Int)×Int×Int×(Option Tq7))
abbrev bX:Type:=(Int×Tq7×(List Tq3)×Tq3)
abbrev aO:Type:=((List Int)×Int)
abbrev en:Type:=(Int×(List Int)×Int×Int×(Option Tq7))
abbrev ej:Type:=((List Int)×Int×Int×(Option Tq7))
abbrev dm:Tp:=(.ptr (.cons Yq2 (.cons Yq4 (.cons Yq5 (.one Yq5)))))
abbrev cM:Type:=(Option (Int×Tq7×Tq4×Tq4))
abbrev aT:Type:=((List Tq6)×Int)
abbrev bA:Type:=(Int×(List Int))
abbrev gg:Tp:=(.cons Yq2 (.cons Yq4 (.cons (.sl Yq8) (.one Yq8))))
abbrev ew:Tp:=(.cons Yq2 (.cons Yq2 (.cons Yq2 (.cons (.sl Yq2) Yq5))))
abbrev aL:Type:=(List (List Int))
abbrev c9:Tp:=(.ptr (.cons (.sl Yq2) (.one Yq2)))
abbrev cO:Type:=(Int×(List Tq5))
abbrev gl:Type:=((List Tq4)×(List Tq4))
abbrev gC:Type:=(Int×Bool×(List Int))
abbrev gm:Type:=(Int×Tq8×aE×Tq5)
abbrev bp:Type:=(Int×Int)
abbrev bF:Type:=(Int×Tq8)
abbrev nB:Tp:=(.ptr (.cons Yq2 (.cons (.ptr (.one (.sl Yq2))) (.one Yq9))))
abbrev ba:Type:=(Int×Bool)
abbrev kj:Type:=(Int×Int×(List Tq3)×Tq3×(List bX))
abbrev rC:Tp:=(.cons Yq2 (.cons Yq2 (.cons (.sl Yq8) (.cons Yq8 (.one (.sl gg))))))
abbrev dk:Tp:=(.cons Yq2 (.one Yq2))
abbrev eX:Tp:=(.cons Yq2 (.one (.sl Yq9)))
instance nob:BldA:=⟨1000000000,fun b _=>Cl b 1000000000 [.pointer none,.slice none 0 0],fun h=>h,tzGk,tzGk.mono⟩
def L7:OkSpec Tryz.prog:=⟨vA,JH (fun _ h=>h),call156⟩

def gY (xa:Tq3) (xb:Int):Option Bool :=
 some (decide ((xa.length:Int)≤xb))
def hQ0:Hn Tryz.prog := .nil
def sQ0:Spec:=⟨22,⟨[(0,.dat Yq8),kdI 1],[]⟩,[⟨[kdB 0],[]⟩],fun x=>gY x.1 x.2⟩
def oQ0:OkSpec Tryz.prog:=⟨sQ0,ab func22 hQ0 (by kernel_rfl) (by kernel_rfl),call22⟩
def wM (xa:bX):Int→Option (Int⊕(Unit⊕Bool)):=fun i1=>cond (decide (i1 < (xa.2.2.1.length:Int))) ((aa xa.2.2.1 i1).bind fun x2=>(gY x2 20).bind fun t3=>cond (!t3) (some (.inr ((.inr (false))))) (some (.inl (IntKind.wrap .i64 (i1 + 1))))) (some (.inr ((.inl ()))))
def fC (xa:bX):Option Bool :=
 (cond ((decide (20 < (xa.2.1.length:Int)))||(decide (20 < (xa.2.2.1.length:Int)))) (some (true)) ((gY xa.2.2.2 20).bind fun t1=>some (!t1))).bind fun t2=>cond (t2) (some (false)) ((loop (wM xa) 0).bind fun o=>match o with | .inr r=>some r | .inl ()=>some (true))
def hQ1:Hn Tryz.prog := .gp 4 (.wt 14 (.gj 4 ⟨[kdB 19],[]⟩ [] (.two 14 .nil (.cl oQ0 [] .nil)) (.tw 19 .nil (.jx [] ⟨[],[]⟩ [] (.lp ⟨[kdI 3],[]⟩ (.tw 24 (.cl oQ0 [] (.tw 33 .nil .nil)) .nil)) .nil))))
def sQ1:Spec:=⟨23,⟨[(0,.dat gg)],[]⟩,[⟨[kdB 0],[]⟩],fun x=>fC x⟩
def oQ1:OkSpec Tryz.prog:=⟨sQ1,ab func23 hQ1 (by kernel_rfl) (by kernel_rfl),call23⟩
def wJ (xa:Tq1):Int→Option (Int⊕(Unit⊕Bool)):=fun i1=>cond (decide (i1 < (xa.2.2.2.1.length:Int))) ((aa xa.2.2.2.1 i1).bind fun x2=>(gY x2 20).bind fun t3=>cond (!t3) (some (.inr ((.inr (false))))) (some (.inl (IntKind.wrap .i64 (i1 + 1))))) (some (.inr ((.inl ()))))
def iS (xa:Tq1):Int→Option (Int⊕(Unit⊕Bool)):=fun i1=>cond (decide (i1 < (xa.2.2.2.2.2.1.length:Int))) ((aa xa.2.2.2.2.2.1 i1).bind fun x2=>(fC (x2.1,x2.2.1,x2.2.2.1,x2.2.2.2)).bind fun t3=>cond (!t3) (some (.inr ((.inr (false))))) (some (.inl (IntKind.wrap .i64 (i1 + 1))))) (some (.inr ((.inl ()))))
def gM (xa:Tq1):bp→Option (bp⊕(Int⊕Bool)):=fun (i1,i2)=>cond (decide (i2 < (xa.2.2.2.2.2.2.length:Int))) ((aa xa.2.2.2.2.2.2 i2).bind fun x3=>(aa xa.2.2.2.2.2.2 i2).bind fun x4=>cond (((decide (20 < (x3.2.2.2.2.1.length:Int)))||(decide (20 < (x3.2.2.2.2.2.1.length:Int))))||(decide (20 < (x3.2.2.2.2.2.2.length:Int)))) (some (.inr ((.inr (false))))) (some (.inl ((IntKind.wrap .i64 (i1 + (x4.1.length:Int)),IntKind.wrap .i64 (i2 + 1)))))) (some (.inr (.inl i1)))
def fv (xa:Tq1):Option Bool :=
 (cond ((((decide (20 < (xa.2.2.1.length:Int)))||(decide (10 < (xa.2.2.2.1.length:Int))))||(decide (4 < (xa.2.2.2.2.2.1.length:Int))))||(decide (8 < (xa.2.2.2.2.2.2.length:Int)))) (some (true)) ((gY xa.2.2.2.2.1 20).bind fun t1=>some (!t1))).bind fun t2=>cond (t2) (some (false)) ((loop (wJ xa) 0).bind fun o=>match o with | .inr r=>some r | .inl ()=>(loop (iS xa) 0).bind fun o=>match o with | .inr r=>some r | .inl ()=>(loop (gM xa) (0,0)).bind fun o=>match o with | .inr r=>some r | .inl i3=>some (decide (i3≤24)))
def hQ2:Hn Tryz.prog := .gp 4 (.wt 18 (.gp 4 (.wt 24 (.gp 4 (.wt 30 (.gj 4 ⟨[kdB 35],[]⟩ [] (.two 30 .nil (.cl oQ0 [] .nil)) (.tw 35 .nil (.jx [] ⟨[],[]⟩ [] (.lp ⟨[kdI 3],[]⟩ (.tw 40 (.cl oQ0 [] (.tw 49 .nil .nil)) .nil)) (.jx [] ⟨[],[]⟩ [] (.lp ⟨[kdI 4],[]⟩ (.tw 54 (.cl oQ1 [] (.tw 63 .nil .nil)) .nil)) (.jx [] ⟨[kdI 5],[]⟩ [] (.lp ⟨[kdI 5,kdI 6],[]⟩ (.tw 68 (.gp 4 (.wt 96 (.gp 4 (.tw 101 .nil .nil)))) .nil)) .nil))))))))))
def sQ2:Spec:=⟨6,⟨[(0,.dat Yq1)],[]⟩,[⟨[kdB 0],[]⟩],fun x=>fv x⟩
def oQ2:OkSpec Tryz.prog:=⟨sQ2,ab func6 hQ2 (by kernel_rfl) (by kernel_rfl),call6⟩

def br (xb:Int) (xc:Int):Option Unit :=
 some (())
def hQ3:Hn Tryz.prog := .nil
def sQ3:Spec:=⟨26,⟨[(0,.nilp),kdI 1,kdI 2],[]⟩,[⟨[],[]⟩],fun x=>br x.1 x.2⟩
def oQ3:OkSpec Tryz.prog:=⟨sQ3,ab func26 hQ3 (by kernel_rfl) (by kernel_rfl),call26⟩

def lz (xa:Tq1):Option bc :=
 cond ((decide (xa.1 < 1))||(decide (xa.2.1 < xa.1))) (some ((7,0,0,0))) (cond (decide (65536 < xa.2.1)) (some ((6,0,0,0))) (some ((0,0,0,0))))
def hQ4:Hn Tryz.prog := .gp 5 (.tw 7 .nil (.tw 19 .nil .nil))
def sQ4:Spec:=⟨141,⟨[(0,.dat Yq1),(1,.nilp)],[]⟩,[⟨[(0,.agg [.dat Yq2,.dat Yq2,.dat Yq2,.dat Yq2])],[]⟩],fun x=>lz x⟩
def oQ4:OkSpec Tryz.prog:=⟨sQ4,ab func141 hQ4 (by kernel_rfl) (by kernel_rfl),call141⟩

def nO (xa:Int) (qa0:Int) (qa1:Int) (qa2:Tq7) (qa3:(List Tq3)) (qa4:Tq3) (qa5:(List bX)) (qa6:(List ((List Tq6)×Tq9))):Option Bool :=
 some ((decide (0≤xa))&&(decide (xa < qa0)))
def hQ5:Hn Tryz.prog := .gp 4 .nil
def sQ5:Spec:=⟨174,⟨[kdI 0,(1,.ptr 0 0)],[bkN 30 [.is 1 (.dat Yq2),.is 2 (.dat Yq2),.is 3 (.dat Yq4),.is 4 (.dat (.sl Yq8)),.is 5 (.dat (.sl Yq3)),.is 6 (.dat (.sl gg)),.is 7 (.dat (.sl (.cons (.sl Yq6) (.one ew))))],bkM,bkM,bkM,bkM,bkM,bkM,bkM]⟩,[⟨[kdB 0],[bkC 0 30 [.is 1 (.any),.is 2 (.any),.is 3 (.any),.is 4 (.any),.is 5 (.any),.is 6 (.any),.is 7 (.any)],bkU 1,bkU 2,bkU 3,bkU 4,bkU 5,bkU 6,bkU 7]⟩],fun x=>nO x.1 x.2.1 x.2.2.1 x.2.2.2.1 x.2.2.2.2.1 x.2.2.2.2.2.1 x.2.2.2.2.2.2.1 x.2.2.2.2.2.2.2⟩
def oQ5:OkSpec Tryz.prog:=⟨sQ5,ab func174 hQ5 (by kernel_rfl) (by kernel_rfl),call174⟩
def nX (xa:Tq1):Int→Option (Int⊕(Unit⊕bc)):=fun i1=>cond (decide (i1 < (xa.2.2.1.length:Int))) ((aa xa.2.2.1 i1).bind fun x2=>(br 1 1).bind fun _=>(nO x2.1 xa.1 xa.2.1 xa.2.2.1 xa.2.2.2.1 xa.2.2.2.2.1 xa.2.2.2.2.2.1 xa.2.2.2.2.2.2).bind fun t3=>(cond (!t3) (some (true)) ((nO x2.2 xa.1 xa.2.1 xa.2.2.1 xa.2.2.2.1 xa.2.2.2.2.1 xa.2.2.2.2.2.1 xa.2.2.2.2.2.2).bind fun t4=>some (!t4))).bind fun t5=>cond (t5) (some (.inr ((.inr ((7,1,i1,0)))))) (some (.inl (IntKind.wrap .i64 (i1 + 1))))) (some (.inr ((.inl ()))))
def kY (xa:Tq1):Option bc :=
 cond (decide (65536 < (xa.2.2.1.length:Int))) (some ((6,1,0,0))) ((loop (nX xa) 0).bind fun o=>match o with | .inr r=>some r | .inl ()=>some ((0,0,0,0)))
def hQ6:Hn Tryz.prog := .tw 11 .nil (.jx [] ⟨[],[bkC 2 160 [.lit (.int .i64 0),.lit (.int .i64 0),.lit (.int .i64 0),.lit (.int .i64 0)]]⟩ [2,0] (.mc 0 0 1 (.mc 0 1 1 (.mc 0 2 1 (.mc 0 3 1 (.mc 0 4 1 (.mc 0 5 1 (.mc 0 6 1 (.lp ⟨[kdI 17],[bkC 2 160 [.lit (.int .i64 0),.lit (.int .i64 0),.lit (.int .i64 0),.lit (.int .i64 0)],bkC 0 30 [.is 2 (.any),.is 3 (.any),.is 4 (.any),.is 5 (.any),.is 6 (.any),.is 7 (.any),.is 8 (.any)],bkU 4,bkU 5,bkU 6,bkU 7,bkU 8,bkU 9,bkU 10]⟩ (.tw 18 (.cl oQ3 [] (.cl oQ5 [] (.gj 5 ⟨[kdB 35],[bkC 0 30 [.is 1 (.any),.is 2 (.any),.is 3 (.any),.is 4 (.any),.is 5 (.any),.is 6 (.any),.is 7 (.any)],bkU 4,bkU 5,bkU 6,bkU 7,bkU 8,bkU 9,bkU 10]⟩ [0] (.two 29 .nil (.cl oQ5 [] .nil)) (.tw 35 .nil .nil)))) .nil))))))))) .nil)
def sQ6:Spec:=⟨142,⟨[(0,.dat Yq1),(1,.nilp)],[]⟩,[⟨[(0,.agg [.dat Yq2,.dat Yq2,.dat Yq2,.dat Yq2])],[]⟩],fun x=>kY x⟩
def oQ6:OkSpec Tryz.prog:=⟨sQ6,ab func142 hQ6 (by kernel_rfl) (by kernel_rfl),call142⟩

def sB (xa:ba) (qa0:Int):Option Bool :=
 some ((decide (xa.1 < 0))||(decide (qa0≤xa.1)))
def hQ7:Hn Tryz.prog := .gp 4 .nil
def sQ7:Spec:=⟨192,⟨[(0,.dat Yq3),(1,.ptr 0 0)],[bkN 3 [.is 1 (.dat Yq2)],bkM]⟩,[⟨[kdB 0],[bkC 0 3 [.is 1 (.any)],bkU 1]⟩],fun x=>sB x.1 x.2⟩
def oQ7:OkSpec Tryz.prog:=⟨sQ7,ab func192 hQ7 (by kernel_rfl) (by kernel_rfl),call192⟩
def nE (xa:Tq3) (qa0:Int):Int→Option (Int⊕(Unit⊕Int)):=fun i1=>cond (decide (i1 < (xa.length:Int))) ((aa xa i1).bind fun x2=>(sB (x2.1,x2.2) qa0).bind fun t3=>cond (t3) (some (.inr ((.inr (i1))))) (some (.inl (IntKind.wrap .i64 (i1 + 1))))) (some (.inr ((.inl ()))))
def r4 (xa:Tq3) (qa0:Int):Option Int :=
 (loop (nE xa qa0) 0).bind fun o=>match o with | .inr r=>some r | .inl ()=>some ((-1))
def hQ8:Hn Tryz.prog := .jx [] ⟨[],[bkC 0 3 [.is 1 (.any)],bkU 1]⟩ [0] (.lp ⟨[kdI 8],[bkC 0 3 [.is 1 (.any)],bkU 1]⟩ (.tw 9 (.cl oQ7 [] (.tw 16 .nil .nil)) .nil)) .nil
def sQ8:Spec:=⟨102,⟨[(0,.dat (.sl Yq3)),(1,.fn 192 [.ptr 0 0])],[bkN 3 [.is 1 (.dat Yq2)],bkM]⟩,[⟨[kdI 0],[bkC 0 3 [.is 1 (.any)],bkU 1]⟩],fun x=>r4 x.1 x.2⟩
def oQ8:OkSpec Tryz.prog:=⟨sQ8,ab func102 hQ8 (by kernel_rfl) (by kernel_rfl),call102⟩

def rZ (xa:Tq3) (qa0:Int):Option Bool :=
 (r4 xa qa0).bind fun i10=>some (decide (0≤i10))
def hQ9:Hn Tryz.prog := .cl oQ8 [] .nil
def sQ9:Spec:=⟨66,⟨[(0,.dat (.sl Yq3)),(1,.fn 192 [.ptr 0 0])],[bkN 3 [.is 1 (.dat Yq2)],bkM]⟩,[⟨[kdB 0],[bkC 0 3 [.is 1 (.any)],bkU 1]⟩],fun x=>rZ x.1 x.2⟩
def oQ9:OkSpec Tryz.prog:=⟨sQ9,ab func66 hQ9 (by kernel_rfl) (by kernel_rfl),call66⟩

def mf (xa:Tq3) (xb:Int):Option Bool :=
 (rZ xa xb).bind fun t14=>some (!t14)
def QU:Hn Tryz.prog := .mc 2 0 3 (.cl oQ9 [] .nil)
def Se:Spec:=⟨186,⟨[(0,.dat Yq8),kdI 1],[]⟩,[⟨[kdB 0],[]⟩],fun x=>mf x.1 x.2⟩
def B4:OkSpec Tryz.prog:=⟨Se,ab func186 QU (by kernel_rfl) (by kernel_rfl),call186⟩

def fB (xa:Tq3) (xb:Int):Option Int :=
 cond (decide (16 < (xa.length:Int))) (some (6)) ((mf xa xb).bind fun t15=>cond (!t15) (some (7)) (some (0)))
def N8:Hn Tryz.prog := .tw 8 .nil (.cl B4 [] (.tw 12 .nil .nil))
def Ra:Spec:=⟨175,⟨[(0,.dat Yq8),kdI 1],[]⟩,[⟨[kdI 0],[]⟩],fun x=>fB x.1 x.2⟩
def rL:OkSpec Tryz.prog:=⟨Ra,ab func175 N8 (by kernel_rfl) (by kernel_rfl),call175⟩
def nY (xa:Tq1):Int→Option (Int⊕(Unit⊕bc)):=fun i1=>cond (decide (i1 < (xa.2.2.2.1.length:Int))) ((aa xa.2.2.2.1 i1).bind fun x2=>(br 1 1).bind fun _=>(fB x2 xa.2.1).bind fun i3=>cond (!decide (i3=0)) (some (.inr ((.inr ((i3,2,i1,0)))))) (some (.inl (IntKind.wrap .i64 (i1 + 1))))) (some (.inr ((.inl ()))))
def kW (xa:Tq1):Option bc :=
 cond (decide ((xa.2.2.2.1.length:Int)=0)) (some ((14,2,0,0))) (cond (decide (65536 < (xa.2.2.2.1.length:Int))) (some ((6,2,0,0))) ((loop (nY xa) 0).bind fun o=>match o with | .inr r=>some r | .inl ()=>some ((0,0,0,0))))
def Ot:Hn Tryz.prog := .tw 11 .nil (.tw 16 .nil (.jx [] ⟨[],[bkC 2 160 [.lit (.int .i64 0),.lit (.int .i64 0),.lit (.int .i64 0),.lit (.int .i64 0)]]⟩ [2] (.lp ⟨[kdI 21],[bkC 2 160 [.lit (.int .i64 0),.lit (.int .i64 0),.lit (.int .i64 0),.lit (.int .i64 0)]]⟩ (.tw 22 (.cl oQ3 [] (.cl rL [] (.tw 33 .nil .nil))) .nil)) .nil))
def PK:Spec:=⟨143,⟨[(0,.dat Yq1),(1,.nilp)],[]⟩,[⟨[(0,.agg [.dat Yq2,.dat Yq2,.dat Yq2,.dat Yq2])],[]⟩],fun x=>kW x⟩
def Pk:OkSpec Tryz.prog:=⟨PK,ab func143 Ot (by kernel_rfl) (by kernel_rfl),call143⟩

def sS (xa:ba) (xb:ba):Option Bool :=
 some (xa.2 == xb.2)
def Rz:Hn Tryz.prog := .nil
def Oy:Spec:=⟨188,⟨[(0,.dat Yq3),(1,.dat Yq3)],[]⟩,[⟨[kdB 0],[]⟩],fun x=>sS x.1 x.2⟩
def Oi:OkSpec Tryz.prog:=⟨Oy,ab func188 Rz (by kernel_rfl) (by kernel_rfl),call188⟩
def rV (xa:Tq3) (xb:Tq3):Int→Option (Int⊕(Unit⊕Bool)):=fun i1=>cond (decide (i1 < (xa.length:Int))) ((aa xa i1).bind fun x2=>(aa xb i1).bind fun x3=>(sS (x2.1,x2.2) (x3.1,x3.2)).bind fun t4=>cond (!t4) (some (.inr ((.inr (false))))) (some (.inl (IntKind.wrap .i64 (i1 + 1))))) (some (.inr ((.inl ()))))
def nD (xa:Tq3) (xb:Tq3):Option Bool :=
 cond (!decide ((xa.length:Int)=(xb.length:Int))) (some (false)) ((loop (rV xa xb) 0).bind fun o=>match o with | .inr r=>some r | .inl ()=>some (true))
def Pf:Hn Tryz.prog := .tw 14 .nil (.jx [] ⟨[],[]⟩ [] (.lp ⟨[kdI 17],[]⟩ (.tw 18 (.cl Oi [] (.tw 30 .nil .nil)) .nil)) .nil)
def RF:Spec:=⟨187,⟨[(0,.dat (.sl Yq3)),(1,.dat (.sl Yq3)),(2,.fn 188 [])],[]⟩,[⟨[kdB 0],[]⟩],fun x=>nD x.1 x.2⟩
def O6:OkSpec Tryz.prog:=⟨RF,ab func187 Pf (by kernel_rfl) (by kernel_rfl),call187⟩

def dR (xa:Tq3) (xb:Tq3):Option Bool :=
 (nD xa xb).bind fun t14=>some (t14)
def Sd:Hn Tryz.prog := .cl O6 [] .nil
def QC:Spec:=⟨176,⟨[(0,.dat Yq8),(1,.dat Yq8)],[]⟩,[⟨[kdB 0],[]⟩],fun x=>dR x.1 x.2⟩
def ke:OkSpec Tryz.prog:=⟨QC,ab func176 Sd (by kernel_rfl) (by kernel_rfl),call176⟩

def lJ (xa:Tq1):Option bc :=
 (fB xa.2.2.2.2.1 xa.1).bind fun i81=>cond (decide (i81=0)) ((aa xa.2.2.2.1 0).bind fun x1=>(dR xa.2.2.2.2.1 x1).bind fun t2=>cond (!t2) (some ((8,3,0,0))) (some ((i81,3,0,0)))) (some ((i81,3,0,0)))
def Qt:Hn Tryz.prog := .cl rL [] (.mix [] [0,1,2,3,4,5,6,7,8,9] [10,11,12] [] (.two 15 (.cl ke [] (.tw 24 .nil .nil)) .nil))
def QL:Spec:=⟨144,⟨[(0,.dat Yq1),(1,.nilp)],[]⟩,[⟨[(0,.agg [.dat Yq2,.dat Yq2,.dat Yq2,.dat Yq2])],[]⟩],fun x=>lJ x⟩
def O3:OkSpec Tryz.prog:=⟨QL,ab func144 Qt (by kernel_rfl) (by kernel_rfl),call144⟩

def nR (xa:Int) (qa0:Int) (qa1:Tq7) (qa2:(List Tq3)) (qa3:Tq3):Option Bool :=
 some ((decide (0≤xa))&&(decide (xa < qa0)))
def R7:Hn Tryz.prog := .gp 4 .nil
def OE:Spec:=⟨189,⟨[kdI 0,(1,.ptr 0 0)],[bkN 67 [.is 1 (.dat Yq2),.is 2 (.dat Yq4),.is 3 (.dat (.sl Yq8)),.is 4 (.dat (.sl Yq3))],bkM,bkM,bkM,bkM]⟩,[⟨[kdB 0],[bkC 0 67 [.is 1 (.any),.is 2 (.any),.is 3 (.any),.is 4 (.any)],bkU 1,bkU 2,bkU 3,bkU 4]⟩],fun x=>nR x.1 x.2.1 x.2.2.1 x.2.2.2.1 x.2.2.2.2⟩
def Cg:OkSpec Tryz.prog:=⟨OE,ab func189 R7 (by kernel_rfl) (by kernel_rfl),call189⟩
def oS (xa:bX):Int→Option (Int⊕(Unit⊕Int)):=fun i1=>cond (decide (i1 < (xa.2.1.length:Int))) ((aa xa.2.1 i1).bind fun x2=>(nR x2.1 xa.1 xa.2.1 xa.2.2.1 xa.2.2.2).bind fun t3=>(cond (!t3) (some (true)) ((nR x2.2 xa.1 xa.2.1 xa.2.2.1 xa.2.2.2).bind fun t4=>some (!t4))).bind fun t5=>cond (t5) (some (.inr ((.inr (7))))) (some (.inl (IntKind.wrap .i64 (i1 + 1))))) (some (.inr ((.inl ()))))
def oO (xa:bX):Int→Option (Int⊕(Unit⊕Int)):=fun i1=>cond (decide (i1 < (xa.2.2.1.length:Int))) ((aa xa.2.2.1 i1).bind fun x2=>(fB x2 xa.1).bind fun i3=>cond (!decide (i3=0)) (some (.inr ((.inr (i3))))) (some (.inl (IntKind.wrap .i64 (i1 + 1))))) (some (.inr ((.inl ()))))
def fy (xa:bX):Option Int :=
 cond (decide (xa.1 < 0)) (some (7)) (cond (((decide (16 < xa.1))||(decide (16 < (xa.2.1.length:Int))))||(decide (16 < (xa.2.2.1.length:Int)))) (some (6)) ((loop (oS xa) 0).bind fun o=>match o with | .inr r=>some r | .inl ()=>(loop (oO xa) 0).bind fun o=>match o with | .inr r=>some r | .inl ()=>(fB xa.2.2.2 xa.1).bind fun i1=>some (i1)))
def PB:Hn Tryz.prog := .tw 11 .nil (.gp 4 (.wt 21 (.gp 4 (.tw 26 .nil (.jx [(0,0),(0,1),(0,2),(0,3)] ⟨[],[bkC 0 67 [.is 1 (.any),.is 2 (.any),.is 3 (.any),.is 4 (.any)],bkU 2,bkU 3,bkU 4,bkU 5]⟩ [0] (.lp ⟨[kdI 31],[bkC 0 67 [.is 1 (.any),.is 2 (.any),.is 3 (.any),.is 4 (.any)],bkU 2,bkU 3,bkU 4,bkU 5]⟩ (.tw 32 (.cl Cg [] (.gj 5 ⟨[kdB 46],[bkC 0 67 [.is 1 (.any),.is 2 (.any),.is 3 (.any),.is 4 (.any)],bkU 2,bkU 3,bkU 4,bkU 5]⟩ [0] (.two 40 .nil (.cl Cg [] .nil)) (.tw 46 .nil .nil))) .nil)) (.jx [] ⟨[],[]⟩ [] (.lp ⟨[kdI 51],[]⟩ (.tw 52 (.cl rL [] (.tw 60 .nil .nil)) .nil)) (.cl rL [] .nil)))))))
def RU:Spec:=⟨177,⟨[(0,.dat gg)],[]⟩,[⟨[kdI 0],[]⟩],fun x=>fy x⟩
def B6:OkSpec Tryz.prog:=⟨RU,ab func177 PB (by kernel_rfl) (by kernel_rfl),call177⟩
def n8 (xa:Tq1):Int→Option (Int⊕(Unit⊕bc)):=fun i1=>cond (decide (i1 < (xa.2.2.2.2.2.1.length:Int))) ((aa xa.2.2.2.2.2.1 i1).bind fun x2=>(br 1 1).bind fun _=>(fy (x2.1,x2.2.1,x2.2.2.1,x2.2.2.2)).bind fun i3=>cond (!decide (i3=0)) (some (.inr ((.inr ((i3,4,i1,0)))))) (some (.inl (IntKind.wrap .i64 (i1 + 1))))) (some (.inr ((.inl ()))))
def ly (xa:Tq1):Option bc :=
 cond (decide (65536 < (xa.2.2.2.2.2.1.length:Int))) (some ((6,4,0,0))) ((loop (n8 xa) 0).bind fun o=>match o with | .inr r=>some r | .inl ()=>some ((0,0,0,0)))
def QX:Hn Tryz.prog := .tw 11 .nil (.jx [] ⟨[],[bkC 2 160 [.lit (.int .i64 0),.lit (.int .i64 0),.lit (.int .i64 0),.lit (.int .i64 0)]]⟩ [2,0] (.lp ⟨[kdI 16],[bkC 2 160 [.lit (.int .i64 0),.lit (.int .i64 0),.lit (.int .i64 0),.lit (.int .i64 0)]]⟩ (.tw 17 (.cl oQ3 [] (.cl B6 [] (.tw 26 .nil .nil))) .nil)) .nil)
def Oz:Spec:=⟨145,⟨[(0,.dat Yq1),(1,.nilp)],[]⟩,[⟨[(0,.agg [.dat Yq2,.dat Yq2,.dat Yq2,.dat Yq2])],[]⟩],fun x=>ly x⟩
def PN:OkSpec Tryz.prog:=⟨Oz,ab func145 QX (by kernel_rfl) (by kernel_rfl),call145⟩
def kN (xa:Tq1):bp→Option (bp⊕(Unit⊕bc)):=fun (i1,i2)=>cond (decide (i2 < (xa.2.2.2.2.2.2.length:Int))) ((aa xa.2.2.2.2.2.2 i2).bind fun x3=>(br 1 1).bind fun _=>cond (decide (65536 < (IntKind.wrap .i64 (i1 + (x3.1.length:Int))))) (some (.inr ((.inr ((6,5,i2,0)))))) (some (.inl ((IntKind.wrap .i64 (i1 + (x3.1.length:Int)),IntKind.wrap .i64 (i2 + 1)))))) (some (.inr ((.inl ()))))
def kT (xa:Tq1):Option bc :=
 cond (decide ((xa.2.2.2.2.2.2.length:Int)=0)) (some ((14,5,0,0))) (cond (decide (65536 < (xa.2.2.2.2.2.2.length:Int))) (some ((6,5,0,0))) ((loop (kN xa) (0,0)).bind fun o=>match o with | .inr r=>some r | .inl ()=>some ((0,0,0,0))))
def OI:Hn Tryz.prog := .tw 11 .nil (.tw 16 .nil (.jx [] ⟨[],[bkC 2 160 [.lit (.int .i64 0),.lit (.int .i64 0),.lit (.int .i64 0),.lit (.int .i64 0)]]⟩ [2,0] (.lp ⟨[kdI 5,kdI 21],[bkC 2 160 [.lit (.int .i64 0),.lit (.int .i64 0),.lit (.int .i64 0),.lit (.int .i64 0)]]⟩ (.tw 22 (.cl oQ3 [] (.tw 34 .nil .nil)) .nil)) .nil))
def Pe:Spec:=⟨146,⟨[(0,.dat Yq1),(1,.nilp)],[]⟩,[⟨[(0,.agg [.dat Yq2,.dat Yq2,.dat Yq2,.dat Yq2])],[]⟩],fun x=>kT x⟩
def P0:OkSpec Tryz.prog:=⟨Pe,ab func146 OI (by kernel_rfl) (by kernel_rfl),call146⟩

def oH (xa:Int):Option (Bool×Bool×Bool×Bool) :=
 cond (decide (xa=0)) (some ((false,false,false,true))) (cond (decide (xa=1)) (some ((true,true,false,true))) ((cond (decide (xa=2)) (some (decide (xa=2))) (some (decide (xa=3))):Option Bool).bind fun t18=>cond (t18) (some ((true,true,true,true))) (cond (decide (xa=4)) (some ((false,true,false,true))) (cond (decide (xa=5)) (some ((true,false,false,true))) (some ((false,false,false,false)))))))
def ON:Hn Tryz.prog := .tw 5 .nil (.tw 8 .nil (.sq [] ⟨[kdB 11],[]⟩ [] (.tw 11 .nil .nil) (.tw 11 .nil (.tw 15 .nil (.tw 18 .nil .nil)))))
def Qi:Spec:=⟨201,⟨[kdI 0],[]⟩,[⟨[(0,.tup [.agg [.dat .bool,.dat .bool,.dat .bool],.dat .bool])],[]⟩],fun x=>oH x⟩
def Rf:OkSpec Tryz.prog:=⟨Qi,ab func201 ON (by kernel_rfl) (by kernel_rfl),call201⟩

def pm (xa:Tq6) (xb:(Bool×Bool×Bool)):Option Tq6 :=
 (cond (xb.1) (some (xa.2.1)) (some (0)):Option Int).bind fun i22=>(cond (xb.2.1) (some (xa.2.2.1)) (some (0)):Option Int).bind fun i25=>cond (xb.2.2) (some ((xa.1,i22,i25,xa.2.2.2.1,xa.2.2.2.2))) (some ((xa.1,i22,i25,0,false)))
def Qs:Hn Tryz.prog := .pl (.pl (.sq [(6,0)] ⟨[],[bkC 6 62 [.is 1 (.any),.dat Yq2,.lit (.int .i64 0),.lit (.int .i64 0),.lit (.bool false)],bkU 9]⟩ [6] (.tw 10 .nil .nil) (.sq [(6,1)] ⟨[],[bkC 6 62 [.is 1 (.any),.is 2 (.any),.dat Yq2,.lit (.int .i64 0),.lit (.bool false)],bkU 9,bkU 11]⟩ [6] (.tw 15 .nil .nil) (.tw 20 (.mix [([0,1,2,3,4],5)] [6] [7] [6] .nil) .nil))))
def Rb:Spec:=⟨202,⟨[(0,.dat Yq6),(1,.dat (.cons .bool (.cons .bool (.one .bool))))],[]⟩,[⟨[(0,.agg [.dat Yq2,.dat Yq2,.dat Yq2,.dat Yq2,.dat .bool])],[]⟩],fun x=>pm x.1 x.2⟩
def Ov:OkSpec Tryz.prog:=⟨Rb,ab func202 Qs (by kernel_rfl) (by kernel_rfl),call202⟩

def pd (xa:Tq6):Option (Bool×Bool×Bool×Int) :=
 (oH xa.1).bind fun (t67,t68,t69,t70)=>cond (!t70) (some ((false,false,false,3))) ((pm (xa.1,xa.2.1,xa.2.2.1,xa.2.2.2.1,xa.2.2.2.2) (t67,t68,t69)).bind fun (i1,i2,i3,i4,t5)=>cond (!((decide (xa.1=i1))&&((decide (xa.2.1=i2))&&((decide (xa.2.2.1=i3))&&((decide (xa.2.2.2.1=i4))&&(xa.2.2.2.2 == t5)))))) (some ((false,false,false,3))) (some ((t67,t68,t69,0))))
def RO:Hn Tryz.prog := .cl Rf [] (.mix [([0,1,2,3,4,5],6)] [7,8] [] [] (.two 14 .nil (.cl Ov [] (.tw 20 .nil .nil))))
def QS:Spec:=⟨193,⟨[(0,.dat Yq6)],[]⟩,[⟨[(0,.tup [.agg [.dat .bool,.dat .bool,.dat .bool],.dat Yq2])],[]⟩],fun x=>pd x⟩
def OW:OkSpec Tryz.prog:=⟨QS,ab func193 RO (by kernel_rfl) (by kernel_rfl),call193⟩

def nW (xa:Int) (qa0:(List Tq3)):Option Bool :=
 some ((decide (0≤xa))&&(decide (xa < (qa0.length:Int))))
def N9:Hn Tryz.prog := .gp 4 .nil
def Q8:Spec:=⟨194,⟨[kdI 0,(1,.ptr 0 0)],[bkN 23 [.is 1 (.dat (.sl Yq8))],bkM]⟩,[⟨[kdB 0],[bkC 0 23 [.is 1 (.any)],bkU 1]⟩],fun x=>nW x.1 x.2⟩
def B3:OkSpec Tryz.prog:=⟨Q8,ab func194 N9 (by kernel_rfl) (by kernel_rfl),call194⟩
def CN (xa:Tq3) (xb:Tq3) (xc:Int) (xd:Int):aT→Option (aT⊕(List Tq6)):=fun (l1,i2)=>cond (decide (i2 < (xa.length:Int))) ((aa xa i2).bind fun x3=>(aa xb i2).bind fun x4=>(app l1 (([(x3.1,x4.1,xc,IntKind.wrap .i64 (xd + i2),false)]:List Tq6))).bind fun z5=>(aa xb i2).bind fun x6=>cond (x6.2) ((aa xb i2).bind fun x7=>(aa xa i2).bind fun x8=>(app z5 (([(x7.1,x8.1,xc,IntKind.wrap .i64 (xd + i2),true)]:List Tq6))).bind fun z9=>some (.inl ((z9,IntKind.wrap .i64 (i2 + 1))))) (some (.inl ((z5,IntKind.wrap .i64 (i2 + 1)))))) (some (.inr (l1)))
def lk (xa:Tq3) (xb:Tq3) (xc:Int) (xd:Int):Option ((List Tq6)) :=
 (loop (CN xa xb xc xd) ([],0)).bind fun l1=>some (l1)
def PS:Hn Tryz.prog := .jn [] ⟨[(9,.own 247 Yq6)],[]⟩ [] (.lp ⟨[(9,.own 247 Yq6),kdI 13],[]⟩ (.tw 14 (.mix [([0,1,2,3,4,5,6,7,8,9,10,11,12,13,14,15],16)] [] [17,18] [] (.tw 38 (.mix [([0,1,2,3,4,5,6,7,8,9,10,11,12,13,14,15],16)] [] [17,18] [] .nil) .nil)) .nil)) .nil
def OX:Spec:=⟨203,⟨[(0,.dat (.sl Yq3)),(1,.dat (.sl Yq3)),kdI 2,kdI 3],[]⟩,[⟨[(0,.own 247 Yq6)],[]⟩],fun x=>lk x.1 x.2.1 x.2.2.1 x.2.2.2⟩
def vX:OkSpec Tryz.prog:=⟨OX,ab func203 PS (by kernel_rfl) (by kernel_rfl),call203⟩

def gP (xa:Tq3) (xb:Tq3) (xc:Int) (xd:Int):Option (aT) :=
 (dR xa xb).bind fun t30=>cond (!t30) (some (([],8))) ((lk xa xb xc xd).bind fun l38=>some ((l38,0)))
def QT:Hn Tryz.prog := .cl ke [] (.tw 13 .nil (.cl vX [] .nil))
def RB:Spec:=⟨195,⟨[(0,.dat Yq8),(1,.dat Yq8),kdI 2,kdI 3],[]⟩,[⟨[(0,.tup [.own 247 Yq6,.dat Yq2])],[]⟩],fun x=>gP x.1 x.2.1 x.2.2.1 x.2.2.2⟩
def rH:OkSpec Tryz.prog:=⟨RB,ab func195 QT (by kernel_rfl) (by kernel_rfl),call195⟩
def wS (xa:Tq3) (xc:Bool):(Tq3×Int)→Option ((Tq3×Int)⊕Tq3):=fun (l1,i2)=>cond (decide (i2 < (xa.length:Int))) ((aa xa i2).bind fun x3=>(app l1 (([(x3.1,x3.2||xc)]:List ba))).bind fun z4=>some (.inl ((z4,IntKind.wrap .i64 (i2 + 1))))) (some (.inr (l1)))
def py (xa:Tq3) (xb:Int) (xc:Bool):Option (Tq3) :=
 (loop (wS xa xc) ((([(xb,false)]:List ba),0))).bind fun l1=>some (l1)
def Rv:Hn Tryz.prog := .jn [] ⟨[(7,.own 69 Yq3),(12,.any)],[]⟩ [4,0] (.lp ⟨[(7,.own 69 Yq3),kdI 16],[]⟩ (.tw 17 (.gp 1 .nil) .nil)) .nil
def Rx:Spec:=⟨204,⟨[(0,.dat Yq8),kdI 1,kdB 2],[]⟩,[⟨[(0,.agg [.own 69 Yq3])],[]⟩],fun x=>py x.1 x.2.1 x.2.2⟩
def OS:OkSpec Tryz.prog:=⟨Rx,ab func204 Rv (by kernel_rfl) (by kernel_rfl),call204⟩

def oY (xa:Tq3) (xb:Tq3) (xc:Int) (xd:Bool):Option (aT) :=
 (py xa xc xd).bind fun l1=>(dR xb l1).bind fun t2=>cond (!t2) (some (([],8))) ((aa xb 0).bind fun x3=>(subL xb 1 (xb.length:Int)).bind fun y4=>(lk xa y4 1 1).bind fun l5=>(app (([(xc,x3.1,2,0,false)]:List Tq6)) l5).bind fun z6=>some ((z6,0)))
def QN:Hn Tryz.prog := .mix [([0,1,2,3],4)] [] [5,6] [] (.cl OS [] (.cl ke [4] (.tw 17 .nil (.mix [([0,1,2,3,4,5],6)] [] [7,8,9] [] (.cl vX [] .nil)))))
def Qa:Spec:=⟨196,⟨[(0,.dat Yq8),(1,.dat Yq8),kdI 2,kdB 3],[]⟩,[⟨[(0,.tup [.own 247 Yq6,.dat Yq2])],[]⟩],fun x=>oY x.1 x.2.1 x.2.2.1 x.2.2.2⟩
def Rs:OkSpec Tryz.prog:=⟨Qa,ab func196 QN (by kernel_rfl) (by kernel_rfl),call196⟩

def sw (xa:ba):Option Bool :=
 some (!xa.2)
def Ow:Hn Tryz.prog := .nil
def Rt:Spec:=⟨211,⟨[(0,.dat Yq3)],[]⟩,[⟨[kdB 0],[]⟩],fun x=>sw x⟩
def Qb:OkSpec Tryz.prog:=⟨Rt,ab func211 Ow (by kernel_rfl) (by kernel_rfl),call211⟩
def rW (xa:Tq3):Int→Option (Int⊕(Unit⊕Int)):=fun i1=>cond (decide (i1 < (xa.length:Int))) ((aa xa i1).bind fun x2=>(sw (x2.1,x2.2)).bind fun t3=>cond (t3) (some (.inr ((.inr (i1))))) (some (.inl (IntKind.wrap .i64 (i1 + 1))))) (some (.inr ((.inl ()))))
def rY (xa:Tq3):Option Int :=
 (loop (rW xa) 0).bind fun o=>match o with | .inr r=>some r | .inl ()=>some ((-1))
def Pz:Hn Tryz.prog := .jx [] ⟨[],[]⟩ [] (.lp ⟨[kdI 8],[]⟩ (.tw 9 (.cl Qb [] (.tw 16 .nil .nil)) .nil)) .nil
def RK:Spec:=⟨102,⟨[(0,.dat (.sl Yq3)),(1,.fn 211 [])],[]⟩,[⟨[kdI 0],[]⟩],fun x=>rY x⟩
def PU:OkSpec Tryz.prog:=⟨RK,ab func102 Pz (by kernel_rfl) (by kernel_rfl),call102⟩

def rX (xa:Tq3):Option Bool :=
 (rY xa).bind fun i10=>some (decide (0≤i10))
def PR:Hn Tryz.prog := .cl PU [] .nil
def RA:Spec:=⟨66,⟨[(0,.dat (.sl Yq3)),(1,.fn 211 [])],[]⟩,[⟨[kdB 0],[]⟩],fun x=>rX x⟩
def Om:OkSpec Tryz.prog:=⟨RA,ab func66 PR (by kernel_rfl) (by kernel_rfl),call66⟩

def nQ (xa:Tq3) (xb:Tq3) (xc:Bool):Option Bool :=
 (cond (decide ((xa.length:Int)=0)) (some (true)) ((aa xa 0).bind fun x70=>some (x70.2))).bind fun t68=>(cond (t68) (some (true)) ((dR xa xb).bind fun t90=>some (!t90))).bind fun t86=>cond (t86) (some (false)) ((subL xa 1 (xa.length:Int)).bind fun y95=>(rX y95).bind fun t1=>some ((!xc)||(!t1)))
def RV:Hn Tryz.prog := .gj 5 ⟨[kdB 18],[]⟩ [] (.two 12 .nil .nil) (.wt 19 (.gj 4 ⟨[kdB 24],[]⟩ [] (.two 19 .nil (.cl ke [] .nil)) (.tw 24 .nil (.cl Om [] (.gp 2 .nil)))))
def Qw:Spec:=⟨205,⟨[(0,.dat Yq8),(1,.dat Yq8),kdB 2],[]⟩,[⟨[kdB 0],[]⟩],fun x=>nQ x.1 x.2.1 x.2.2⟩
def N6:OkSpec Tryz.prog:=⟨Qw,ab func205 RV (by kernel_rfl) (by kernel_rfl),call205⟩

def oQ (xa:Tq3) (xb:Tq3) (xc:Int) (xd:Bool):Option (aT) :=
 (nQ xa xb xd).bind fun t1=>cond (!t1) (some (([],8))) ((aa xa 0).bind fun x2=>(aa xb 0).bind fun x3=>(subL xa 1 (xa.length:Int)).bind fun y4=>(subL xb 1 (xb.length:Int)).bind fun y5=>(lk y4 y5 1 1).bind fun l6=>(app (([(x2.1,xc,3,0,false),(xc,x3.1,2,0,false)]:List Tq6)) l6).bind fun z7=>some ((z7,0)))
def On:Hn Tryz.prog := .cl N6 [] (.tw 15 .nil (.mix [([0,1,2,3,4,5,6,7,8,9,10,11,12,13],14)] [15] [] [] (.mix [([0,1,2,3,4,5,6],7)] [] [8,9,10] [] (.cl vX [] .nil))))
def PA:Spec:=⟨197,⟨[(0,.dat Yq8),(1,.dat Yq8),kdI 2,kdB 3],[]⟩,[⟨[(0,.tup [.own 247 Yq6,.dat Yq2])],[]⟩],fun x=>oQ x.1 x.2.1 x.2.2.1 x.2.2.2⟩
def QA:OkSpec Tryz.prog:=⟨PA,ab func197 On (by kernel_rfl) (by kernel_rfl),call197⟩

def jf (xa:Tq6) (xb:(List Tq3)) (xc:Int):Option (aT) :=
 (pd (xa.1,xa.2.1,xa.2.2.1,xa.2.2.2.1,xa.2.2.2.2)).bind fun (t1,t2,t3,i4)=>cond (!decide (i4=0)) (some (([],i4))) ((cond (t1) ((nW xa.2.1 xb).bind fun t5=>some (!t5)) (some (false))).bind fun t6=>(cond (t6) (some (true)) ((cond (t2) ((nW xa.2.2.1 xb).bind fun t7=>some (!t7)) (some (false))).bind fun t8=>some (t8))).bind fun t9=>cond (t9||(t3&&((decide (xa.2.2.2.1 < 0))||(decide (xc≤xa.2.2.2.1))))) (some (([],7))) (cond (decide (xa.1=1)) ((aa xb xa.2.2.1).bind fun x10=>(aa xb xa.2.1).bind fun x11=>(gP x10 x11 1 0).bind fun (l12,i13)=>some ((l12,i13))) (cond (decide (xa.1=2)) ((aa xb xa.2.2.1).bind fun x14=>(aa xb xa.2.1).bind fun x15=>(oY x14 x15 xa.2.2.2.1 xa.2.2.2.2).bind fun (l16,i17)=>some ((l16,i17))) (cond (decide (xa.1=3)) ((aa xb xa.2.2.1).bind fun x18=>(aa xb xa.2.1).bind fun x19=>(oQ x18 x19 xa.2.2.2.1 xa.2.2.2.2).bind fun (l20,i21)=>some ((l20,i21))) (some (([],0)))))))
def Qh:Hn Tryz.prog := .cl OW [] (.tw 17 .nil (.mc 2 0 3 (.gj 5 ⟨[kdB 28],[bkC 2 23 [.is 1 (.any)],bkU 7]⟩ [2] (.two 22 (.cl B3 [] .nil) .nil) (.wt 29 (.gj 9 ⟨[kdB 39],[bkC 2 23 [.is 1 (.any)],bkU 7]⟩ [2] (.two 29 .nil (.wt 32 (.gj 5 ⟨[kdB 38],[bkC 2 23 [.is 1 (.any)],bkU 7]⟩ [2] (.two 32 (.cl B3 [] .nil) .nil) .nil))) (.wt 40 (.gp 13 (.tw 54 .nil (.tw 57 (.mix [([0,1,2,3,4,5,6,7,8,9],10)] [11,12,13,14] [] [] (.cl rH [] .nil)) (.tw 72 (.mix [([0,1,2,3,4,5,6,7,8,9,10,11,12,13],14)] [15,16,17,18] [] [] (.cl Rs [] .nil)) (.tw 91 (.mix [([0,1,2,3,4,5,6,7,8,9,10,11,12,13],14)] [15,16,17,18] [] [] (.cl QA [] .nil)) .nil)))))))))))
def Ps:Spec:=⟨190,⟨[(0,.dat Yq6),(1,.dat (.sl Yq8)),kdI 2],[]⟩,[⟨[(0,.tup [.own 247 Yq6,.dat Yq2])],[]⟩],fun x=>jf x.1 x.2.1 x.2.2⟩
def Ol:OkSpec Tryz.prog:=⟨Ps,ab func190 Qh (by kernel_rfl) (by kernel_rfl),call190⟩

def sY (xa:Tq6) (xb:(List Tq3)) (xc:Int):Option Int :=
 (jf (xa.1,xa.2.1,xa.2.2.1,xa.2.2.2.1,xa.2.2.2.2) xb xc).bind fun (l17,i18)=>some (i18)
def Rj:Hn Tryz.prog := .cl Ol [] .nil
def Ox:Spec:=⟨178,⟨[(0,.dat Yq6),(1,.dat (.sl Yq8)),kdI 2],[]⟩,[⟨[kdI 0],[]⟩],fun x=>sY x.1 x.2.1 x.2.2⟩
def Pg:OkSpec Tryz.prog:=⟨Ox,ab func178 Rj (by kernel_rfl) (by kernel_rfl),call178⟩

def jh (xa:Tq9):Option Bool :=
 some (((!decide (xa.2.1=0))||(!decide (xa.2.2.1=0)))||(decide (0 < (xa.2.2.2.2.2.length:Int))))
def Q5:Hn Tryz.prog := .gp 3 (.wt 11 (.gp 4 .nil))
def Ou:Spec:=⟨206,⟨[(0,.dat ew)],[]⟩,[⟨[kdB 0],[]⟩],fun x=>jh x⟩
def wg:OkSpec Tryz.prog:=⟨Ou,ab func206 Q5 (by kernel_rfl) (by kernel_rfl),call206⟩

def mi (xa:Tq9):Option Int :=
 (cond (decide (xa.1=1)) ((cond ((decide ((xa.2.2.2.1.length:Int)=1))&&(decide ((xa.2.2.2.2.1.length:Int)=0))) ((jh (xa.1,xa.2.1,xa.2.2.1,xa.2.2.2.1,xa.2.2.2.2.1,xa.2.2.2.2.2)).bind fun t1=>some (!t1)) (some (false))).bind fun t2=>some (t2)) (cond (decide (xa.1=2)) ((cond (decide (0 < (xa.2.2.2.1.length:Int))) ((jh (xa.1,xa.2.1,xa.2.2.1,xa.2.2.2.1,xa.2.2.2.2.1,xa.2.2.2.2.2)).bind fun t3=>some (!t3)) (some (false))).bind fun t4=>some (t4)) (cond (decide (xa.1=3)) ((cond ((decide ((xa.2.2.2.1.length:Int)=0))&&(decide ((xa.2.2.2.2.1.length:Int)=0))) ((jh (xa.1,xa.2.1,xa.2.2.1,xa.2.2.2.1,xa.2.2.2.2.1,xa.2.2.2.2.2)).bind fun t5=>some (!t5)) (some (false))).bind fun t6=>some (t6)) (cond (decide (xa.1=4)) (some (decide ((xa.2.2.2.1.length:Int)=1))) (some (false))))):Option Bool).bind fun t7=>cond (!t7) (some (3)) (cond (((decide (16 < (xa.2.2.2.1.length:Int)))||(decide (16 < (xa.2.2.2.2.1.length:Int))))||(decide (16 < (xa.2.2.2.2.2.length:Int)))) (some (6)) (some (0)))
def Pr:Hn Tryz.prog := .pl (.pl (.sq [] ⟨[kdB 3],[]⟩ [] (.tw 6 (.gp 4 (.wt 18 (.gj 3 ⟨[kdB 22],[]⟩ [] (.two 18 (.cl wg [] .nil) .nil) .nil))) (.tw 23 (.gj 3 ⟨[kdB 33],[]⟩ [] (.two 29 (.cl wg [] .nil) .nil) .nil) (.tw 34 (.gp 4 (.wt 46 (.gj 3 ⟨[kdB 50],[]⟩ [] (.two 46 (.cl wg [] .nil) .nil) .nil))) (.tw 51 .nil .nil)))) (.tw 58 .nil (.gp 4 (.wt 69 (.gp 4 (.tw 74 .nil .nil)))))))
def O0:Spec:=⟨198,⟨[(0,.dat ew)],[]⟩,[⟨[kdI 0],[]⟩],fun x=>mi x⟩
def O9:OkSpec Tryz.prog:=⟨O0,ab func198 Pr (by kernel_rfl) (by kernel_rfl),call198⟩

def jd (xa:Int):Option Int :=
 some (xa)
def Of:Hn Tryz.prog := .nil
def O4:Spec:=⟨207,⟨[kdI 0],[]⟩,[⟨[(0,.fn 212 [.ptr 0 0])],[bkN 3 [.dat Yq2]]⟩],fun x=>jd x⟩
def rS:OkSpec Tryz.prog:=⟨O4,ab func207 Of (by kernel_rfl) (by kernel_rfl),call207⟩

def iQ (xa:Int) (qa0:Int):Option Bool :=
 some ((decide (xa < 0))||(decide (qa0≤xa)))
def RL:Hn Tryz.prog := .gp 3 .nil
def RR:Spec:=⟨212,⟨[kdI 0,(1,.ptr 0 0)],[bkN 3 [.is 1 (.dat Yq2)],bkM]⟩,[⟨[kdB 0],[bkC 0 3 [.is 1 (.any)],bkU 1]⟩],fun x=>iQ x.1 x.2⟩
def vU:OkSpec Tryz.prog:=⟨RR,ab func212 RL (by kernel_rfl) (by kernel_rfl),call212⟩
def nG (xa:(List Int)) (qa0:Int):Int→Option (Int⊕(Unit⊕Int)):=fun i1=>cond (decide (i1 < (xa.length:Int))) ((aa xa i1).bind fun x2=>(iQ x2 qa0).bind fun t3=>cond (t3) (some (.inr ((.inr (i1))))) (some (.inl (IntKind.wrap .i64 (i1 + 1))))) (some (.inr ((.inl ()))))
def r8 (xa:(List Int)) (qa0:Int):Option Int :=
 (loop (nG xa qa0) 0).bind fun o=>match o with | .inr r=>some r | .inl ()=>some ((-1))
def QB:Hn Tryz.prog := .jx [] ⟨[],[bkC 0 3 [.is 1 (.any)],bkU 1]⟩ [0] (.lp ⟨[kdI 8],[bkC 0 3 [.is 1 (.any)],bkU 1]⟩ (.tw 9 (.cl vU [] (.tw 16 .nil .nil)) .nil)) .nil
def PT:Spec:=⟨213,⟨[(0,.dat (.sl Yq2)),(1,.fn 212 [.ptr 0 0])],[bkN 3 [.is 1 (.dat Yq2)],bkM]⟩,[⟨[kdI 0],[bkC 0 3 [.is 1 (.any)],bkU 1]⟩],fun x=>r8 x.1 x.2⟩
def OC:OkSpec Tryz.prog:=⟨PT,ab func213 QB (by kernel_rfl) (by kernel_rfl),call213⟩

def iN (xa:(List Int)) (qa0:Int):Option Bool :=
 (r8 xa qa0).bind fun i10=>some (decide (0≤i10))
def RM:Hn Tryz.prog := .cl OC [] .nil
def Oa:Spec:=⟨208,⟨[(0,.dat (.sl Yq2)),(1,.fn 212 [.ptr 0 0])],[bkN 3 [.is 1 (.dat Yq2)],bkM]⟩,[⟨[kdB 0],[bkC 0 3 [.is 1 (.any)],bkU 1]⟩],fun x=>iN x.1 x.2⟩
def wi:OkSpec Tryz.prog:=⟨Oa,ab func208 RM (by kernel_rfl) (by kernel_rfl),call208⟩

def oW (xa:Tq9) (xb:kj):Option Bool :=
 (jd (xb.2.2.1.length:Int)).bind fun i1=>(jd xb.1).bind fun i2=>(iN xa.2.2.2.1 i2).bind fun t3=>cond (t3) (some (false)) ((iN xa.2.2.2.2.1 i1).bind fun t4=>cond (t4) (some (false)) ((jd xb.2.1).bind fun i5=>(iN xa.2.2.2.2.2 i5).bind fun t6=>cond (t6) (some (false)) (cond (!decide (xa.1=4)) (some (true)) ((iQ xa.2.2.1 i1).bind fun t7=>cond (!t7) ((jd (xb.2.2.2.2.length:Int)).bind fun i8=>(iQ xa.2.1 i8).bind fun t9=>some (!t9)) (some (false))))))
def R5:Hn Tryz.prog := .cl rS [] (.mix [([0,1,2,3],4),([],5),([6,7,8,9],10),([11,12,13,14,15,16],17)] [] [18,19] [4] (.cl rS [] (.mc 6 0 7 (.cl wi [] (.two 16 .nil (.wt 1000011 (.mc 4 0 5 (.cl wi [] (.two 22 .nil (.cl rS [] (.mc 14 0 15 (.cl wi [] (.tw 29 .nil (.mix [([0,1,2,3,4,5,6],7),([8,9,10,11,12,14,15],13)] [] [16,17,18,19,20] [4] (.two 33 .nil (.cl vU [] (.two 39 (.cl rS [] (.mc 21 0 22 (.cl vU [] .nil))) .nil)))))))))))))))))
def Pc:Spec:=⟨199,⟨[(0,.dat ew),(1,.dat rC)],[]⟩,[⟨[kdB 0],[]⟩],fun x=>oW x.1 x.2⟩
def Qe:OkSpec Tryz.prog:=⟨Pc,ab func199 R5 (by kernel_rfl) (by kernel_rfl),call199⟩
def oe (xa:bX) (xc:(List Tq3)):Int→Option (Int⊕(Unit⊕Int)):=fun i1=>cond (decide (i1 < (xa.2.2.1.length:Int))) ((aa xa.2.2.1 i1).bind fun x2=>(aa xc i1).bind fun x3=>(dR x3 x2).bind fun t4=>cond (!t4) (some (.inr ((.inr (8))))) (some (.inl (IntKind.wrap .i64 (i1 + 1))))) (some (.inr ((.inl ()))))
def sQ (xa:bX) (xb:(List Int)) (xc:(List Tq3)) (xd:Tq3):Option Int :=
 (fy (xa.1,xa.2.1,xa.2.2.1,xa.2.2.2)).bind fun i1=>cond (!decide (i1=0)) (some (i1)) (cond ((!decide ((xb.length:Int)=xa.1))||(!decide ((xc.length:Int)=(xa.2.2.1.length:Int)))) (some (2)) ((loop (oe xa xc) 0).bind fun o=>match o with | .inr r=>some r | .inl ()=>(dR xd xa.2.2.2).bind fun t2=>cond (!t2) (some (8)) (some (0))))
def P8:Hn Tryz.prog := .cl B6 [] (.tw 15 .nil (.gp 6 (.tw 29 .nil (.jx [] ⟨[],[]⟩ [] (.lp ⟨[kdI 33],[]⟩ (.tw 34 (.mix [] [0,1,2,3,4] [5,6] [] (.cl ke [] (.tw 44 .nil .nil))) .nil)) (.cl ke [] (.tw 50 .nil .nil))))))
def OG:Spec:=⟨209,⟨[(0,.dat gg),(1,.dat (.sl Yq2)),(2,.dat (.sl Yq8)),(3,.dat Yq8)],[]⟩,[⟨[kdI 0],[]⟩],fun x=>sQ x.1 x.2.1 x.2.2.1 x.2.2.2⟩
def Q0:OkSpec Tryz.prog:=⟨OG,ab func209 P8 (by kernel_rfl) (by kernel_rfl),call209⟩

def sd (xa:Tq3):Option (Tq3) :=
 dK xa (some ([])) ((app (([]:List ba)) xa).bind fun z21=>some (z21))
def Pt:Hn Tryz.prog := .two 4 .nil .nil
def Si:Spec:=⟨215,⟨[(0,.dat (.sl Yq3))],[]⟩,[⟨[(0,.own 69 Yq3)],[]⟩],fun x=>sd x⟩
def Pi:OkSpec Tryz.prog:=⟨Si,ab func215 Pt (by kernel_rfl) (by kernel_rfl),call215⟩

def pb (xa:Tq3):Option (Tq3) :=
 (sd xa).bind fun l22=>some (l22)
def Py:Hn Tryz.prog := .cl Pi [] .nil
def Re:Spec:=⟨214,⟨[(0,.dat Yq8)],[]⟩,[⟨[(0,.agg [.own 69 Yq3])],[]⟩],fun x=>pb x⟩
def Qm:OkSpec Tryz.prog:=⟨Re,ab func214 Py (by kernel_rfl) (by kernel_rfl),call214⟩
def lL (xb:(List Int)) (l1:Tq3):(Tq3×Int)→Option ((Tq3×Int)⊕Tq3):=fun (l2,i3)=>cond (decide (i3 < (l1.length:Int))) ((aa l2 i3).bind fun x4=>(aa xb x4.1).bind fun x5=>(aa l2 i3).bind fun x6=>(some (l2.set i3.toNat (x5,x6.2))).bind fun z7=>some (.inl ((z7,IntKind.wrap .i64 (i3 + 1))))) (some (.inr (l2)))
def mh (xa:Tq3) (xb:(List Int)):Option ((Tq3×Int)) :=
 (mf xa (xb.length:Int)).bind fun t1=>cond (!t1) (some (([],7))) ((pb xa).bind fun l2=>(loop (lL xb l2) (l2,0)).bind fun l3=>some ((l3,0)))
def RX:Hn Tryz.prog := .cl B4 [] (.tw 13 .nil (.cl Qm [] (.jn [] ⟨[(16,.any),(18,.any)],[bkC 6 26 [.own 69 Yq3]]⟩ [6,4,0] (.lp ⟨[(18,.own 69 Yq3),kdI 20],[bkC 6 26 [.al 0]]⟩ (.tw 21 (.mix [] [0,1,2,3,4,5,6,7,8,9] [10] [] .nil) .nil)) .nil)))
def RC:Spec:=⟨210,⟨[(0,.dat Yq8),(1,.dat (.sl Yq2))],[]⟩,[⟨[(0,.tup [.agg [.own 69 Yq3],.dat Yq2])],[]⟩],fun x=>mh x.1 x.2⟩
def B9:OkSpec Tryz.prog:=⟨RC,ab func210 RX (by kernel_rfl) (by kernel_rfl),call210⟩
def oU (xa:bX) (xb:(List Int)):aT→Option (aT⊕(List Tq6)):=fun (l1,i2)=>cond (decide (i2 < (xa.2.1.length:Int))) ((aa xa.2.1 i2).bind fun x3=>(aa xb x3.1).bind fun x4=>(aa xb x3.2).bind fun x5=>(app l1 (([(x4,x5,4,i2,false)]:List Tq6))).bind fun z6=>some (.inl ((z6,IntKind.wrap .i64 (i2 + 1))))) (some (.inr (l1)))
def lS (xa:bX) (xb:(List Int)) (xc:(List Tq3)):aT→Option (aT⊕(List Tq6)):=fun (l1,i2)=>cond (decide (i2 < (xa.2.2.1.length:Int))) ((aa xa.2.2.1 i2).bind fun x3=>(mh x3 xb).bind fun (l4,i5)=>(aa xc i2).bind fun x6=>(gP x6 l4 5 (IntKind.wrap .i64 (16 * i2))).bind fun (l7,i8)=>(app l1 l7).bind fun z9=>some (.inl ((z9,IntKind.wrap .i64 (i2 + 1))))) (some (.inr (l1)))
def mq (xa:bX) (xb:(List Int)) (xc:(List Tq3)) (xd:Tq3):Option (aT) :=
 (sQ (xa.1,xa.2.1,xa.2.2.1,xa.2.2.2) xb xc xd).bind fun i1=>cond (!decide (i1=0)) (some (([],i1))) ((loop (oU xa xb) ([],0)).bind fun l2=>(loop (lS xa xb xc) (l2,0)).bind fun l3=>(mh xa.2.2.2 xb).bind fun (l4,i5)=>(gP l4 xd 6 0).bind fun (l6,i7)=>(app l3 l6).bind fun z8=>some ((z8,0)))
def Rr:Hn Tryz.prog := .cl Q0 [] (.tw 30 .nil (.jn [] ⟨[(11,.own 247 Yq6)],[]⟩ [] (.lp ⟨[(11,.own 247 Yq6),kdI 35],[]⟩ (.tw 36 (.mix [([0,1,2,3,4,5,6,7,8,9,10,11,12],13)] [] [14,15] [] .nil) .nil)) (.jn [] ⟨[(11,.own 247 Yq6)],[]⟩ [4] (.lp ⟨[(11,.own 247 Yq6),kdI 59],[]⟩ (.tw 60 (.cl B9 [] (.per 11 12 (.mix [([0,1,2,3,4,5,6],7)] [8,9,10,11,12] [] [] (.cl rH [] .nil)))) .nil)) (.cl B9 [] (.per 8 9 (.cl rH [] .nil))))))
def OY:Spec:=⟨200,⟨[(0,.dat gg),(1,.dat (.sl Yq2)),(2,.dat (.sl Yq8)),(3,.dat Yq8)],[]⟩,[⟨[(0,.tup [.own 247 Yq6,.dat Yq2])],[]⟩],fun x=>mq x.1 x.2.1 x.2.2.1 x.2.2.2⟩
def RY:OkSpec Tryz.prog:=⟨OY,ab func200 Rr (by kernel_rfl) (by kernel_rfl),call200⟩
def iW (xa:Tq9) (xb:kj):((List Tq3)×Int)→Option (((List Tq3)×Int)⊕(List Tq3)):=fun (l1,i2)=>cond (decide (i2 < (xa.2.2.2.2.1.length:Int))) ((aa xa.2.2.2.2.1 i2).bind fun x3=>(aa xb.2.2.1 x3).bind fun x4=>(app l1 (([x4]:List Tq3))).bind fun z5=>some (.inl ((z5,IntKind.wrap .i64 (i2 + 1))))) (some (.inr (l1)))
def jg (xa:Tq9) (xb:kj):Option (aT) :=
 (mi (xa.1,xa.2.1,xa.2.2.1,xa.2.2.2.1,xa.2.2.2.2.1,xa.2.2.2.2.2)).bind fun i1=>cond (!decide (i1=0)) (some (([],i1))) ((oW (xa.1,xa.2.1,xa.2.2.1,xa.2.2.2.1,xa.2.2.2.2.1,xa.2.2.2.2.2) (xb.1,xb.2.1,xb.2.2.1,xb.2.2.2.1,xb.2.2.2.2)).bind fun t2=>cond (!t2) (some (([],7))) (cond (decide (xa.1=3)) (cond (decide ((xb.2.2.1.length:Int)=0)) (some (([],14))) ((aa xb.2.2.1 0).bind fun x3=>(gP x3 xb.2.2.2.1 7 0).bind fun (l4,i5)=>some ((l4,i5)))) (cond (decide (xa.1=4)) ((loop (iW xa xb) ([],0)).bind fun l6=>(aa xb.2.2.2.2 xa.2.1).bind fun x7=>(aa xb.2.2.1 xa.2.2.1).bind fun x8=>(mq (x7.1,x7.2.1,x7.2.2.1,x7.2.2.2) xa.2.2.2.2.2 l6 x8).bind fun (l9,i10)=>some ((l9,i10))) (some (([],0))))))
def Pw:Hn Tryz.prog := .cl O9 [] (.tw 13 .nil (.cl Qe [] (.tw 18 .nil (.tw 21 (.tw 26 .nil (.mix [([0,1,2,3,4,5],6)] [7,8,9,10] [] [] (.cl rH [] .nil))) (.tw 36 (.jn [] ⟨[(7,.own 26 Yq8)],[]⟩ [] (.lp ⟨[(7,.own 26 Yq8),kdI 41],[]⟩ (.tw 42 .nil .nil)) (.mix [([0,1,2,3,4,5,6,7,8,9,10,11,12,13,14],15)] [16,17,18,19] [] [4] (.per 4 5 (.cl RY [] .nil)))) .nil)))))
def PF:Spec:=⟨191,⟨[(0,.dat ew),(1,.dat rC)],[]⟩,[⟨[(0,.tup [.own 247 Yq6,.dat Yq2])],[]⟩],fun x=>jg x.1 x.2⟩
def QE:OkSpec Tryz.prog:=⟨PF,ab func191 Pw (by kernel_rfl) (by kernel_rfl),call191⟩

def sX (xa:Tq9) (xb:kj):Option Int :=
 (jg (xa.1,xa.2.1,xa.2.2.1,xa.2.2.2.1,xa.2.2.2.2.1,xa.2.2.2.2.2) (xb.1,xb.2.1,xb.2.2.1,xb.2.2.2.1,xb.2.2.2.2)).bind fun (l19,i20)=>some (i20)
def Ro:Hn Tryz.prog := .cl QE [] .nil
def RT:Spec:=⟨179,⟨[(0,.dat ew),(1,.dat rC)],[]⟩,[⟨[kdI 0],[]⟩],fun x=>sX x.1 x.2⟩
def P3:OkSpec Tryz.prog:=⟨RT,ab func179 Ro (by kernel_rfl) (by kernel_rfl),call179⟩
def oc (xa:Tq1) (i1:Int) (x2:((List Tq6)×Tq9)):Int→Option (Int⊕(Unit⊕(Int⊕(Unit⊕bc)))):=fun i3=>cond (decide (i3 < (x2.1.length:Int))) ((aa x2.1 i3).bind fun x4=>(br 1 1).bind fun _=>(sY (x4.1,x4.2.1,x4.2.2.1,x4.2.2.2.1,x4.2.2.2.2) xa.2.2.2.1 xa.2.1).bind fun i5=>cond (!decide (i5=0)) (some (.inr ((.inr (.inr ((.inr ((i5,6,i1,i3))))))))) (some (.inl (IntKind.wrap .i64 (i3 + 1))))) (some (.inr ((.inl ()))))
def n7 (xa:Tq1):Int→Option (Int⊕(Unit⊕bc)):=fun i1=>cond (decide (i1 < (xa.2.2.2.2.2.2.length:Int))) ((aa xa.2.2.2.2.2.2 i1).bind fun x2=>(loop (oc xa i1 x2) 0).bind fun o=>match o with | .inr r=>some r | .inl ()=>(br 1 1).bind fun _=>(sX (x2.2.1,x2.2.2.1,x2.2.2.2.1,x2.2.2.2.2.1,x2.2.2.2.2.2.1,x2.2.2.2.2.2.2) (((xa.2.2.2.2.2.2.length:Int),xa.2.1,xa.2.2.2.1,xa.2.2.2.2.1,xa.2.2.2.2.2.1))).bind fun i3=>cond (!decide (i3=0)) (some (.inr ((.inr ((i3,7,i1,0)))))) (some (.inl (IntKind.wrap .i64 (i1 + 1))))) (some (.inr ((.inl ()))))
def lu (xa:Tq1):Option bc :=
 (loop (n7 xa) 0).bind fun o=>match o with | .inr r=>some r | .inl ()=>some ((0,0,0,0))
def Ru:Hn Tryz.prog := .jx [] ⟨[],[bkC 2 160 [.lit (.int .i64 0),.lit (.int .i64 0),.lit (.int .i64 0),.lit (.int .i64 0)]]⟩ [2] (.lp ⟨[kdI 27],[bkC 2 160 [.lit (.int .i64 0),.lit (.int .i64 0),.lit (.int .i64 0),.lit (.int .i64 0)]]⟩ (.tw 28 (.pl (.pl (.jx [] ⟨[],[bkC 2 160 [.lit (.int .i64 0),.lit (.int .i64 0),.lit (.int .i64 0),.lit (.int .i64 0)]]⟩ [2] (.lp ⟨[kdI 35],[bkC 2 160 [.lit (.int .i64 0),.lit (.int .i64 0),.lit (.int .i64 0),.lit (.int .i64 0)]]⟩ (.tw 36 (.cl oQ3 [] (.cl Pg [] (.tw 49 .nil .nil))) .nil)) (.cl oQ3 [] (.cl P3 [] (.tw 62 .nil .nil)))))) .nil)) .nil
def QY:Spec:=⟨147,⟨[(0,.dat Yq1),(1,.nilp)],[]⟩,[⟨[(0,.agg [.dat Yq2,.dat Yq2,.dat Yq2,.dat Yq2])],[]⟩],fun x=>lu x⟩
def PG:OkSpec Tryz.prog:=⟨QY,ab func147 Ru (by kernel_rfl) (by kernel_rfl),call147⟩

def lh (xa:Tq1):Option bc :=
 (br 1 1).bind fun _=>(lz xa).bind fun (i1,i2,i3,i4)=>cond (!decide (i1=0)) (some ((i1,i2,i3,i4))) ((kY xa).bind fun (i5,i6,i7,i8)=>cond (!decide (i5=0)) (some ((i5,i6,i7,i8))) ((kW xa).bind fun (i9,i10,i11,i12)=>cond (!decide (i9=0)) (some ((i9,i10,i11,i12))) ((lJ xa).bind fun (i13,i14,i15,i16)=>cond (!decide (i13=0)) (some ((i13,i14,i15,i16))) ((ly xa).bind fun (i17,i18,i19,i20)=>cond (!decide (i17=0)) (some ((i17,i18,i19,i20))) ((kT xa).bind fun (i21,i22,i23,i24)=>cond (!decide (i21=0)) (some ((i21,i22,i23,i24))) ((lu xa).bind fun (i25,i26,i27,i28)=>cond (!decide (i25=0)) (some ((i25,i26,i27,i28))) (some ((0,0,0,0)))))))))
def O8:Hn Tryz.prog := .cl oQ3 [] (.un 64 (.cl oQ4 [] (.tw 24 .nil (.cl oQ6 [] (.tw 24 .nil (.cl Pk [] (.tw 24 .nil (.cl O3 [] (.tw 24 .nil (.cl PN [] (.tw 24 .nil (.cl P0 [] (.tw 24 .nil (.cl PG [] (.tw 24 .nil .nil)))))))))))))))
def P9:Spec:=⟨101,⟨[(0,.dat Yq1),(1,.nilp)],[]⟩,[⟨[(0,.agg [.dat Yq2,.dat Yq2,.dat Yq2,.dat Yq2])],[]⟩],fun x=>lh x⟩
def Qg:OkSpec Tryz.prog:=⟨P9,ab func101 O8 (by kernel_rfl) (by kernel_rfl),call101⟩

def th (xa:Tq1):Option Bool :=
 (lh xa).bind fun (i15,i17,i18,i19)=>some (decide (i15=0))
def OA:Hn Tryz.prog := .cl Qg [] .nil
def QG:Spec:=⟨65,⟨[(0,.dat Yq1)],[]⟩,[⟨[kdB 0],[]⟩],fun x=>th x⟩
def OV:OkSpec Tryz.prog:=⟨QG,ab func65 OA (by kernel_rfl) (by kernel_rfl),call65⟩
def lH (xa:Tq1):(Int×(List Int)×Int)→Option ((Int×(List Int)×Int)⊕aO):=fun (i1,l2,i3)=>cond (decide (i1 < (xa.2.2.2.2.2.2.length:Int))) ((aa xa.2.2.2.2.2.2 i1).bind fun x4=>(app l2 ([i3]:List Int)).bind fun z5=>some (.inl ((IntKind.wrap .i64 (i1 + 1),z5,IntKind.wrap .i64 (i3 + (IntKind.wrap .i64 ((x4.1.length:Int) + 1))))))) (some (.inr (((l2,i3)))))
def dw (xa:Tq1):Option ((Option aO)) :=
 (th xa).bind fun t1=>cond (!t1) (some ((some ([],0)))) ((loop (lH xa) (0,[],0)).bind fun (l2,i3)=>some ((some (l2,i3))))
def Pj:Hn Tryz.prog := .cl OV [] (.tw 10 (.perb 2 3 (.cons (.sl Yq2) (.one Yq2)) .nil) (.jn [] ⟨[],[bkC 2 110 [.own 3 Yq2,.dat Yq2]]⟩ [2,0] (.lp ⟨[kdI 15],[bkC 2 110 [.own 3 Yq2,.dat Yq2]]⟩ (.tw 16 (.mix [([0,1,2,3,4,5,6,7,8],9),([],10)] [11,12] [13] [4] (.mix [] [0,1,2,3,4,5,6,7,8,9,10] [11] [] .nil)) .nil)) (.per 4 5 (.perb 2 6 (.cons (.sl Yq2) (.one Yq2)) .nil))))
def OB:Spec:=⟨36,⟨[(0,.dat Yq1)],[]⟩,[⟨[(0,.dat c9)],[]⟩],fun x=>dw x⟩
def rU:OkSpec Tryz.prog:=⟨OB,ab func36 Pj (by kernel_rfl) (by kernel_rfl),call36⟩

def dp (xa:(Option aO)):Option Int :=
 cond (xa.isNone) (some (0)) (xa.bind fun y11=>some (y11.2))
def RW:Hn Tryz.prog := .tw 4 .nil .nil
def QF:Spec:=⟨37,⟨[(0,.dat c9)],[]⟩,[⟨[kdI 0],[]⟩],fun x=>dp x⟩
def kl:OkSpec Tryz.prog:=⟨QF,ab func37 RW (by kernel_rfl) (by kernel_rfl),call37⟩

def oM (xa:Tq6):Option (Tq4) :=
 (cond (decide (xa.1=1)) (some (decide (xa.1=1))) (cond (decide (xa.1=2)) (some (decide (xa.1=2))) (some (decide (xa.1=3)))):Option Bool).bind fun t37=>cond (t37) (some ((([xa.2.2.1]:List Int),([xa.2.1]:List Int)))) (cond (decide (xa.1=4)) (some ((([xa.2.2.1]:List Int),[]))) (cond (decide (xa.1=5)) (some (([],([xa.2.1]:List Int)))) (some (([],[])))))
def Oh:Hn Tryz.prog := .pl (.pl (.pl (.sq [] ⟨[kdB 5],[]⟩ [] (.tw 5 .nil (.tw 5 .nil .nil)) (.tw 5 .nil (.tw 16 .nil (.tw 22 .nil .nil))))))
def QV:Spec:=⟨75,⟨[(0,.dat Yq6)],[]⟩,[⟨[(0,.agg [.own 3 Yq2,.own 3 Yq2])],[]⟩],fun x=>oM x⟩
def Ri:OkSpec Tryz.prog:=⟨QV,ab func75 Oh (by kernel_rfl) (by kernel_rfl),call75⟩
def fn_touch_Touches_add_p0arr_nod_l1 (l1:List Int):(Int×(List Tq4))→Option ((Int×(List Tq4))⊕(List Tq4)):=fun (i2,l3)=>cond (decide (i2 < (l1.length:Int))) ((aa l1 i2).bind fun x4=>(aa l3 x4).bind fun x5=>(aa l3 x4).bind fun _=>(ay x4 x4).bind fun _=>(app x5.1 ([0]:List Int)).bind fun z6=>(aa l3 x4).bind fun _=>(ay x4 x4).bind fun _=>some (.inl ((IntKind.wrap .i64 (i2 + 1),l3.set x4.toNat (z6,x5.2))))) (some (.inr (l3)))
def kD (qa0:(List Tq4)) (l1:List Int):(Int×(List Tq4))→Option ((Int×(List Tq4))⊕(List Tq4)):=fun (i2,l3)=>cond (decide (i2 < (l1.length:Int))) ((aa l1 i2).bind fun x4=>(aa l3 x4).bind fun x5=>(aa l3 x4).bind fun _=>(ay x4 x4).bind fun _=>(app x5.1 (([(qa0.length:Int)]:List Int))).bind fun z6=>(aa l3 x4).bind fun _=>(ay x4 x4).bind fun _=>some (.inl ((IntKind.wrap .i64 (i2 + 1),l3.set x4.toNat (z6,x5.2))))) (some (.inr (l3)))
def kE (qxb_1:(List Int)) (qa0:(List Tq4)):(Int×(List Tq4))→Option ((Int×(List Tq4))⊕(List Tq4)):=fun (i1,l2)=>cond (decide (i1 < (qxb_1.length:Int))) ((aa qxb_1 i1).bind fun x3=>(aa l2 x3).bind fun x4=>(aa l2 x3).bind fun _=>(ay x3 x3).bind fun _=>(app x4.2 (([(qa0.length:Int)]:List Int))).bind fun z5=>(aa l2 x3).bind fun _=>(ay x3 x3).bind fun _=>some (.inl ((IntKind.wrap .i64 (i1 + 1),l2.set x3.toNat (x4.1,z5))))) (some (.inr (l2)))
def iP (qxb_0:(List Int)) (qxb_1:(List Int)) (qa0:(List Tq4)) (qa1:(List Tq4)):Option (gl) :=
 (srt qxb_0).bind fun l2=>(gv l2).bind fun l3=>(app qa0 (([(l3,qxb_1)]:List Tq4))).bind fun z4=>(loop (kD qa0 l3) (0,qa1)).bind fun l5=>(loop (kE qxb_1 qa0) (0,l5)).bind fun l6=>some ((z4,l6))
def Rk:Hn Tryz.prog := .cl qi [] (.cl pw [] (.per 16 17 (.per 3 4 (.mix [([0,1,2,3,4,5],6),([],7)] [8,9] [10] [5] (.jn [] ⟨[],[bkO 7 (.row 142 (.cons (.row 3 (.dat Yq2)) (.one (.row 3 (.dat Yq2)))))]⟩ [7] (.lp ⟨[kdI 34],[bkO 7 (.row 142 (.cons (.row 3 (.dat Yq2)) (.one (.row 3 (.dat Yq2)))))]⟩ (.tw 35 (.opp [9] 7 47 (.mix [([0,1,2,3,4,5,6,7,8,9,10,11,12,13],14),([],15)] [16,17] [18] [26] (.cls 7 34 .nil))) .nil)) (.jn [] ⟨[],[bkO 7 (.row 142 (.cons (.row 3 (.dat Yq2)) (.one (.row 3 (.dat Yq2)))))]⟩ [10,7] (.lp ⟨[kdI 60],[bkO 7 (.row 142 (.cons (.row 3 (.dat Yq2)) (.one (.row 3 (.dat Yq2)))))]⟩ (.tw 61 (.opp [9] 7 73 (.mix [([0,1,2,3,4,5,6,7,8,9,10,11,12,13],14),([],15)] [16,17] [18] [29] (.cls 7 35 .nil))) .nil)) .nil))))))
def PY:Spec:=⟨74,⟨[(0,.ptr 0 0),(1,.agg [.own 3 Yq2,.own 3 Yq2])],[bkN 124 [.own 127 Yq5,.od (.row 142 (.cons (.row 3 (.dat Yq2)) (.one (.row 3 (.dat Yq2)))))]]⟩,[⟨[],[bkC 0 124 [.own 127 Yq5,.od (.row 142 (.cons (.row 3 (.dat Yq2)) (.one (.row 3 (.dat Yq2)))))]]⟩],fun x=>iP x.1 x.2.1 x.2.2.1 x.2.2.2⟩
def BX:OkSpec Tryz.prog:=⟨PY,ab func74 Rk (by kernel_rfl) (by kernel_rfl),call74⟩

def cg (xa:(List Int)):Option (List Int) :=
 dK xa (some ([])) ((app ([]:List Int) xa).bind fun z21=>some (z21))
def R2:Hn Tryz.prog := .two 4 .nil .nil
def PZ:Spec:=⟨83,⟨[(0,.dat (.sl Yq2))],[]⟩,[⟨[(0,.own 3 Yq2)],[]⟩],fun x=>cg x⟩
def eW:OkSpec Tryz.prog:=⟨PZ,ab func83 R2 (by kernel_rfl) (by kernel_rfl),call83⟩

def oR (xa:Tq9):Option (Tq4) :=
 cond (decide (xa.1=2)) ((cg xa.2.2.2.2.1).bind fun l1=>some ((l1,[]))) (cond (decide (xa.1=4)) ((((cg xa.2.2.2.2.1).bind fun l2=>some ((l2,([xa.2.2.1]:List Int)))).bind fun x3=>((cg xa.2.2.2.2.1).bind fun l4=>some ((l4,([xa.2.2.1]:List Int)))).bind fun y5=>agr x3 y5 (some x3):Option (Tq4)).bind fun (l6,l7)=>some ((l6,l7))) (cond (decide (xa.1=3)) (some ((([0]:List Int),[]))) (some (([],[])))))
def PX:Hn Tryz.prog := .tw 5 (.cl eW [] .nil) (.tw 11 (.tr (.still [0,1,3,4] (.alt 2 (.alt 5 (.still [6] (.alt 7 (.leaf []) .done)) .done) (.alt 5 (.alt 2 (.still [6] (.alt 7 (.leaf []) .done)) .done) .done))) ⟨[],[bkC 2 127 [.own 3 Yq2,.own 3 Yq2]]⟩ [2] (.two 0 (.cl eW [] .nil) (.cl eW [] .nil)) .nil) (.tw 20 .nil .nil))
def Qz:Spec:=⟨76,⟨[(0,.dat ew)],[]⟩,[⟨[(0,.agg [.own 3 Yq2,.own 3 Yq2])],[]⟩],fun x=>oR x⟩
def O5:OkSpec Tryz.prog:=⟨Qz,ab func76 PX (by kernel_rfl) (by kernel_rfl),call76⟩
def lB (x1:((List Tq6)×Tq9)):(Int×(List Tq4)×(List Tq4))→Option ((Int×(List Tq4)×(List Tq4))⊕gl):=fun (i2,l3,l4)=>cond (decide (i2 < (x1.1.length:Int))) ((aa x1.1 i2).bind fun x5=>(oM (x5.1,x5.2.1,x5.2.2.1,x5.2.2.2.1,x5.2.2.2.2)).bind fun (l6,l7)=>(iP l6 l7 l3 l4).bind fun (l8,l9)=>some (.inl ((IntKind.wrap .i64 (i2 + 1),l8,l9)))) (some (.inr (((l3,l4)))))
def lC (xa:Tq1):(Int×(List Tq4)×(List Tq4))→Option ((Int×(List Tq4)×(List Tq4))⊕gl):=fun (i1,l2,l3)=>cond (decide (i1 < (xa.2.2.2.2.2.2.length:Int))) ((aa xa.2.2.2.2.2.2 i1).bind fun x4=>(loop (lB x4) (0,l2,l3)).bind fun (l5,l6)=>(oR (x4.2.1,x4.2.2.1,x4.2.2.2.1,x4.2.2.2.2.1,x4.2.2.2.2.2.1,x4.2.2.2.2.2.2)).bind fun (l7,l8)=>(iP l7 l8 l5 l6).bind fun (l9,l10)=>some (.inl ((IntKind.wrap .i64 (i1 + 1),l9,l10)))) (some (.inr (((l2,l3)))))
def gT (xa:Tq1):Option ((Option gl)) :=
 (dw xa).bind fun p1=>(dp p1).bind fun i2=>cond (decide (i2=0)) (some ((some ([],[])))) ((mk (xa.2.2.2.1.length:Int) (xa.2.2.2.1.length:Int) ([],[]):Option (List Tq4)).bind fun z3=>(loop (lC xa) (0,[],z3)).bind fun (l4,l5)=>some ((some (l4,l5))))
def R9:Hn Tryz.prog := .cl rU [] (.cl kl [] (.tw 13 (.perb 2 3 (.cons (.sl Yq5) (.one (.sl Yq5))) .nil) (.ot (.cons (.row 3 (.dat Yq2)) (.one (.row 3 (.dat Yq2)))) (.jn [] ⟨[],[bkC 2 124 [.own 127 Yq5,.od (.row 142 (.cons (.row 3 (.dat Yq2)) (.one (.row 3 (.dat Yq2)))))]]⟩ [2,4,0] (.lp ⟨[kdI 25],[bkC 2 124 [.own 127 Yq5,.od (.row 142 (.cons (.row 3 (.dat Yq2)) (.one (.row 3 (.dat Yq2)))))]]⟩ (.tw 26 (.pl (.pl (.jn [] ⟨[],[bkC 2 124 [.own 127 Yq5,.od (.row 142 (.cons (.row 3 (.dat Yq2)) (.one (.row 3 (.dat Yq2)))))]]⟩ [2,7,9] (.lp ⟨[kdI 32],[bkC 2 124 [.own 127 Yq5,.od (.row 142 (.cons (.row 3 (.dat Yq2)) (.one (.row 3 (.dat Yq2)))))]]⟩ (.tw 33 (.cl Ri [] (.cl BX [] .nil)) .nil)) (.cl O5 [] (.cl BX [] .nil))))) .nil)) (.per 7 8 (.per 9 10 (.perb 2 11 (.cons (.sl Yq5) (.one (.sl Yq5))) .nil)))))))
def Od:Spec:=⟨47,⟨[(0,.dat Yq1)],[]⟩,[⟨[(0,.dat (.ptr (.cons (.sl Yq5) (.one (.sl Yq5)))))],[]⟩],fun x=>gT x⟩
def Cf:OkSpec Tryz.prog:=⟨Od,ab func47 R9 (by kernel_rfl) (by kernel_rfl),call47⟩

def n5 (xa:(Option gl)):Option Int :=
 cond (xa.isNone) (some (0)) (xa.bind fun y14=>some (y14.1.length:Int))
def RN:Hn Tryz.prog := .tw 4 .nil .nil
def Qj:Spec:=⟨48,⟨[(0,.dat (.ptr (.cons (.sl Yq5) (.one (.sl Yq5)))))],[]⟩,[⟨[kdI 0],[]⟩],fun x=>n5 x⟩
def BU:OkSpec Tryz.prog:=⟨Qj,ab func48 RN (by kernel_rfl) (by kernel_rfl),call48⟩

def nU (xa:(Option aO)):Option (List Int) :=
 cond (xa.isNone) (some ([])) (xa.bind fun y29=>(cg y29.1).bind fun l41=>some (l41))
def Po:Hn Tryz.prog := .tw 4 .nil (.cl eW [] .nil)
def OL:Spec:=⟨78,⟨[(0,.dat c9)],[]⟩,[⟨[(0,.own 3 Yq2)],[]⟩],fun x=>nU x⟩
def OR:OkSpec Tryz.prog:=⟨OL,ab func78 Po (by kernel_rfl) (by kernel_rfl),call78⟩

def sj (xa:Int) (qa0:(Option aO)) (qb0:Int):Option Bool :=
 qa0.bind fun y1=>(aa y1.1 xa).bind fun x2=>some (decide (qb0 < x2))
def Sk:Hn Tryz.prog := .mix [] [0,1,2,3,4,5,6,7,8,9] [] [] .nil
def Qv:Spec:=⟨109,⟨[kdI 0,(1,.ptr 0 0),(2,.ptr 1 0)],[bkN 79 [.is 2 (.dat c9)],bkN 3 [.is 3 (.dat Yq2)],bkM,bkM]⟩,[⟨[kdB 0],[bkC 0 79 [.is 2 (.any)],bkC 1 3 [.is 3 (.any)],bkU 2,bkU 3]⟩],fun x=>sj x.1 x.2.1 x.2.2⟩
def Q3:OkSpec Tryz.prog:=⟨Qv,ab func109 Sk (by kernel_rfl) (by kernel_rfl),call109⟩
def r9 (qa0:(Option aO)) (qb0:Int):bp→Option (bp⊕Int):=fun (i1,i2)=>cond (decide (i1 < i2)) ((sj (IntKind.wrap .i64 (Int.fdiv (IntKind.wrap .u64 (IntKind.wrap .i64 (i1 + i2))) (2 ^ (min (Int.toNat 1) (IntKind.bits .u64))))) qa0 qb0).bind fun t3=>cond (!t3) (some (.inl ((IntKind.wrap .i64 ((IntKind.wrap .i64 (Int.fdiv (IntKind.wrap .u64 (IntKind.wrap .i64 (i1 + i2))) (2 ^ (min (Int.toNat 1) (IntKind.bits .u64))))) + 1),i2)))) (some (.inl ((i1,IntKind.wrap .i64 (Int.fdiv (IntKind.wrap .u64 (IntKind.wrap .i64 (i1 + i2))) (2 ^ (min (Int.toNat 1) (IntKind.bits .u64))))))))) (some (.inr (i1)))
def nH (xa:Int) (qa0:(Option aO)) (qb0:Int):Option Int :=
 (loop (r9 qa0 qb0) (0,xa)).bind fun i97=>some (i97)
def QZ:Hn Tryz.prog := .jn [] ⟨[kdI 5],[bkC 0 79 [.is 2 (.any)],bkC 1 3 [.is 3 (.any)],bkU 2,bkU 3]⟩ [0,1] (.lp ⟨[kdI 5,kdI 6],[bkC 0 79 [.is 2 (.any)],bkC 1 3 [.is 3 (.any)],bkU 2,bkU 3]⟩ (.tw 11 (.cl Q3 [] (.tw 21 .nil .nil)) .nil)) .nil
def Ph:Spec:=⟨108,⟨[kdI 0,(1,.fn 109 [.ptr 0 0,.ptr 1 0])],[bkN 79 [.is 2 (.dat c9)],bkN 3 [.is 3 (.dat Yq2)],bkM,bkM]⟩,[⟨[kdI 0],[bkC 0 79 [.is 2 (.any)],bkC 1 3 [.is 3 (.any)],bkU 2,bkU 3]⟩],fun x=>nH x.1 x.2.1 x.2.2⟩
def RG:OkSpec Tryz.prog:=⟨Ph,ab func108 QZ (by kernel_rfl) (by kernel_rfl),call108⟩

def kU (xa:(Option aO)) (xb:Int):Option (Int×Int×Bool) :=
 cond (decide (xb < 0)) (some ((0,0,false))) ((dp xa).bind fun i1=>cond (decide (i1≤xb)) (some ((0,0,false))) (xa.bind fun y2=>(nH (y2.1.length:Int) (some y2) xb).bind fun i3=>(aa y2.1 (IntKind.wrap .i64 (i3 - 1))).bind fun x4=>some ((IntKind.wrap .i64 (i3 - 1),IntKind.wrap .i64 (xb - x4),true))))
def PQ:Hn Tryz.prog := .mix [([0,1,2,3,4],5)] [6,7] [] [] (.two 10 .nil (.cl kl [] (.tw 15 .nil (.wt 1000004 (.mc 0 0 1 (.mc 2 0 3 (.cl RG [] (.mix [] [0,1,2,3,4,5,6,7,8,9,10,11,12] [] [] .nil))))))))
def QK:Spec:=⟨79,⟨[(0,.dat c9),kdI 1],[]⟩,[⟨[(0,.tup [.dat Yq2,.dat Yq2,.dat .bool])],[]⟩],fun x=>kU x.1 x.2⟩
def BV:OkSpec Tryz.prog:=⟨QK,ab func79 PQ (by kernel_rfl) (by kernel_rfl),call79⟩

def oa (xa:(Option aO)) (xb:Int):Option Int :=
 xa.bind fun y26=>cond (decide ((IntKind.wrap .i64 (xb + 1)) < (y26.1.length:Int))) ((aa y26.1 (IntKind.wrap .i64 (xb + 1))).bind fun x41=>some (x41)) (some (y26.2))
def OZ:Hn Tryz.prog := .ms 0 (.tw 12 .nil .nil)
def RD:Spec:=⟨110,⟨[(0,.dat c9),kdI 1],[]⟩,[⟨[kdI 0],[]⟩],fun x=>oa x.1 x.2⟩
def Sj:OkSpec Tryz.prog:=⟨RD,ab func110 OZ (by kernel_rfl) (by kernel_rfl),call110⟩

def n6 (xa:(Option aO)) (xb:Int):Option Bool :=
 (kU xa xb).bind fun (i27,i28,t29)=>(cond (t29) ((oa xa i27).bind fun i44=>some (decide ((IntKind.wrap .i64 (xb + 1))=i44))) (some (false))).bind fun t40=>some (t40)
def PC:Hn Tryz.prog := .cl BV [] (.gj 6 ⟨[kdB 23],[]⟩ [] (.two 16 (.cl Sj [] .nil) .nil) .nil)
def Pn:Spec:=⟨80,⟨[(0,.dat c9),kdI 1],[]⟩,[⟨[kdB 0],[]⟩],fun x=>n6 x.1 x.2⟩
def RE:OkSpec Tryz.prog:=⟨Pn,ab func80 PC (by kernel_rfl) (by kernel_rfl),call80⟩
def oF (xa:Tq9) (xb:(List Int)):aO→Option (aO⊕(List Int)):=fun (l1,i2)=>cond (decide (i2 < (xa.2.2.2.1.length:Int))) ((aa xa.2.2.2.1 i2).bind fun x3=>(aa xb x3).bind fun x4=>(app l1 ([x4]:List Int)).bind fun z5=>some (.inl ((z5,IntKind.wrap .i64 (i2 + 1))))) (some (.inr (l1)))
def lW (xa:Tq9) (xb:(List Int)):Option (List Int) :=
 (loop (oF xa xb) ([],0)).bind fun l1=>(srt l1).bind fun l2=>(gv l2).bind fun l3=>some (l3)
def OQ:Hn Tryz.prog := .jn [] ⟨[(5,.own 3 Yq2)],[]⟩ [0] (.lp ⟨[(5,.own 3 Yq2),kdI 11],[]⟩ (.tw 12 .nil .nil)) (.cl qi [] (.cl pw [] .nil))
def Qu:Spec:=⟨81,⟨[(0,.dat ew),(1,.dat (.sl Yq2))],[]⟩,[⟨[(0,.own 3 Yq2)],[]⟩],fun x=>lW x.1 x.2⟩
def RQ:OkSpec Tryz.prog:=⟨Qu,ab func81 OQ (by kernel_rfl) (by kernel_rfl),call81⟩

def sa (xa:Tq7):Option (Tq7) :=
 dK xa (some ([])) ((app (([]:List bp)) xa).bind fun z21=>some (z21))
def OO:Hn Tryz.prog := .two 4 .nil .nil
def PV:Spec:=⟨111,⟨[(0,.dat Yq4)],[]⟩,[⟨[(0,.own 135 dk)],[]⟩],fun x=>sa x⟩
def N7:OkSpec Tryz.prog:=⟨PV,ab func111 OO (by kernel_rfl) (by kernel_rfl),call111⟩

def sU (xa:bp):Option Int :=
 some (xa.1)
def OU:Hn Tryz.prog := .nil
def RS:Spec:=⟨113,⟨[(0,.dat dk)],[]⟩,[⟨[kdI 0],[]⟩],fun x=>sU x⟩
def B7:OkSpec Tryz.prog:=⟨RS,ab func113 OU (by kernel_rfl) (by kernel_rfl),call113⟩
def Cp (xb:Tq7):bA→Option (bA⊕(List Int)):=fun (i1,l2)=>cond (decide (i1 < (xb.length:Int))) ((aa xb i1).bind fun x3=>(sU (x3.1,x3.2)).bind fun i4=>(aa l2 (IntKind.wrap .i64 (i4 + 1))).bind fun x5=>(aa l2 (IntKind.wrap .i64 (i4 + 1))).bind fun x6=>(some (l2.set (IntKind.wrap .i64 (i4 + 1)).toNat (IntKind.wrap .i64 (x5 + 1)))).bind fun z7=>some (.inl ((IntKind.wrap .i64 (i1 + 1),z7)))) (some (.inr (l2)))
def Co (xa:Int):bA→Option (bA⊕(List Int)):=fun (i1,l2)=>cond (decide (i1 < xa)) ((aa l2 (IntKind.wrap .i64 (i1 + 1))).bind fun x3=>(aa l2 i1).bind fun x4=>(aa l2 (IntKind.wrap .i64 (i1 + 1))).bind fun x5=>(some (l2.set (IntKind.wrap .i64 (i1 + 1)).toNat (IntKind.wrap .i64 (x3 + x4)))).bind fun z6=>some (.inl ((IntKind.wrap .i64 (i1 + 1),z6)))) (some (.inr (l2)))
def Cq (xb:Tq7):((List Int)×Int×(List Int))→Option (((List Int)×Int×(List Int))⊕(List Int)):=fun (l1,i2,l3)=>cond (decide (i2 < (xb.length:Int))) ((aa xb i2).bind fun x4=>(sU (x4.1,x4.2)).bind fun i5=>(aa l1 i5).bind fun x6=>(aa l3 x6).bind fun x7=>(some (l3.set x6.toNat i2)).bind fun z8=>(aa l1 i5).bind fun x9=>(aa l1 i5).bind fun x10=>(some (l1.set i5.toNat (IntKind.wrap .i64 (x9 + 1)))).bind fun z11=>some (.inl ((z11,IntKind.wrap .i64 (i2 + 1),z8)))) (some (.inr (l3)))
def nL (xa:Int) (xb:Tq7):Option (Tq4) :=
 (((mk (IntKind.wrap .i64 (xa + 1)) (IntKind.wrap .i64 (xa + 1)) 0:Option (List Int)).bind fun z1=>((mk (xb.length:Int) (xb.length:Int) 0:Option (List Int)).bind fun z2=>some ((z1,z2))).bind fun x3=>((mk (xb.length:Int) (xb.length:Int) 0:Option (List Int)).bind fun z4=>some ((z1,z4))).bind fun y5=>agr x3 y5 (some x3)).bind fun x6=>(((mk (xb.length:Int) (xb.length:Int) 0:Option (List Int)).bind fun z7=>((mk (IntKind.wrap .i64 (xa + 1)) (IntKind.wrap .i64 (xa + 1)) 0:Option (List Int)).bind fun z8=>some ((z8,z7))).bind fun x9=>((mk (IntKind.wrap .i64 (xa + 1)) (IntKind.wrap .i64 (xa + 1)) 0:Option (List Int)).bind fun z10=>some ((z10,z7))).bind fun y11=>agr x9 y11 (some x9)).bind fun x12=>(((mk (IntKind.wrap .i64 (xa + 1)) (IntKind.wrap .i64 (xa + 1)) 0:Option (List Int)).bind fun z13=>(mk (xb.length:Int) (xb.length:Int) 0:Option (List Int)).bind fun z14=>some ((z13,z14))).bind fun x15=>((mk (xb.length:Int) (xb.length:Int) 0:Option (List Int)).bind fun z16=>(mk (IntKind.wrap .i64 (xa + 1)) (IntKind.wrap .i64 (xa + 1)) 0:Option (List Int)).bind fun z17=>some ((z17,z16))).bind fun y18=>agr x15 y18 (some x15)).bind fun y19=>agr x12 y19 (some x12)).bind fun y20=>agr x6 y20 (some x6):Option (Tq4)).bind fun (l21,l22)=>(loop (Cp xb) (0,l21)).bind fun l23=>(loop (Co xa) (0,l23)).bind fun l24=>(cg l24).bind fun l25=>(loop (Cq xb) (l25,0,l22)).bind fun l26=>some ((l24,l26))
def PL:Hn Tryz.prog := .tr (.still [0,1,3,4] (.alt 2 (.alt 5 (.still [6] (.alt 7 (.alt 8 (.leaf []) .done) .done)) (.alt 7 (.alt 5 (.still [6] (.alt 8 (.leaf []) .done)) .done) .done)) (.alt 5 (.alt 2 (.still [6] (.alt 7 (.alt 8 (.leaf []) .done) .done)) (.alt 7 (.alt 2 (.still [6] (.alt 8 (.leaf []) .done)) .done) .done)) (.alt 7 (.alt 2 (.alt 5 (.still [6] (.alt 8 (.leaf []) .done)) .done) (.alt 5 (.alt 2 (.still [6] (.alt 8 (.leaf []) .done)) .done) .done)) .done)))) ⟨[(7,.ptr 0 0)],[bkN 170 [.own 3 Yq2,.own 3 Yq2]]⟩ [] (.two 0 (.two 0 .nil .nil) (.two 0 (.two 0 .nil .nil) (.two 0 .nil .nil))) (.jn [(2,1)] ⟨[],[bkC 2 170 [.own 3 Yq2,.is 1 (.any)],bkU 8]⟩ [2,3] (.lp ⟨[kdI 24],[bkC 2 170 [.own 3 Yq2,.is 1 (.any)],bkU 8]⟩ (.tw 25 (.mix [([0,1,2,3],4)] [5,6,7,8,9] [10] [] (.cl B7 [] .nil)) .nil)) (.jn [] ⟨[],[bkC 2 170 [.own 3 Yq2,.is 1 (.any)],bkU 8]⟩ [2,9] (.lp ⟨[kdI 40],[bkC 2 170 [.own 3 Yq2,.is 1 (.any)],bkU 8]⟩ (.tw 41 (.mix [] [0,1,2,3,4,5,6,7,8,9,10,11,12] [13] [] .nil) .nil)) (.per 12 13 (.cl eW [] (.jn [(2,0)] ⟨[(59,.any),(11,.any)],[bkC 2 170 [.is 1 (.any),.own 3 Yq2],bkU 17]⟩ [15,2,5] (.lp ⟨[(11,.own 3 Yq2),kdI 62],[bkC 2 170 [.is 1 (.any),.own 3 Yq2],bkU 17]⟩ (.tw 63 (.cl B7 [] (.mix [] [0,1,2,3,4,5,6,7] [8] [] .nil)) .nil)) .nil)))))
def Sb:Spec:=⟨112,⟨[kdI 0,(1,.dat Yq4),(2,.fn 113 [])],[]⟩,[⟨[(0,.agg [.dat (.sl Yq2),.own 3 Yq2])],[]⟩],fun x=>nL x.1 x.2⟩
def Pu:OkSpec Tryz.prog:=⟨Sb,ab func112 PL (by kernel_rfl) (by kernel_rfl),call112⟩

def sV (xa:bp):Option Int :=
 some (xa.2)
def Qn:Hn Tryz.prog := .nil
def QR:Spec:=⟨114,⟨[(0,.dat dk)],[]⟩,[⟨[kdI 0],[]⟩],fun x=>sV x⟩
def Cj:OkSpec Tryz.prog:=⟨QR,ab func114 Qn (by kernel_rfl) (by kernel_rfl),call114⟩
def Cn (xb:Tq7):bA→Option (bA⊕(List Int)):=fun (i1,l2)=>cond (decide (i1 < (xb.length:Int))) ((aa xb i1).bind fun x3=>(sV (x3.1,x3.2)).bind fun i4=>(aa l2 (IntKind.wrap .i64 (i4 + 1))).bind fun x5=>(aa l2 (IntKind.wrap .i64 (i4 + 1))).bind fun x6=>(some (l2.set (IntKind.wrap .i64 (i4 + 1)).toNat (IntKind.wrap .i64 (x5 + 1)))).bind fun z7=>some (.inl ((IntKind.wrap .i64 (i1 + 1),z7)))) (some (.inr (l2)))
def Cr (xa:Int):bA→Option (bA⊕(List Int)):=fun (i1,l2)=>cond (decide (i1 < xa)) ((aa l2 (IntKind.wrap .i64 (i1 + 1))).bind fun x3=>(aa l2 i1).bind fun x4=>(aa l2 (IntKind.wrap .i64 (i1 + 1))).bind fun x5=>(some (l2.set (IntKind.wrap .i64 (i1 + 1)).toNat (IntKind.wrap .i64 (x3 + x4)))).bind fun z6=>some (.inl ((IntKind.wrap .i64 (i1 + 1),z6)))) (some (.inr (l2)))
def Cm (xb:Tq7):((List Int)×Int×(List Int))→Option (((List Int)×Int×(List Int))⊕(List Int)):=fun (l1,i2,l3)=>cond (decide (i2 < (xb.length:Int))) ((aa xb i2).bind fun x4=>(sV (x4.1,x4.2)).bind fun i5=>(aa l1 i5).bind fun x6=>(aa l3 x6).bind fun x7=>(some (l3.set x6.toNat i2)).bind fun z8=>(aa l1 i5).bind fun x9=>(aa l1 i5).bind fun x10=>(some (l1.set i5.toNat (IntKind.wrap .i64 (x9 + 1)))).bind fun z11=>some (.inl ((z11,IntKind.wrap .i64 (i2 + 1),z8)))) (some (.inr (l3)))
def nK (xa:Int) (xb:Tq7):Option (Tq4) :=
 (((mk (IntKind.wrap .i64 (xa + 1)) (IntKind.wrap .i64 (xa + 1)) 0:Option (List Int)).bind fun z1=>((mk (xb.length:Int) (xb.length:Int) 0:Option (List Int)).bind fun z2=>some ((z1,z2))).bind fun x3=>((mk (xb.length:Int) (xb.length:Int) 0:Option (List Int)).bind fun z4=>some ((z1,z4))).bind fun y5=>agr x3 y5 (some x3)).bind fun x6=>(((mk (xb.length:Int) (xb.length:Int) 0:Option (List Int)).bind fun z7=>((mk (IntKind.wrap .i64 (xa + 1)) (IntKind.wrap .i64 (xa + 1)) 0:Option (List Int)).bind fun z8=>some ((z8,z7))).bind fun x9=>((mk (IntKind.wrap .i64 (xa + 1)) (IntKind.wrap .i64 (xa + 1)) 0:Option (List Int)).bind fun z10=>some ((z10,z7))).bind fun y11=>agr x9 y11 (some x9)).bind fun x12=>(((mk (IntKind.wrap .i64 (xa + 1)) (IntKind.wrap .i64 (xa + 1)) 0:Option (List Int)).bind fun z13=>(mk (xb.length:Int) (xb.length:Int) 0:Option (List Int)).bind fun z14=>some ((z13,z14))).bind fun x15=>((mk (xb.length:Int) (xb.length:Int) 0:Option (List Int)).bind fun z16=>(mk (IntKind.wrap .i64 (xa + 1)) (IntKind.wrap .i64 (xa + 1)) 0:Option (List Int)).bind fun z17=>some ((z17,z16))).bind fun y18=>agr x15 y18 (some x15)).bind fun y19=>agr x12 y19 (some x12)).bind fun y20=>agr x6 y20 (some x6):Option (Tq4)).bind fun (l21,l22)=>(loop (Cn xb) (0,l21)).bind fun l23=>(loop (Cr xa) (0,l23)).bind fun l24=>(cg l24).bind fun l25=>(loop (Cm xb) (l25,0,l22)).bind fun l26=>some ((l24,l26))
def R8:Hn Tryz.prog := .tr (.still [0,1,3,4] (.alt 2 (.alt 5 (.still [6] (.alt 7 (.alt 8 (.leaf []) .done) .done)) (.alt 7 (.alt 5 (.still [6] (.alt 8 (.leaf []) .done)) .done) .done)) (.alt 5 (.alt 2 (.still [6] (.alt 7 (.alt 8 (.leaf []) .done) .done)) (.alt 7 (.alt 2 (.still [6] (.alt 8 (.leaf []) .done)) .done) .done)) (.alt 7 (.alt 2 (.alt 5 (.still [6] (.alt 8 (.leaf []) .done)) .done) (.alt 5 (.alt 2 (.still [6] (.alt 8 (.leaf []) .done)) .done) .done)) .done)))) ⟨[(7,.ptr 0 0)],[bkN 170 [.own 3 Yq2,.own 3 Yq2]]⟩ [] (.two 0 (.two 0 .nil .nil) (.two 0 (.two 0 .nil .nil) (.two 0 .nil .nil))) (.jn [(2,1)] ⟨[],[bkC 2 170 [.own 3 Yq2,.is 1 (.any)],bkU 8]⟩ [2,3] (.lp ⟨[kdI 24],[bkC 2 170 [.own 3 Yq2,.is 1 (.any)],bkU 8]⟩ (.tw 25 (.mix [([0,1,2,3],4)] [5,6,7,8,9] [10] [] (.cl Cj [] .nil)) .nil)) (.jn [] ⟨[],[bkC 2 170 [.own 3 Yq2,.is 1 (.any)],bkU 8]⟩ [2,9] (.lp ⟨[kdI 40],[bkC 2 170 [.own 3 Yq2,.is 1 (.any)],bkU 8]⟩ (.tw 41 (.mix [] [0,1,2,3,4,5,6,7,8,9,10,11,12] [13] [] .nil) .nil)) (.per 12 13 (.cl eW [] (.jn [(2,0)] ⟨[(59,.any),(11,.any)],[bkC 2 170 [.is 1 (.any),.own 3 Yq2],bkU 17]⟩ [15,2,5] (.lp ⟨[(11,.own 3 Yq2),kdI 62],[bkC 2 170 [.is 1 (.any),.own 3 Yq2],bkU 17]⟩ (.tw 63 (.cl Cj [] (.mix [] [0,1,2,3,4,5,6,7] [8] [] .nil)) .nil)) .nil)))))
def Ob:Spec:=⟨112,⟨[kdI 0,(1,.dat Yq4),(2,.fn 114 [])],[]⟩,[⟨[(0,.agg [.dat (.sl Yq2),.own 3 Yq2])],[]⟩],fun x=>nK x.1 x.2⟩
def Ql:OkSpec Tryz.prog:=⟨Ob,ab func112 R8 (by kernel_rfl) (by kernel_rfl),call112⟩
def oT (xa:Int) (xb:Tq7):Int→Option (Int⊕(Unit⊕(cM×Int))):=fun i1=>cond (decide (i1 < (xb.length:Int))) ((aa xb i1).bind fun x2=>cond ((((decide (x2.1 < 0))||(decide (xa≤x2.1)))||(decide (x2.2 < 0)))||(decide (xa≤x2.2))) (some (.inr ((.inr ((none,7)))))) (some (.inl (IntKind.wrap .i64 (i1 + 1))))) (some (.inr ((.inl ()))))
def mj (xa:Int) (xb:Tq7):Option ((cM×Int)) :=
 cond (decide (xa < 0)) (some ((none,2))) (cond ((decide (1048576 < xa))||(decide (67108864 < (xb.length:Int)))) (some ((none,5))) ((loop (oT xa xb) 0).bind fun o=>match o with | .inr r=>some r | .inl ()=>(sa xb).bind fun l1=>(nL xa l1).bind fun (l2,l3)=>(nK xa l1).bind fun (l4,l5)=>some (((some ((xa,l1,(l2,l3),(l4,l5)))),0))))
def Rm:Hn Tryz.prog := .tw 10 .nil (.gp 3 (.tw 17 .nil (.jx [] ⟨[],[]⟩ [] (.lp ⟨[kdI 20],[]⟩ (.tw 21 (.gp 4 (.wt 33 (.gp 3 (.wt 38 (.gp 4 (.tw 43 .nil .nil)))))) .nil)) (.cl N7 [] (.per 0 1 (.cl Pu [] (.cl Ql [] (.per 4 5 (.per 7 8 (.perb 2 9 (.cons Yq2 (.cons Yq4 (.cons Yq5 (.one Yq5)))) .nil))))))))))
def Sf:Spec:=⟨82,⟨[kdI 0,(1,.dat Yq4)],[]⟩,[⟨[(0,.tup [.dat dm,.dat Yq2])],[]⟩],fun x=>mj x.1 x.2⟩
def Pm:OkSpec Tryz.prog:=⟨Sf,ab func82 Rm (by kernel_rfl) (by kernel_rfl),call82⟩
def oV (i1:Int) (l2:(List Int)):(Tq7×Int)→Option ((Tq7×Int)⊕Tq7):=fun (l3,i4)=>cond (decide (i4 < (l2.length:Int))) ((aa l2 i4).bind fun x5=>(app l3 (([(i1,x5)]:List bp))).bind fun z6=>some (.inl ((z6,IntKind.wrap .i64 (i4 + 1))))) (some (.inr (l3)))
def lR (xa:Tq1) (p1:(Option aO)) (l2:(List Int)) (i3:Int):(Tq7×Int)→Option ((Tq7×Int)⊕Tq7):=fun (l4,i5)=>cond (decide (i5 < i3)) ((kU p1 i5).bind fun (i6,i7,t8)=>((n6 p1 i5).bind fun t9=>cond (t9) ((aa xa.2.2.2.2.2.2 i6).bind fun x10=>(lW (x10.2.1,x10.2.2.1,x10.2.2.2.1,x10.2.2.2.2.1,x10.2.2.2.2.2.1,x10.2.2.2.2.2.2) l2).bind fun l11=>some (l11)) (some (([IntKind.wrap .i64 (i5 + 1)]:List Int))):Option (List Int)).bind fun l12=>(loop (oV i5 l12) (l4,0)).bind fun l13=>some (.inl ((l13,IntKind.wrap .i64 (i5 + 1))))) (some (.inr (l4)))
def gZ (xa:Tq1):Option ((Option ((Option aO)×cM))) :=
 (dw xa).bind fun p1=>(nU p1).bind fun l2=>(dp p1).bind fun i3=>(loop (lR xa p1 l2 i3) ([],0)).bind fun l4=>(dp p1).bind fun i5=>(mj i5 l4).bind fun (p6,i7)=>some ((some (p1,p6)))
def QP:Hn Tryz.prog := .cl rU [] (.cl OR [] (.cl kl [] (.per 2 3 (.jn [] ⟨[(5,.own 135 dk)],[]⟩ [] (.lp ⟨[(5,.own 135 dk),kdI 21],[]⟩ (.tw 22 (.cl BV [] (.pl (.sq [] ⟨[(10,.own 3 Yq2)],[]⟩ [6] (.cl RE [] (.tw 36 (.cl RQ [] .nil) .nil)) (.jn [] ⟨[(5,.own 135 dk)],[]⟩ [4] (.lp ⟨[(5,.own 135 dk),kdI 47],[]⟩ (.tw 48 .nil .nil)) .nil)))) .nil)) (.cl kl [] (.per 4 5 (.cl Pm [] (.perb 6 7 (.cons c9 (.one dm)) .nil))))))))
def P6:Spec:=⟨50,⟨[(0,.dat Yq1)],[]⟩,[⟨[(0,.dat (.ptr (.cons c9 (.one dm))))],[]⟩],fun x=>gZ x⟩
def B0:OkSpec Tryz.prog:=⟨P6,ab func50 QP (by kernel_rfl) (by kernel_rfl),call50⟩

def sJ (xa:(Option ((Option aO)×cM))):Option (cM) :=
 cond (xa.isNone) (some (none)) (xa.bind fun y15=>some (y15.2))
def RJ:Hn Tryz.prog := .tw 4 .nil .nil
def QD:Spec:=⟨105,⟨[(0,.dat (.ptr (.cons c9 (.one dm))))],[]⟩,[⟨[(0,.dat dm)],[]⟩],fun x=>sJ x⟩
def PD:OkSpec Tryz.prog:=⟨QD,ab func105 RJ (by kernel_rfl) (by kernel_rfl),call105⟩

def sD (xa:cM):Option Int :=
 cond (xa.isNone) (some (0)) (xa.bind fun y11=>some (y11.1))
def R4:Hn Tryz.prog := .tw 4 .nil .nil
def Q4:Spec:=⟨180,⟨[(0,.dat dm)],[]⟩,[⟨[kdI 0],[]⟩],fun x=>sD x⟩
def Q6:OkSpec Tryz.prog:=⟨Q4,ab func180 R4 (by kernel_rfl) (by kernel_rfl),call180⟩

def kO (xa:cM) (xb:Int):Option Bool :=
 (cond (decide (0≤xb)) ((sD xa).bind fun i28=>some (decide (xb < i28))) (some (false))).bind fun t24=>some (t24)
def R0:Hn Tryz.prog := .gj 4 ⟨[kdB 12],[]⟩ [] (.two 7 (.cl Q6 [] .nil) .nil) .nil
def Qc:Spec:=⟨149,⟨[(0,.dat dm),kdI 1],[]⟩,[⟨[kdB 0],[]⟩],fun x=>kO x.1 x.2⟩
def QI:OkSpec Tryz.prog:=⟨Qc,ab func149 R0 (by kernel_rfl) (by kernel_rfl),call149⟩

def oA (xa:Tq4) (xb:Int):Option (List Int) :=
 (aa xa.1 xb).bind fun x1=>(aa xa.1 (IntKind.wrap .i64 (xb + 1))).bind fun x2=>(subL xa.2 x1 x2).bind fun y3=>some (y3)
def P5:Hn Tryz.prog := .mix [] [0,1,2,3,4,5,6,7,8,9,10,11,12,13,14] [] [] .nil
def Q7:Spec:=⟨150,⟨[(0,.dat Yq5),kdI 1],[]⟩,[⟨[(0,.dat (.sl Yq2))],[]⟩],fun x=>oA x.1 x.2⟩
def QM:OkSpec Tryz.prog:=⟨Q7,ab func150 P5 (by kernel_rfl) (by kernel_rfl),call150⟩

def oB (xa:cM) (xb:Int):Option (List Int) :=
 (kO xa xb).bind fun t48=>cond (!t48) (some ([])) (xa.bind fun y54=>(oA (y54.2.2.2.1,y54.2.2.2.2) xb).bind fun l70=>(cg l70).bind fun l79=>some (l79))
def Qf:Hn Tryz.prog := .cl QI [] (.tw 8 .nil (.cl QM [] (.cl eW [] .nil)))
def PW:Spec:=⟨106,⟨[(0,.dat dm),kdI 1],[]⟩,[⟨[(0,.own 3 Yq2)],[]⟩],fun x=>oB x.1 x.2⟩
def Qp:OkSpec Tryz.prog:=⟨PW,ab func106 Qf (by kernel_rfl) (by kernel_rfl),call106⟩

def sF (xa:cM):Option Int :=
 cond (xa.isNone) (some (0)) (xa.bind fun y14=>some (y14.2.1.length:Int))
def QJ:Hn Tryz.prog := .tw 4 .nil .nil
def Pa:Spec:=⟨151,⟨[(0,.dat dm)],[]⟩,[⟨[kdI 0],[]⟩],fun x=>sF x⟩
def Qq:OkSpec Tryz.prog:=⟨Pa,ab func151 QJ (by kernel_rfl) (by kernel_rfl),call151⟩

def kV (xa:cM) (xb:Int):Option (Int×Int×Bool) :=
 (cond (decide (xb < 0)) (some (true)) ((sF xa).bind fun i52=>some (decide (i52≤xb)))).bind fun t48=>cond (t48) (some ((0,0,false))) (xa.bind fun y57=>(aa y57.2.1 xb).bind fun x67=>some ((x67.1,x67.2,true)))
def OJ:Hn Tryz.prog := .gj 4 ⟨[kdB 13],[]⟩ [] (.two 8 .nil (.cl Qq [] .nil)) (.tw 13 .nil .nil)
def Qd:Spec:=⟨107,⟨[(0,.dat dm),kdI 1],[]⟩,[⟨[(0,.tup [.agg [.dat Yq2,.dat Yq2],.dat .bool])],[]⟩],fun x=>kV x.1 x.2⟩
def Oe:OkSpec Tryz.prog:=⟨Qd,ab func107 OJ (by kernel_rfl) (by kernel_rfl),call107⟩
def nZ (xa:(Option ((Option aO)×cM))) (l1:(List Int)):aO→Option (aO⊕(List Int)):=fun (l2,i3)=>cond (decide (i3 < (l1.length:Int))) ((aa l2 i3).bind fun x4=>xa.bind fun y5=>(kV y5.2 x4).bind fun (i6,i7,t8)=>(aa l2 i3).bind fun x9=>(some (l2.set i3.toNat i6)).bind fun z10=>some (.inl ((z10,IntKind.wrap .i64 (i3 + 1))))) (some (.inr (l2)))
def ox (xa:(Option ((Option aO)×cM))) (xb:Int):Option (List Int) :=
 (sJ xa).bind fun p1=>(oB p1 xb).bind fun l2=>(loop (nZ xa l2) (l2,0)).bind fun l3=>some (l3)
def Pq:Hn Tryz.prog := .cl PD [] (.cl Qp [] (.jn [] ⟨[(5,.own 3 Yq2),(13,.any),(14,.any)],[]⟩ [0] (.lp ⟨[(5,.own 3 Yq2),(14,.al 0),kdI 16],[]⟩ (.tw 17 (.cl Oe [] .nil) .nil)) .nil))
def Oc:Spec:=⟨77,⟨[(0,.dat (.ptr (.cons c9 (.one dm)))),kdI 1],[]⟩,[⟨[(0,.own 3 Yq2)],[]⟩],fun x=>ox x.1 x.2⟩
def P1:OkSpec Tryz.prog:=⟨Oc,ab func77 Pq (by kernel_rfl) (by kernel_rfl),call77⟩
def oG (xa:(Option ((Option aO)×cM))) (z1:List (List Int)):(aL×Int)→Option ((aL×Int)⊕aL):=fun (l2,i3)=>cond (decide (i3 < (z1.length:Int))) ((ox xa i3).bind fun l4=>(aa l2 i3).bind fun x5=>(some (l2.set i3.toNat l4)).bind fun z6=>some (.inl ((z6,IntKind.wrap .i64 (i3 + 1))))) (some (.inr (l2)))
def mg (xa:(Option ((Option aO)×cM))) (xb:Int):Option (aL) :=
 (mk xb xb ([]):Option aL).bind fun z1=>(loop (oG xa z1) (z1,0)).bind fun l2=>some (l2)
def OM:Hn Tryz.prog := .jn [] ⟨[(5,.own 48 (.sl Yq2)),(8,.any),(9,.any)],[]⟩ [0] (.lp ⟨[(5,.own 48 (.sl Yq2)),kdI 11],[]⟩ (.tw 12 (.cl P1 [] (.per 4 5 .nil)) .nil)) .nil
def Ry:Spec:=⟨49,⟨[(0,.dat (.ptr (.cons c9 (.one dm)))),kdI 1],[]⟩,[⟨[(0,.own 48 (.sl Yq2))],[]⟩],fun x=>mg x.1 x.2⟩
def BZ:OkSpec Tryz.prog:=⟨Ry,ab func49 OM (by kernel_rfl) (by kernel_rfl),call49⟩

def kR (xa:(Option gl)) (xb:Int):Option (Tq4) :=
 (cond (xa.isNone||(decide (xb < 0))) (some (true)) (xa.bind fun y1=>some (decide ((y1.2.length:Int)≤xb)))).bind fun t2=>cond (t2) (some (([],[]))) (xa.bind fun y3=>(aa y3.2 xb).bind fun x4=>(cg x4.1).bind fun l5=>(cg x4.2).bind fun l6=>some ((l5,l6)))
def O7:Hn Tryz.prog := .gp 2 (.wt 13 (.gj 7 ⟨[kdB 21],[]⟩ [] (.two 13 .nil .nil) (.tw 21 .nil (.mix [([0,1,3,4],2)] [] [5,6,7] [] (.cl eW [] (.cl eW [] .nil))))))
def Pd:Spec:=⟨51,⟨[(0,.dat (.ptr (.cons (.sl Yq5) (.one (.sl Yq5))))),kdI 1],[]⟩,[⟨[(0,.tup [.own 3 Yq2,.own 3 Yq2])],[]⟩],fun x=>kR x.1 x.2⟩
def Cb:OkSpec Tryz.prog:=⟨Pd,ab func51 O7 (by kernel_rfl) (by kernel_rfl),call51⟩

def fA (xa:Int):Option ((Int⊕(Int×Int×(List Int)))) :=
 cond (decide (xa < 0)) (some (.inl 2)) (cond (decide (1048576 < xa)) (some (.inl 5)) ((mk (IntKind.wrap .i64 (Int.tdiv (IntKind.wrap .i64 ((IntKind.wrap .i64 (xa + 64)) - 1)) 64)) (IntKind.wrap .i64 (Int.tdiv (IntKind.wrap .i64 ((IntKind.wrap .i64 (xa + 64)) - 1)) 64)) 0:Option (List Int)).bind fun z20=>some (.inr (0,xa,z20))))
def Rg:Hn Tryz.prog := .tw 5 .nil (.tw 7 .nil (.pl (.pl .nil)))
def RI:Spec:=⟨84,⟨[kdI 0],[]⟩,[⟨[(0,.tup [.nilp,.dat Yq2])],[]⟩,⟨[(0,.tup [.ptr 0 0,.dat Yq2])],[bkN 116 [.dat Yq2,.own 113 Yq7]]⟩],fun x=>fA x⟩
def rO:OkSpec Tryz.prog:=⟨RI,ab func84 Rg (by kernel_rfl) (by kernel_rfl),call84⟩

def ou (xa:Tq5):Option Int :=
 cond (xa.isNone) (some (0)) (xa.bind fun y11=>some (y11.1))
def QO:Hn Tryz.prog := .tw 4 .nil .nil
def Oo:Spec:=⟨103,⟨[(0,.dat Yq9)],[]⟩,[⟨[kdI 0],[]⟩],fun x=>ou x⟩
def Px:OkSpec Tryz.prog:=⟨Oo,ab func103 QO (by kernel_rfl) (by kernel_rfl),call103⟩

def fq (xa:Tq5) (xb:Int):Option Bool :=
 (cond (decide (0≤xb)) ((ou xa).bind fun i28=>some (decide (xb < i28))) (some (false))).bind fun t24=>some (t24)
def PM:Hn Tryz.prog := .gj 4 ⟨[kdB 12],[]⟩ [] (.two 7 (.cl Px [] .nil) .nil) .nil
def OP:Spec:=⟨70,⟨[(0,.dat Yq9),kdI 1],[]⟩,[⟨[kdB 0],[]⟩],fun x=>fq x.1 x.2⟩
def rF:OkSpec Tryz.prog:=⟨OP,ab func70 PM (by kernel_rfl) (by kernel_rfl),call70⟩

def cE (xa:Tq5) (xb:Int):Option Bool :=
 (fq xa xb).bind fun t1=>cond (t1) (xa.bind fun y2=>(aa y2.2 (IntKind.wrap .i64 (Int.tdiv xb 64))).bind fun x3=>(ge0 (Int.tmod xb 64)).bind fun u4=>some (!decide ((IntKind.wrap .u64 ((BitVec.ofInt (IntKind.bits .u64) x3 &&& BitVec.ofInt (IntKind.bits .u64) (IntKind.wrap .u64 (1 * 2 ^ (min (Int.toNat (Int.tmod xb 64)) (IntKind.bits .u64))))).toNat:Int))=0))) (some (false))
def OH:Hn Tryz.prog := .mix [([0,1],2)] [3,4,5,6,7,8,9,10,11,12,13,14,15,16,17,18] [] [] (.cl rF [] (.two 8 .nil .nil))
def Oq:Spec:=⟨43,⟨[(0,.dat Yq9),kdI 1],[]⟩,[⟨[kdB 0],[]⟩],fun x=>cE x.1 x.2⟩
def kh:OkSpec Tryz.prog:=⟨Oq,ab func43 OH (by kernel_rfl) (by kernel_rfl),call43⟩

def gJ (xb:Int):Option Bool :=
 (fq ((none:Tq5)) xb).bind fun t26=>(cond (!t26) (some (true)) ((cE ((none:Tq5)) xb).bind fun t41=>some (t41))).bind fun t37=>cond (t37) (some (false)) (none)
def QQ:Hn Tryz.prog := .cl rF [] (.gj 3 ⟨[kdB 13],[]⟩ [] (.two 9 .nil (.cl kh [] .nil)) (.tw 13 .nil (.mix [] [0,1,2,3,4,5,6,7,8,9,10,11,12] [13] [] .nil)))
def QH:Spec:=⟨57,⟨[(0,.nilp),kdI 1],[]⟩,[⟨[kdB 0],[]⟩],fun x=>gJ x⟩
def kz:OkSpec Tryz.prog:=⟨QH,ab func57 QQ (by kernel_rfl) (by kernel_rfl),call57⟩

def nJ (qa0:(List Int)) (qa1:Int) (qa2:Int) (qa3:(Option Tq7)):Option (((List Int)×(Option Tq7))) :=
 (mk (IntKind.wrap .i64 ((IntKind.wrap .i64 (2 * (qa0.length:Int))) + 1)) (IntKind.wrap .i64 ((IntKind.wrap .i64 (2 * (qa0.length:Int))) + 1)) 0:Option (List Int)).bind fun z31=>(subL qa0 qa1 (qa0.length:Int)).bind fun _=>(some (cpy z31 ((0:Int).toNat) ((List.drop (qa1:Int).toNat (List.take ((qa0.length:Int):Int).toNat qa0)).take (z31.length - (0:Int).toNat)))).bind fun z38=>(subL z38 (((min (List.drop (qa1:Int).toNat (List.take ((qa0.length:Int):Int).toNat qa0)).length (z31.length - (0:Int).toNat):Nat):Int)) (z31.length:Int)).bind fun _=>(subL qa0 0 qa1).bind fun _=>(some (cpy z38 ((((min (List.drop (qa1:Int).toNat (List.take ((qa0.length:Int):Int).toNat qa0)).length (z31.length - (0:Int).toNat):Nat):Int):Int).toNat) ((List.drop (0:Int).toNat (List.take (qa1:Int).toNat qa0)).take ((((z31.length:Int):Int).toNat) - (((min (List.drop (qa1:Int).toNat (List.take ((qa0.length:Int):Int).toNat qa0)).length (z31.length - (0:Int).toNat):Nat):Int):Int).toNat)))).bind fun z42=>some ((z42,qa3))
def PE:Hn Tryz.prog := .mix [] [0,1,2,3,4,5,6,7,8,9] [10,11] [] (.mix [] [0,1,2,3,4,5,6,7,8,9,10,11] [12] [] .nil)
def Oj:Spec:=⟨153,⟨[(0,.ptr 0 0)],[bkN 149 [.own 3 Yq2,.dat Yq2,.is 1 (.dat Yq2),.od (.obj 0 Yq4)],bkM]⟩,[⟨[],[bkC 0 149 [.own 3 Yq2,.lit (.int .i64 0),.is 1 (.any),.od (.obj 0 Yq4)],bkU 1]⟩],fun x=>nJ x.1 x.2.1 x.2.2.1 x.2.2.2⟩
def Qo:OkSpec Tryz.prog:=⟨Oj,ab func153 PE (by kernel_rfl) (by kernel_rfl),call153⟩
def iO (xb:(List Int)):en→Option (en⊕ej):=fun (i1,l2,i3,i4,l5)=>cond (decide (i1 < (xb.length:Int))) ((aa xb i1).bind fun x6=>(cond (decide (i4=(l2.length:Int))) ((nJ l2 i3 i4 l5).bind fun (l7,l8)=>some ((l7,0,l8))) (some ((l2,i3,l5))):Option (((List Int)×Int×(Option Tq7)))).bind fun (l9,i10,l11)=>(nz (l9.length:Int)).bind fun u12=>(aa l9 (Int.tmod (IntKind.wrap .i64 (i10 + i4)) (l9.length:Int))).bind fun x13=>(some (l9.set (Int.tmod (IntKind.wrap .i64 (i10 + i4)) (l9.length:Int)).toNat x6)).bind fun z14=>some (.inl ((IntKind.wrap .i64 (i1 + 1),z14,i10,IntKind.wrap .i64 (i4 + 1),l11)))) (some (.inr (((l2,i3,i4,l5)))))
def nI (xb:(List Int)) (qa0:(List Int)) (qa1:Int) (qa2:Int) (qa3:(Option Tq7)):Option (ej) :=
 (loop (iO xb) (0,qa0,qa1,qa2,qa3)).bind fun (l4,i5,i6,l7)=>some ((l4,i5,i6,l7))
def Qy:Hn Tryz.prog := .jn [] ⟨[],[bkC 0 149 [.own 3 Yq2,.dat Yq2,.dat Yq2,.od (.obj 0 Yq4)]]⟩ [1,0,3] (.lp ⟨[kdI 10],[bkC 0 149 [.own 3 Yq2,.dat Yq2,.dat Yq2,.od (.obj 0 Yq4)]]⟩ (.tw 11 (.pl (.pl (.sq [(0,2)] ⟨[],[bkC 0 149 [.own 3 Yq2,.dat Yq2,.is 1 (.any),.od (.obj 0 Yq4)],bkU 11]⟩ [0,6,8] (.mix [] [0,1,2,3,4,5,6,7,8,9] [] [] (.tw 23 (.cl Qo [] .nil) .nil)) (.mix [] [0,1,2,3,4,5,6,7,8,9,10,11,12,13,14,15,16,17,18,19,20] [21] [] .nil)))) .nil)) .nil
def RH:Spec:=⟨116,⟨[(0,.ptr 0 0),(1,.dat (.sl Yq2))],[bkN 149 [.own 3 Yq2,.dat Yq2,.dat Yq2,.od (.obj 0 Yq4)]]⟩,[⟨[],[bkC 0 149 [.own 3 Yq2,.dat Yq2,.dat Yq2,.od (.obj 0 Yq4)]]⟩],fun x=>nI x.1 x.2.1 x.2.2.1 x.2.2.2.1 x.2.2.2.2⟩
def R6:OkSpec Tryz.prog:=⟨RH,ab func116 Qy (by kernel_rfl) (by kernel_rfl),call116⟩

def db (xb:Int) (qa0:(List Int)) (qa1:Int) (qa2:Int) (qa3:(Option Tq7)):Option ((Bool×(List Int)×Int×Int×(Option Tq7))) :=
 (tO xb qa0 qa1 qa2 qa3).bind fun r69=>cond (!r69.1) (some ((false,r69.2.1,r69.2.2.1,r69.2.2.2.1,r69.2.2.2.2))) ((nI ([xb]:List Int) r69.2.1 r69.2.2.1 r69.2.2.2.1 r69.2.2.2.2).bind fun (l4,i5,i6,l7)=>some ((true,l4,i5,i6,l7)))
def Rq:Hn Tryz.prog := .cl DU [] (.tw 12 .nil (.cl R6 [16] .nil))
def Qk:Spec:=⟨85,⟨[(0,.ptr 0 0),kdI 1],[bkN 149 [.own 3 Yq2,.dat Yq2,.dat Yq2,.od (.obj 0 Yq4)]]⟩,[⟨[kdB 0],[bkC 0 149 [.own 3 Yq2,.dat Yq2,.dat Yq2,.od (.obj 0 Yq4)]]⟩],fun x=>db x.1 x.2.1 x.2.2.1 x.2.2.2.1 x.2.2.2.2⟩
def gq:OkSpec Tryz.prog:=⟨Qk,ab func85 Rq (by kernel_rfl) (by kernel_rfl),call85⟩

def kH (qa0:(List Int)) (qa1:Int) (qa2:Int) (qa3:(Option Tq7)):Option ((Int×(List Int)×(Option Tq7))) :=
 some ((qa2,qa0,qa3))
def P4:Hn Tryz.prog := .nil
def PO:Spec:=⟨117,⟨[(0,.ptr 0 0)],[bkN 149 [.own 3 Yq2,.is 1 (.dat Yq2),.is 2 (.dat Yq2),.od (.obj 0 Yq4)],bkM,bkM]⟩,[⟨[kdI 0],[bkC 0 149 [.own 3 Yq2,.is 1 (.any),.is 2 (.any),.od (.obj 0 Yq4)],bkU 1,bkU 2]⟩],fun x=>kH x.1 x.2.1 x.2.2.1 x.2.2.2⟩
def Ch:OkSpec Tryz.prog:=⟨PO,ab func117 P4 (by kernel_rfl) (by kernel_rfl),call117⟩

def gF (qa0:(List Int)) (qa1:Int) (qa2:Int) (qa3:(Option Tq7)):Option ((Int×(List Int)×(Option Tq7))) :=
 (kH qa0 qa1 qa2 qa3).bind fun (i53,l54,l55)=>some ((i53,l54,l55))
def P7:Hn Tryz.prog := .cl Ch [] .nil
def Rc:Spec:=⟨86,⟨[(0,.ptr 0 0)],[bkN 149 [.own 3 Yq2,.is 1 (.dat Yq2),.is 2 (.dat Yq2),.od (.obj 0 Yq4)],bkM,bkM]⟩,[⟨[kdI 0],[bkC 0 149 [.own 3 Yq2,.is 1 (.any),.is 2 (.any),.od (.obj 0 Yq4)],bkU 1,bkU 2]⟩],fun x=>gF x.1 x.2.1 x.2.2.1 x.2.2.2⟩
def rD:OkSpec Tryz.prog:=⟨Rc,ab func86 P7 (by kernel_rfl) (by kernel_rfl),call86⟩

def nM (qa0:(List Int)) (qa1:Int) (qa2:Int) (qa3:(Option Tq7)):Option ((Int×Bool×(List Int)×Int×Int×(Option Tq7))) :=
 (kH qa0 qa1 qa2 qa3).bind fun (i4,l5,l6)=>cond (decide (i4=0)) (some ((0,false,l5,qa1,qa2,l6))) ((aa l5 qa1).bind fun x7=>(aa l5 qa1).bind fun x8=>(some (l5.set qa1.toNat 0)).bind fun z9=>(nz (l5.length:Int)).bind fun u10=>some ((x7,true,z9,Int.tmod (IntKind.wrap .i64 (qa1 + 1)) (l5.length:Int),IntKind.wrap .i64 (qa2 - 1),l6)))
def Pv:Hn Tryz.prog := .mc 0 1 5 (.mc 0 2 5 (.cl Ch [] (.tw 8 .nil (.mix [] [0,1,2,3,4,5,6,7,8,9,10] [] [] (.mix [] [0,1,2,3,4,5,6,7,8,9] [10] [] (.mix [] [0,1,2,3,4,5,6,7,8,9,10,11,12,13] [14] [] .nil))))))
def Rl:Spec:=⟨118,⟨[(0,.ptr 0 0)],[bkN 149 [.own 3 Yq2,.dat Yq2,.dat Yq2,.od (.obj 0 Yq4)]]⟩,[⟨[(0,.tup [.dat Yq2,.dat .bool])],[bkC 0 149 [.own 3 Yq2,.dat Yq2,.dat Yq2,.od (.obj 0 Yq4)]]⟩],fun x=>nM x.1 x.2.1 x.2.2.1 x.2.2.2⟩
def PH:OkSpec Tryz.prog:=⟨Rl,ab func118 Pv (by kernel_rfl) (by kernel_rfl),call118⟩

def gE (qa0:(List Int)) (qa1:Int) (qa2:Int) (qa3:(Option Tq7)):Option ((Int×Bool×(List Int)×Int×Int×(Option Tq7))) :=
 (nM qa0 qa1 qa2 qa3).bind fun (i76,t77,l78,i79,i80,l81)=>cond (t77) ((w7 i76 l78 i79 i80 l81).bind fun r97=>some ((i76,t77,r97.1,r97.2.1,r97.2.2.1,r97.2.2.2))) (some ((i76,t77,l78,i79,i80,l81)))
def Og:Hn Tryz.prog := .cl PH [] (.tw 17 (.cl DF [] .nil) .nil)
def QW:Spec:=⟨87,⟨[(0,.ptr 0 0)],[bkN 149 [.own 3 Yq2,.dat Yq2,.dat Yq2,.od (.obj 0 Yq4)]]⟩,[⟨[(0,.tup [.dat Yq2,.dat .bool])],[bkC 0 149 [.own 3 Yq2,.dat Yq2,.dat Yq2,.od (.obj 0 Yq4)]]⟩],fun x=>gE x.1 x.2.1 x.2.2.1 x.2.2.2⟩
def rM:OkSpec Tryz.prog:=⟨QW,ab func87 Og (by kernel_rfl) (by kernel_rfl),call87⟩

def dn (xb:Int) (qa0:Int) (qa1:(List Int)):Option ((Bool×(List Int))) :=
 (fq (some (qa0,qa1)) xb).bind fun t2=>(cond (!t2) (some (true)) ((cE (some (qa0,qa1)) xb).bind fun t3=>some (t3))).bind fun t4=>cond (t4) (some ((false,qa1))) ((aa qa1 (IntKind.wrap .i64 (Int.tdiv xb 64))).bind fun x5=>(ge0 (Int.tmod xb 64)).bind fun u6=>(aa qa1 (IntKind.wrap .i64 (Int.tdiv xb 64))).bind fun x7=>(some (qa1.set (IntKind.wrap .i64 (Int.tdiv xb 64)).toNat (IntKind.wrap .u64 ((BitVec.ofInt (IntKind.bits .u64) x5 ||| BitVec.ofInt (IntKind.bits .u64) (IntKind.wrap .u64 (1 * 2 ^ (min (Int.toNat (Int.tmod xb 64)) (IntKind.bits .u64))))).toNat:Int)))).bind fun z8=>some ((true,z8)))
def Pb:Hn Tryz.prog := .cl rF [2,0] (.gj 3 ⟨[kdB 13],[]⟩ [] (.two 9 .nil (.cl kh [2,0] .nil)) (.tw 13 .nil (.mix [] [0,1,2,3,4,5,6,7,8,9,10,11,12] [13] [] .nil)))
def Q9:Spec:=⟨57,⟨[(0,.ptr 0 0),kdI 1],[bkN 116 [.is 1 (.dat Yq2),.own 113 Yq7],bkM]⟩,[⟨[kdB 0],[bkC 0 116 [.is 1 (.any),.own 113 Yq7],bkU 1]⟩],fun x=>dn x.1 x.2.1 x.2.2⟩
def iM:OkSpec Tryz.prog:=⟨Q9,ab func57 Pb (by kernel_rfl) (by kernel_rfl),call57⟩
def CW (xc:(List Int)):Int→Option (Int⊕Unit):=fun i1=>cond (decide (i1 < (xc.length:Int))) ((aa xc i1).bind fun x2=>(gJ x2).bind fun t3=>some (.inl (IntKind.wrap .i64 (i1 + 1)))) (some (.inr ((()))))
def CY (xb:(List Int)):en→Option (en⊕ej):=fun (i1,l2,i3,i4,l5)=>cond (decide (i1 < (xb.length:Int))) ((aa xb i1).bind fun x6=>(gJ x6).bind fun t7=>(db x6 l2 i3 i4 l5).bind fun (t8,l9,i10,i11,l12)=>some (.inl ((IntKind.wrap .i64 (i1 + 1),l9,i10,i11,l12)))) (some (.inr (((l2,i3,i4,l5)))))
def CT (x1:(List Int)):en→Option (en⊕ej):=fun (i2,l3,i4,i5,l6)=>cond (decide (i2 < (x1.length:Int))) ((aa x1 i2).bind fun x7=>(cE ((none:Tq5)) x7).bind fun t8=>(cond (!t8) ((gJ x7).bind fun t9=>some (t9)) (some (false))).bind fun t10=>cond (t10) ((db x7 l3 i4 i5 l6).bind fun (t11,l12,i13,i14,l15)=>some (.inl ((IntKind.wrap .i64 (i2 + 1),l12,i13,i14,l15)))) (some (.inl ((IntKind.wrap .i64 (i2 + 1),l3,i4,i5,l6))))) (some (.inr (((l3,i4,i5,l6)))))
def CV (xa:aL):ej→Option (ej⊕Unit):=fun (l1,i2,i3,l4)=>(gF l1 i2 i3 l4).bind fun (i5,l6,l7)=>cond (decide (0 < i5)) ((gE l6 i2 i3 l7).bind fun (i8,t9,l10,i11,i12,l13)=>(aa xa i8).bind fun x14=>(loop (CT x14) (0,l10,i11,i12,l13)).bind fun (l15,i16,i17,l18)=>some (.inl (l15,i16,i17,l18))) (some (.inr ((()))))
def C4 (xb:(List Int)) (i1:Int):gA→Option (gA⊕gz):=fun (i2,l3,l4,i5,i6,l7)=>cond (decide (i2 < (xb.length:Int))) ((aa xb i2).bind fun x8=>(dn x8 i1 l3).bind fun (t9,l10)=>(db x8 l4 i5 i6 l7).bind fun (t11,l12,i13,i14,l15)=>some (.inl ((IntKind.wrap .i64 (i2 + 1),l10,l12,i13,i14,l15)))) (some (.inr (((l3,l4,i5,i6,l7)))))
def CS (i1:Int) (x2:(List Int)):gA→Option (gA⊕gz):=fun (i3,l4,l5,i6,i7,l8)=>cond (decide (i3 < (x2.length:Int))) ((aa x2 i3).bind fun x9=>(cE ((none:Tq5)) x9).bind fun t10=>cond (!t10) ((dn x9 i1 l4).bind fun (t11,l12)=>cond (t11) ((db x9 l5 i6 i7 l8).bind fun (t13,l14,i15,i16,l17)=>some (.inl ((IntKind.wrap .i64 (i3 + 1),l12,l14,i15,i16,l17)))) (some (.inl ((IntKind.wrap .i64 (i3 + 1),l12,l5,i6,i7,l8))))) (some (.inl ((IntKind.wrap .i64 (i3 + 1),l4,l5,i6,i7,l8))))) (some (.inr (((l4,l5,i6,i7,l8)))))
def CX (xa:aL) (i1:Int):gz→Option (gz⊕(List Int)):=fun (l2,l3,i4,i5,l6)=>(gF l3 i4 i5 l6).bind fun (i7,l8,l9)=>cond (decide (0 < i7)) ((gE l8 i4 i5 l9).bind fun (i10,t11,l12,i13,i14,l15)=>(aa xa i10).bind fun x16=>(loop (CS i1 x16) (0,l2,l12,i13,i14,l15)).bind fun (l17,l18,i19,i20,l21)=>some (.inl (l17,l18,i19,i20,l21))) (some (.inr (l2)))
def la (xc:(List Int)) (i1:Int):bA→Option (bA⊕(List Int)):=fun (i2,l3)=>cond (decide (i2 < (xc.length:Int))) ((aa xc i2).bind fun x4=>(dn x4 i1 l3).bind fun (t5,l6)=>some (.inl ((IntKind.wrap .i64 (i2 + 1),l6)))) (some (.inr (l3)))
def CZ (xb:(List Int)):en→Option (en⊕ej):=fun (i1,l2,i3,i4,l5)=>cond (decide (i1 < (xb.length:Int))) ((aa xb i1).bind fun x6=>(gJ x6).bind fun t7=>(db x6 l2 i3 i4 l5).bind fun (t8,l9,i10,i11,l12)=>some (.inl ((IntKind.wrap .i64 (i1 + 1),l9,i10,i11,l12)))) (some (.inr (((l2,i3,i4,l5)))))
def CR (i1:Int) (l2:(List Int)) (x3:(List Int)):en→Option (en⊕ej):=fun (i4,l5,i6,i7,l8)=>cond (decide (i4 < (x3.length:Int))) ((aa x3 i4).bind fun x9=>(cE (some (i1,l2)) x9).bind fun t10=>(cond (!t10) ((gJ x9).bind fun t11=>some (t11)) (some (false))).bind fun t12=>cond (t12) ((db x9 l5 i6 i7 l8).bind fun (t13,l14,i15,i16,l17)=>some (.inl ((IntKind.wrap .i64 (i4 + 1),l14,i15,i16,l17)))) (some (.inl ((IntKind.wrap .i64 (i4 + 1),l5,i6,i7,l8))))) (some (.inr (((l5,i6,i7,l8)))))
def CQ (xa:aL) (i1:Int) (l2:(List Int)):ej→Option (ej⊕Unit):=fun (l3,i4,i5,l6)=>(gF l3 i4 i5 l6).bind fun (i7,l8,l9)=>cond (decide (0 < i7)) ((gE l8 i4 i5 l9).bind fun (i10,t11,l12,i13,i14,l15)=>(aa xa i10).bind fun x16=>(loop (CR i1 l2 x16) (0,l12,i13,i14,l15)).bind fun (l17,i18,i19,l20)=>some (.inl (l17,i18,i19,l20))) (some (.inr ((()))))
def kX (xb:(List Int)) (i1:Int):gA→Option (gA⊕gz):=fun (i2,l3,l4,i5,i6,l7)=>cond (decide (i2 < (xb.length:Int))) ((aa xb i2).bind fun x8=>(dn x8 i1 l3).bind fun (t9,l10)=>(db x8 l4 i5 i6 l7).bind fun (t11,l12,i13,i14,l15)=>some (.inl ((IntKind.wrap .i64 (i2 + 1),l10,l12,i13,i14,l15)))) (some (.inr (((l3,l4,i5,i6,l7)))))
def gL (i1:Int) (l2:(List Int)) (i3:Int) (x4:(List Int)):gA→Option (gA⊕gz):=fun (i5,l6,l7,i8,i9,l10)=>cond (decide (i5 < (x4.length:Int))) ((aa x4 i5).bind fun x11=>(cE (some (i1,l2)) x11).bind fun t12=>cond (!t12) ((dn x11 i3 l6).bind fun (t13,l14)=>cond (t13) ((db x11 l7 i8 i9 l10).bind fun (t15,l16,i17,i18,l19)=>some (.inl ((IntKind.wrap .i64 (i5 + 1),l14,l16,i17,i18,l19)))) (some (.inl ((IntKind.wrap .i64 (i5 + 1),l14,l7,i8,i9,l10))))) (some (.inl ((IntKind.wrap .i64 (i5 + 1),l6,l7,i8,i9,l10))))) (some (.inr (((l6,l7,i8,i9,l10)))))
def oo (xa:aL) (i1:Int) (l2:(List Int)) (i3:Int):gz→Option (gz⊕(List Int)):=fun (l4,l5,i6,i7,l8)=>(gF l5 i6 i7 l8).bind fun (i9,l10,l11)=>cond (decide (0 < i9)) ((gE l10 i6 i7 l11).bind fun (i12,t13,l14,i15,i16,l17)=>(aa xa i12).bind fun x18=>(loop (gL i1 l2 i3 x18) (0,l4,l14,i15,i16,l17)).bind fun (l19,l20,i21,i22,l23)=>some (.inl (l19,l20,i21,i22,l23))) (some (.inr (l4)))
def lN (xa:aL) (xb:(List Int)) (xc:(List Int)):Option ((Unit⊕bA)) :=
 (fA (xa.length:Int)).bind fun o=>match o with | .inl i1=>((loop (CW xc) 0).bind fun ()=>(fA (xa.length:Int)).bind fun o=>match o with | .inl i2=>(loop (CY xb) (0,[],0,0,none)).bind fun (l3,i4,i5,l6)=>(loop (CV xa) (l3,i4,i5,l6)).bind fun ()=>some (.inl ()) | .inr (i7,i8,l9)=>(loop (C4 xb i8) (0,l9,[],0,0,none)).bind fun (l10,l11,i12,i13,l14)=>(loop (CX xa i8) (l10,l11,i12,i13,l14)).bind fun l15=>some (.inr (i8,l15))) | .inr (i16,i17,l18)=>(loop (la xc i17) (0,l18)).bind fun l19=>(fA (xa.length:Int)).bind fun o=>match o with | .inl i20=>(loop (CZ xb) (0,[],0,0,none)).bind fun (l21,i22,i23,l24)=>(loop (CQ xa i17 l19) (l21,i22,i23,l24)).bind fun ()=>some (.inl ()) | .inr (i25,i26,l27)=>(loop (kX xb i26) (0,l27,[],0,0,none)).bind fun (l28,l29,i30,i31,l32)=>(loop (oo xa i17 l19 i26) (l28,l29,i30,i31,l32)).bind fun l33=>some (.inr (i26,l33))
def Pp:Hn Tryz.prog := .c2 rO [] (.jn [] ⟨[],[]⟩ [] (.lp ⟨[kdI 28],[]⟩ (.tw 29 (.cl kz [] .nil) .nil)) (.c2 rO [] (.jn [] ⟨[],[bkC 0 149 [.own 3 Yq2,.dat Yq2,.dat Yq2,.od (.obj 0 Yq4)]]⟩ [0] (.lp ⟨[kdI 44],[bkC 0 149 [.own 3 Yq2,.dat Yq2,.dat Yq2,.od (.obj 0 Yq4)]]⟩ (.tw 45 (.cl kz [] (.cl gq [] .nil)) .nil)) (.jn [] ⟨[],[]⟩ [0,2,4] (.lp ⟨[],[bkC 0 149 [.own 3 Yq2,.dat Yq2,.dat Yq2,.od (.obj 0 Yq4)]]⟩ (.mc 0 1 11 (.mc 0 2 11 (.cl rD [] (.tw 55 (.cl rM [] (.jn [] ⟨[],[bkC 0 149 [.own 3 Yq2,.dat Yq2,.dat Yq2,.od (.obj 0 Yq4)]]⟩ [29,0,31] (.lp ⟨[kdI 65],[bkC 0 149 [.own 3 Yq2,.dat Yq2,.dat Yq2,.od (.obj 0 Yq4)]]⟩ (.tw 66 (.cl kh [] (.gj 3 ⟨[kdB 77],[]⟩ [] (.two 73 (.cl kz [] .nil) .nil) (.tw 77 (.cl gq [] .nil) .nil))) .nil)) .nil)) .nil))))) .nil)) (.jn [(0,0)] ⟨[],[bkC 0 116 [.is 2 (.any),.own 113 Yq7],bkC 4 149 [.own 3 Yq2,.dat Yq2,.dat Yq2,.od (.obj 0 Yq4)],bkU 6]⟩ [4,1,0] (.lp ⟨[kdI 44],[bkC 0 116 [.is 2 (.any),.own 113 Yq7],bkC 4 149 [.own 3 Yq2,.dat Yq2,.dat Yq2,.od (.obj 0 Yq4)],bkU 6]⟩ (.tw 45 (.cl iM [] (.cl gq [] .nil)) .nil)) (.jn [] ⟨[],[bkC 0 116 [.is 1 (.any),.own 113 Yq7],bkU 6]⟩ [0,4,7,10,12] (.lp ⟨[],[bkC 0 116 [.is 2 (.any),.own 113 Yq7],bkC 4 149 [.own 3 Yq2,.dat Yq2,.dat Yq2,.od (.obj 0 Yq4)],bkU 6]⟩ (.mc 4 1 22 (.mc 4 2 22 (.cl rD [] (.tw 55 (.cl rM [] (.jn [] ⟨[],[bkC 0 116 [.is 2 (.any),.own 113 Yq7],bkC 4 149 [.own 3 Yq2,.dat Yq2,.dat Yq2,.od (.obj 0 Yq4)],bkU 6]⟩ [40,4,42,0,15] (.lp ⟨[kdI 65],[bkC 0 116 [.is 2 (.any),.own 113 Yq7],bkC 4 149 [.own 3 Yq2,.dat Yq2,.dat Yq2,.od (.obj 0 Yq4)],bkU 6]⟩ (.tw 66 (.cl kh [] (.two 73 (.cl iM [] (.tw 77 (.cl gq [] .nil) .nil)) .nil)) .nil)) .nil)) .nil))))) (.pl (.pl .nil)))))) (.jn [(0,0)] ⟨[],[bkC 0 116 [.is 1 (.any),.own 113 Yq7],bkU 4]⟩ [1,0] (.lp ⟨[kdI 28],[bkC 0 116 [.is 1 (.any),.own 113 Yq7],bkU 4]⟩ (.tw 29 (.cl iM [] .nil) .nil)) (.c2 rO [] (.jn [] ⟨[],[bkC 8 149 [.own 3 Yq2,.dat Yq2,.dat Yq2,.od (.obj 0 Yq4)]]⟩ [8] (.lp ⟨[kdI 44],[bkC 8 149 [.own 3 Yq2,.dat Yq2,.dat Yq2,.od (.obj 0 Yq4)]]⟩ (.tw 45 (.cl kz [] (.cl gq [] .nil)) .nil)) (.jn [] ⟨[],[]⟩ [8,10,12] (.lp ⟨[],[bkC 8 149 [.own 3 Yq2,.dat Yq2,.dat Yq2,.od (.obj 0 Yq4)]]⟩ (.mc 8 1 19 (.mc 8 2 19 (.cl rD [] (.tw 55 (.cl rM [] (.jn [] ⟨[],[bkC 8 149 [.own 3 Yq2,.dat Yq2,.dat Yq2,.od (.obj 0 Yq4)]]⟩ [37,8,39] (.lp ⟨[kdI 65],[bkC 8 149 [.own 3 Yq2,.dat Yq2,.dat Yq2,.od (.obj 0 Yq4)]]⟩ (.tw 66 (.cl kh [5,0] (.gj 3 ⟨[kdB 77],[]⟩ [] (.two 73 (.cl kz [] .nil) .nil) (.tw 77 (.cl gq [] .nil) .nil))) .nil)) .nil)) .nil))))) .nil)) (.jn [(8,0)] ⟨[],[bkC 8 116 [.is 2 (.any),.own 113 Yq7],bkC 12 149 [.own 3 Yq2,.dat Yq2,.dat Yq2,.od (.obj 0 Yq4)],bkU 14]⟩ [12,9,8] (.lp ⟨[kdI 44],[bkC 8 116 [.is 2 (.any),.own 113 Yq7],bkC 12 149 [.own 3 Yq2,.dat Yq2,.dat Yq2,.od (.obj 0 Yq4)],bkU 14]⟩ (.tw 45 (.cl iM [] (.cl gq [] .nil)) .nil)) (.jn [] ⟨[],[bkC 8 116 [.is 1 (.any),.own 113 Yq7],bkU 14]⟩ [8,12,15,18,20] (.lp ⟨[],[bkC 8 116 [.is 2 (.any),.own 113 Yq7],bkC 12 149 [.own 3 Yq2,.dat Yq2,.dat Yq2,.od (.obj 0 Yq4)],bkU 14]⟩ (.mc 12 1 30 (.mc 12 2 30 (.cl rD [] (.tw 55 (.cl rM [] (.jn [] ⟨[],[bkC 8 116 [.is 2 (.any),.own 113 Yq7],bkC 12 149 [.own 3 Yq2,.dat Yq2,.dat Yq2,.od (.obj 0 Yq4)],bkU 14]⟩ [48,12,50,8,23] (.lp ⟨[kdI 65],[bkC 8 116 [.is 2 (.any),.own 113 Yq7],bkC 12 149 [.own 3 Yq2,.dat Yq2,.dat Yq2,.od (.obj 0 Yq4)],bkU 14]⟩ (.tw 66 (.cl kh [5,0] (.two 73 (.cl iM [] (.tw 77 (.cl gq [] .nil) .nil)) .nil)) .nil)) .nil)) .nil))))) (.pl (.pl .nil))))))
def PI:Spec:=⟨52,⟨[(0,.dat (.sl (.sl Yq2))),(1,.dat (.sl Yq2)),(2,.dat (.sl Yq2))],[]⟩,[⟨[(0,.nilp)],[]⟩,⟨[(0,.ptr 0 0)],[bkN 116 [.dat Yq2,.own 113 Yq7]]⟩],fun x=>lN x.1 x.2.1 x.2.2⟩
def B8:OkSpec Tryz.prog:=⟨PI,ab func52 Pp (by kernel_rfl) (by kernel_rfl),call52⟩

def nP (xa:Int):Option Int :=
 some (IntKind.wrap .i64 ((BitVec.ofInt (IntKind.bits .i64) (IntKind.wrap .i64 (IntKind.wrap .u64 ((IntKind.wrap .u64 ((IntKind.wrap .u64 ((IntKind.wrap .u64 ((BitVec.ofInt (IntKind.bits .u64) (IntKind.wrap .u64 ((Int.fdiv (IntKind.wrap .u64 ((IntKind.wrap .u64 ((BitVec.ofInt (IntKind.bits .u64) (Int.fdiv (IntKind.wrap .u64 ((IntKind.wrap .u64 ((BitVec.ofInt (IntKind.bits .u64) (Int.fdiv xa (2 ^ (min (Int.toNat 1) (IntKind.bits .u64)))) &&& BitVec.ofInt (IntKind.bits .u64) 6148914691236517205).toNat:Int)) + (IntKind.wrap .u64 ((BitVec.ofInt (IntKind.bits .u64) xa &&& BitVec.ofInt (IntKind.bits .u64) 6148914691236517205).toNat:Int)))) (2 ^ (min (Int.toNat 2) (IntKind.bits .u64)))) &&& BitVec.ofInt (IntKind.bits .u64) 3689348814741910323).toNat:Int)) + (IntKind.wrap .u64 ((BitVec.ofInt (IntKind.bits .u64) (IntKind.wrap .u64 ((IntKind.wrap .u64 ((BitVec.ofInt (IntKind.bits .u64) (Int.fdiv xa (2 ^ (min (Int.toNat 1) (IntKind.bits .u64)))) &&& BitVec.ofInt (IntKind.bits .u64) 6148914691236517205).toNat:Int)) + (IntKind.wrap .u64 ((BitVec.ofInt (IntKind.bits .u64) xa &&& BitVec.ofInt (IntKind.bits .u64) 6148914691236517205).toNat:Int)))) &&& BitVec.ofInt (IntKind.bits .u64) 3689348814741910323).toNat:Int)))) (2 ^ (min (Int.toNat 4) (IntKind.bits .u64)))) + (IntKind.wrap .u64 ((IntKind.wrap .u64 ((BitVec.ofInt (IntKind.bits .u64) (Int.fdiv (IntKind.wrap .u64 ((IntKind.wrap .u64 ((BitVec.ofInt (IntKind.bits .u64) (Int.fdiv xa (2 ^ (min (Int.toNat 1) (IntKind.bits .u64)))) &&& BitVec.ofInt (IntKind.bits .u64) 6148914691236517205).toNat:Int)) + (IntKind.wrap .u64 ((BitVec.ofInt (IntKind.bits .u64) xa &&& BitVec.ofInt (IntKind.bits .u64) 6148914691236517205).toNat:Int)))) (2 ^ (min (Int.toNat 2) (IntKind.bits .u64)))) &&& BitVec.ofInt (IntKind.bits .u64) 3689348814741910323).toNat:Int)) + (IntKind.wrap .u64 ((BitVec.ofInt (IntKind.bits .u64) (IntKind.wrap .u64 ((IntKind.wrap .u64 ((BitVec.ofInt (IntKind.bits .u64) (Int.fdiv xa (2 ^ (min (Int.toNat 1) (IntKind.bits .u64)))) &&& BitVec.ofInt (IntKind.bits .u64) 6148914691236517205).toNat:Int)) + (IntKind.wrap .u64 ((BitVec.ofInt (IntKind.bits .u64) xa &&& BitVec.ofInt (IntKind.bits .u64) 6148914691236517205).toNat:Int)))) &&& BitVec.ofInt (IntKind.bits .u64) 3689348814741910323).toNat:Int)))))) &&& BitVec.ofInt (IntKind.bits .u64) 1085102592571150095).toNat:Int)) + (Int.fdiv (IntKind.wrap .u64 ((BitVec.ofInt (IntKind.bits .u64) (IntKind.wrap .u64 ((Int.fdiv (IntKind.wrap .u64 ((IntKind.wrap .u64 ((BitVec.ofInt (IntKind.bits .u64) (Int.fdiv (IntKind.wrap .u64 ((IntKind.wrap .u64 ((BitVec.ofInt (IntKind.bits .u64) (Int.fdiv xa (2 ^ (min (Int.toNat 1) (IntKind.bits .u64)))) &&& BitVec.ofInt (IntKind.bits .u64) 6148914691236517205).toNat:Int)) + (IntKind.wrap .u64 ((BitVec.ofInt (IntKind.bits .u64) xa &&& BitVec.ofInt (IntKind.bits .u64) 6148914691236517205).toNat:Int)))) (2 ^ (min (Int.toNat 2) (IntKind.bits .u64)))) &&& BitVec.ofInt (IntKind.bits .u64) 3689348814741910323).toNat:Int)) + (IntKind.wrap .u64 ((BitVec.ofInt (IntKind.bits .u64) (IntKind.wrap .u64 ((IntKind.wrap .u64 ((BitVec.ofInt (IntKind.bits .u64) (Int.fdiv xa (2 ^ (min (Int.toNat 1) (IntKind.bits .u64)))) &&& BitVec.ofInt (IntKind.bits .u64) 6148914691236517205).toNat:Int)) + (IntKind.wrap .u64 ((BitVec.ofInt (IntKind.bits .u64) xa &&& BitVec.ofInt (IntKind.bits .u64) 6148914691236517205).toNat:Int)))) &&& BitVec.ofInt (IntKind.bits .u64) 3689348814741910323).toNat:Int)))) (2 ^ (min (Int.toNat 4) (IntKind.bits .u64)))) + (IntKind.wrap .u64 ((IntKind.wrap .u64 ((BitVec.ofInt (IntKind.bits .u64) (Int.fdiv (IntKind.wrap .u64 ((IntKind.wrap .u64 ((BitVec.ofInt (IntKind.bits .u64) (Int.fdiv xa (2 ^ (min (Int.toNat 1) (IntKind.bits .u64)))) &&& BitVec.ofInt (IntKind.bits .u64) 6148914691236517205).toNat:Int)) + (IntKind.wrap .u64 ((BitVec.ofInt (IntKind.bits .u64) xa &&& BitVec.ofInt (IntKind.bits .u64) 6148914691236517205).toNat:Int)))) (2 ^ (min (Int.toNat 2) (IntKind.bits .u64)))) &&& BitVec.ofInt (IntKind.bits .u64) 3689348814741910323).toNat:Int)) + (IntKind.wrap .u64 ((BitVec.ofInt (IntKind.bits .u64) (IntKind.wrap .u64 ((IntKind.wrap .u64 ((BitVec.ofInt (IntKind.bits .u64) (Int.fdiv xa (2 ^ (min (Int.toNat 1) (IntKind.bits .u64)))) &&& BitVec.ofInt (IntKind.bits .u64) 6148914691236517205).toNat:Int)) + (IntKind.wrap .u64 ((BitVec.ofInt (IntKind.bits .u64) xa &&& BitVec.ofInt (IntKind.bits .u64) 6148914691236517205).toNat:Int)))) &&& BitVec.ofInt (IntKind.bits .u64) 3689348814741910323).toNat:Int)))))) &&& BitVec.ofInt (IntKind.bits .u64) 1085102592571150095).toNat:Int)) (2 ^ (min (Int.toNat 8) (IntKind.bits .u64)))))) + (Int.fdiv (IntKind.wrap .u64 ((IntKind.wrap .u64 ((BitVec.ofInt (IntKind.bits .u64) (IntKind.wrap .u64 ((Int.fdiv (IntKind.wrap .u64 ((IntKind.wrap .u64 ((BitVec.ofInt (IntKind.bits .u64) (Int.fdiv (IntKind.wrap .u64 ((IntKind.wrap .u64 ((BitVec.ofInt (IntKind.bits .u64) (Int.fdiv xa (2 ^ (min (Int.toNat 1) (IntKind.bits .u64)))) &&& BitVec.ofInt (IntKind.bits .u64) 6148914691236517205).toNat:Int)) + (IntKind.wrap .u64 ((BitVec.ofInt (IntKind.bits .u64) xa &&& BitVec.ofInt (IntKind.bits .u64) 6148914691236517205).toNat:Int)))) (2 ^ (min (Int.toNat 2) (IntKind.bits .u64)))) &&& BitVec.ofInt (IntKind.bits .u64) 3689348814741910323).toNat:Int)) + (IntKind.wrap .u64 ((BitVec.ofInt (IntKind.bits .u64) (IntKind.wrap .u64 ((IntKind.wrap .u64 ((BitVec.ofInt (IntKind.bits .u64) (Int.fdiv xa (2 ^ (min (Int.toNat 1) (IntKind.bits .u64)))) &&& BitVec.ofInt (IntKind.bits .u64) 6148914691236517205).toNat:Int)) + (IntKind.wrap .u64 ((BitVec.ofInt (IntKind.bits .u64) xa &&& BitVec.ofInt (IntKind.bits .u64) 6148914691236517205).toNat:Int)))) &&& BitVec.ofInt (IntKind.bits .u64) 3689348814741910323).toNat:Int)))) (2 ^ (min (Int.toNat 4) (IntKind.bits .u64)))) + (IntKind.wrap .u64 ((IntKind.wrap .u64 ((BitVec.ofInt (IntKind.bits .u64) (Int.fdiv (IntKind.wrap .u64 ((IntKind.wrap .u64 ((BitVec.ofInt (IntKind.bits .u64) (Int.fdiv xa (2 ^ (min (Int.toNat 1) (IntKind.bits .u64)))) &&& BitVec.ofInt (IntKind.bits .u64) 6148914691236517205).toNat:Int)) + (IntKind.wrap .u64 ((BitVec.ofInt (IntKind.bits .u64) xa &&& BitVec.ofInt (IntKind.bits .u64) 6148914691236517205).toNat:Int)))) (2 ^ (min (Int.toNat 2) (IntKind.bits .u64)))) &&& BitVec.ofInt (IntKind.bits .u64) 3689348814741910323).toNat:Int)) + (IntKind.wrap .u64 ((BitVec.ofInt (IntKind.bits .u64) (IntKind.wrap .u64 ((IntKind.wrap .u64 ((BitVec.ofInt (IntKind.bits .u64) (Int.fdiv xa (2 ^ (min (Int.toNat 1) (IntKind.bits .u64)))) &&& BitVec.ofInt (IntKind.bits .u64) 6148914691236517205).toNat:Int)) + (IntKind.wrap .u64 ((BitVec.ofInt (IntKind.bits .u64) xa &&& BitVec.ofInt (IntKind.bits .u64) 6148914691236517205).toNat:Int)))) &&& BitVec.ofInt (IntKind.bits .u64) 3689348814741910323).toNat:Int)))))) &&& BitVec.ofInt (IntKind.bits .u64) 1085102592571150095).toNat:Int)) + (Int.fdiv (IntKind.wrap .u64 ((BitVec.ofInt (IntKind.bits .u64) (IntKind.wrap .u64 ((Int.fdiv (IntKind.wrap .u64 ((IntKind.wrap .u64 ((BitVec.ofInt (IntKind.bits .u64) (Int.fdiv (IntKind.wrap .u64 ((IntKind.wrap .u64 ((BitVec.ofInt (IntKind.bits .u64) (Int.fdiv xa (2 ^ (min (Int.toNat 1) (IntKind.bits .u64)))) &&& BitVec.ofInt (IntKind.bits .u64) 6148914691236517205).toNat:Int)) + (IntKind.wrap .u64 ((BitVec.ofInt (IntKind.bits .u64) xa &&& BitVec.ofInt (IntKind.bits .u64) 6148914691236517205).toNat:Int)))) (2 ^ (min (Int.toNat 2) (IntKind.bits .u64)))) &&& BitVec.ofInt (IntKind.bits .u64) 3689348814741910323).toNat:Int)) + (IntKind.wrap .u64 ((BitVec.ofInt (IntKind.bits .u64) (IntKind.wrap .u64 ((IntKind.wrap .u64 ((BitVec.ofInt (IntKind.bits .u64) (Int.fdiv xa (2 ^ (min (Int.toNat 1) (IntKind.bits .u64)))) &&& BitVec.ofInt (IntKind.bits .u64) 6148914691236517205).toNat:Int)) + (IntKind.wrap .u64 ((BitVec.ofInt (IntKind.bits .u64) xa &&& BitVec.ofInt (IntKind.bits .u64) 6148914691236517205).toNat:Int)))) &&& BitVec.ofInt (IntKind.bits .u64) 3689348814741910323).toNat:Int)))) (2 ^ (min (Int.toNat 4) (IntKind.bits .u64)))) + (IntKind.wrap .u64 ((IntKind.wrap .u64 ((BitVec.ofInt (IntKind.bits .u64) (Int.fdiv (IntKind.wrap .u64 ((IntKind.wrap .u64 ((BitVec.ofInt (IntKind.bits .u64) (Int.fdiv xa (2 ^ (min (Int.toNat 1) (IntKind.bits .u64)))) &&& BitVec.ofInt (IntKind.bits .u64) 6148914691236517205).toNat:Int)) + (IntKind.wrap .u64 ((BitVec.ofInt (IntKind.bits .u64) xa &&& BitVec.ofInt (IntKind.bits .u64) 6148914691236517205).toNat:Int)))) (2 ^ (min (Int.toNat 2) (IntKind.bits .u64)))) &&& BitVec.ofInt (IntKind.bits .u64) 3689348814741910323).toNat:Int)) + (IntKind.wrap .u64 ((BitVec.ofInt (IntKind.bits .u64) (IntKind.wrap .u64 ((IntKind.wrap .u64 ((BitVec.ofInt (IntKind.bits .u64) (Int.fdiv xa (2 ^ (min (Int.toNat 1) (IntKind.bits .u64)))) &&& BitVec.ofInt (IntKind.bits .u64) 6148914691236517205).toNat:Int)) + (IntKind.wrap .u64 ((BitVec.ofInt (IntKind.bits .u64) xa &&& BitVec.ofInt (IntKind.bits .u64) 6148914691236517205).toNat:Int)))) &&& BitVec.ofInt (IntKind.bits .u64) 3689348814741910323).toNat:Int)))))) &&& BitVec.ofInt (IntKind.bits .u64) 1085102592571150095).toNat:Int)) (2 ^ (min (Int.toNat 8) (IntKind.bits .u64)))))) (2 ^ (min (Int.toNat 16) (IntKind.bits .u64)))))) + (Int.fdiv (IntKind.wrap .u64 ((IntKind.wrap .u64 ((IntKind.wrap .u64 ((BitVec.ofInt (IntKind.bits .u64) (IntKind.wrap .u64 ((Int.fdiv (IntKind.wrap .u64 ((IntKind.wrap .u64 ((BitVec.ofInt (IntKind.bits .u64) (Int.fdiv (IntKind.wrap .u64 ((IntKind.wrap .u64 ((BitVec.ofInt (IntKind.bits .u64) (Int.fdiv xa (2 ^ (min (Int.toNat 1) (IntKind.bits .u64)))) &&& BitVec.ofInt (IntKind.bits .u64) 6148914691236517205).toNat:Int)) + (IntKind.wrap .u64 ((BitVec.ofInt (IntKind.bits .u64) xa &&& BitVec.ofInt (IntKind.bits .u64) 6148914691236517205).toNat:Int)))) (2 ^ (min (Int.toNat 2) (IntKind.bits .u64)))) &&& BitVec.ofInt (IntKind.bits .u64) 3689348814741910323).toNat:Int)) + (IntKind.wrap .u64 ((BitVec.ofInt (IntKind.bits .u64) (IntKind.wrap .u64 ((IntKind.wrap .u64 ((BitVec.ofInt (IntKind.bits .u64) (Int.fdiv xa (2 ^ (min (Int.toNat 1) (IntKind.bits .u64)))) &&& BitVec.ofInt (IntKind.bits .u64) 6148914691236517205).toNat:Int)) + (IntKind.wrap .u64 ((BitVec.ofInt (IntKind.bits .u64) xa &&& BitVec.ofInt (IntKind.bits .u64) 6148914691236517205).toNat:Int)))) &&& BitVec.ofInt (IntKind.bits .u64) 3689348814741910323).toNat:Int)))) (2 ^ (min (Int.toNat 4) (IntKind.bits .u64)))) + (IntKind.wrap .u64 ((IntKind.wrap .u64 ((BitVec.ofInt (IntKind.bits .u64) (Int.fdiv (IntKind.wrap .u64 ((IntKind.wrap .u64 ((BitVec.ofInt (IntKind.bits .u64) (Int.fdiv xa (2 ^ (min (Int.toNat 1) (IntKind.bits .u64)))) &&& BitVec.ofInt (IntKind.bits .u64) 6148914691236517205).toNat:Int)) + (IntKind.wrap .u64 ((BitVec.ofInt (IntKind.bits .u64) xa &&& BitVec.ofInt (IntKind.bits .u64) 6148914691236517205).toNat:Int)))) (2 ^ (min (Int.toNat 2) (IntKind.bits .u64)))) &&& BitVec.ofInt (IntKind.bits .u64) 3689348814741910323).toNat:Int)) + (IntKind.wrap .u64 ((BitVec.ofInt (IntKind.bits .u64) (IntKind.wrap .u64 ((IntKind.wrap .u64 ((BitVec.ofInt (IntKind.bits .u64) (Int.fdiv xa (2 ^ (min (Int.toNat 1) (IntKind.bits .u64)))) &&& BitVec.ofInt (IntKind.bits .u64) 6148914691236517205).toNat:Int)) + (IntKind.wrap .u64 ((BitVec.ofInt (IntKind.bits .u64) xa &&& BitVec.ofInt (IntKind.bits .u64) 6148914691236517205).toNat:Int)))) &&& BitVec.ofInt (IntKind.bits .u64) 3689348814741910323).toNat:Int)))))) &&& BitVec.ofInt (IntKind.bits .u64) 1085102592571150095).toNat:Int)) + (Int.fdiv (IntKind.wrap .u64 ((BitVec.ofInt (IntKind.bits .u64) (IntKind.wrap .u64 ((Int.fdiv (IntKind.wrap .u64 ((IntKind.wrap .u64 ((BitVec.ofInt (IntKind.bits .u64) (Int.fdiv (IntKind.wrap .u64 ((IntKind.wrap .u64 ((BitVec.ofInt (IntKind.bits .u64) (Int.fdiv xa (2 ^ (min (Int.toNat 1) (IntKind.bits .u64)))) &&& BitVec.ofInt (IntKind.bits .u64) 6148914691236517205).toNat:Int)) + (IntKind.wrap .u64 ((BitVec.ofInt (IntKind.bits .u64) xa &&& BitVec.ofInt (IntKind.bits .u64) 6148914691236517205).toNat:Int)))) (2 ^ (min (Int.toNat 2) (IntKind.bits .u64)))) &&& BitVec.ofInt (IntKind.bits .u64) 3689348814741910323).toNat:Int)) + (IntKind.wrap .u64 ((BitVec.ofInt (IntKind.bits .u64) (IntKind.wrap .u64 ((IntKind.wrap .u64 ((BitVec.ofInt (IntKind.bits .u64) (Int.fdiv xa (2 ^ (min (Int.toNat 1) (IntKind.bits .u64)))) &&& BitVec.ofInt (IntKind.bits .u64) 6148914691236517205).toNat:Int)) + (IntKind.wrap .u64 ((BitVec.ofInt (IntKind.bits .u64) xa &&& BitVec.ofInt (IntKind.bits .u64) 6148914691236517205).toNat:Int)))) &&& BitVec.ofInt (IntKind.bits .u64) 3689348814741910323).toNat:Int)))) (2 ^ (min (Int.toNat 4) (IntKind.bits .u64)))) + (IntKind.wrap .u64 ((IntKind.wrap .u64 ((BitVec.ofInt (IntKind.bits .u64) (Int.fdiv (IntKind.wrap .u64 ((IntKind.wrap .u64 ((BitVec.ofInt (IntKind.bits .u64) (Int.fdiv xa (2 ^ (min (Int.toNat 1) (IntKind.bits .u64)))) &&& BitVec.ofInt (IntKind.bits .u64) 6148914691236517205).toNat:Int)) + (IntKind.wrap .u64 ((BitVec.ofInt (IntKind.bits .u64) xa &&& BitVec.ofInt (IntKind.bits .u64) 6148914691236517205).toNat:Int)))) (2 ^ (min (Int.toNat 2) (IntKind.bits .u64)))) &&& BitVec.ofInt (IntKind.bits .u64) 3689348814741910323).toNat:Int)) + (IntKind.wrap .u64 ((BitVec.ofInt (IntKind.bits .u64) (IntKind.wrap .u64 ((IntKind.wrap .u64 ((BitVec.ofInt (IntKind.bits .u64) (Int.fdiv xa (2 ^ (min (Int.toNat 1) (IntKind.bits .u64)))) &&& BitVec.ofInt (IntKind.bits .u64) 6148914691236517205).toNat:Int)) + (IntKind.wrap .u64 ((BitVec.ofInt (IntKind.bits .u64) xa &&& BitVec.ofInt (IntKind.bits .u64) 6148914691236517205).toNat:Int)))) &&& BitVec.ofInt (IntKind.bits .u64) 3689348814741910323).toNat:Int)))))) &&& BitVec.ofInt (IntKind.bits .u64) 1085102592571150095).toNat:Int)) (2 ^ (min (Int.toNat 8) (IntKind.bits .u64)))))) + (Int.fdiv (IntKind.wrap .u64 ((IntKind.wrap .u64 ((BitVec.ofInt (IntKind.bits .u64) (IntKind.wrap .u64 ((Int.fdiv (IntKind.wrap .u64 ((IntKind.wrap .u64 ((BitVec.ofInt (IntKind.bits .u64) (Int.fdiv (IntKind.wrap .u64 ((IntKind.wrap .u64 ((BitVec.ofInt (IntKind.bits .u64) (Int.fdiv xa (2 ^ (min (Int.toNat 1) (IntKind.bits .u64)))) &&& BitVec.ofInt (IntKind.bits .u64) 6148914691236517205).toNat:Int)) + (IntKind.wrap .u64 ((BitVec.ofInt (IntKind.bits .u64) xa &&& BitVec.ofInt (IntKind.bits .u64) 6148914691236517205).toNat:Int)))) (2 ^ (min (Int.toNat 2) (IntKind.bits .u64)))) &&& BitVec.ofInt (IntKind.bits .u64) 3689348814741910323).toNat:Int)) + (IntKind.wrap .u64 ((BitVec.ofInt (IntKind.bits .u64) (IntKind.wrap .u64 ((IntKind.wrap .u64 ((BitVec.ofInt (IntKind.bits .u64) (Int.fdiv xa (2 ^ (min (Int.toNat 1) (IntKind.bits .u64)))) &&& BitVec.ofInt (IntKind.bits .u64) 6148914691236517205).toNat:Int)) + (IntKind.wrap .u64 ((BitVec.ofInt (IntKind.bits .u64) xa &&& BitVec.ofInt (IntKind.bits .u64) 6148914691236517205).toNat:Int)))) &&& BitVec.ofInt (IntKind.bits .u64) 3689348814741910323).toNat:Int)))) (2 ^ (min (Int.toNat 4) (IntKind.bits .u64)))) + (IntKind.wrap .u64 ((IntKind.wrap .u64 ((BitVec.ofInt (IntKind.bits .u64) (Int.fdiv (IntKind.wrap .u64 ((IntKind.wrap .u64 ((BitVec.ofInt (IntKind.bits .u64) (Int.fdiv xa (2 ^ (min (Int.toNat 1) (IntKind.bits .u64)))) &&& BitVec.ofInt (IntKind.bits .u64) 6148914691236517205).toNat:Int)) + (IntKind.wrap .u64 ((BitVec.ofInt (IntKind.bits .u64) xa &&& BitVec.ofInt (IntKind.bits .u64) 6148914691236517205).toNat:Int)))) (2 ^ (min (Int.toNat 2) (IntKind.bits .u64)))) &&& BitVec.ofInt (IntKind.bits .u64) 3689348814741910323).toNat:Int)) + (IntKind.wrap .u64 ((BitVec.ofInt (IntKind.bits .u64) (IntKind.wrap .u64 ((IntKind.wrap .u64 ((BitVec.ofInt (IntKind.bits .u64) (Int.fdiv xa (2 ^ (min (Int.toNat 1) (IntKind.bits .u64)))) &&& BitVec.ofInt (IntKind.bits .u64) 6148914691236517205).toNat:Int)) + (IntKind.wrap .u64 ((BitVec.ofInt (IntKind.bits .u64) xa &&& BitVec.ofInt (IntKind.bits .u64) 6148914691236517205).toNat:Int)))) &&& BitVec.ofInt (IntKind.bits .u64) 3689348814741910323).toNat:Int)))))) &&& BitVec.ofInt (IntKind.bits .u64) 1085102592571150095).toNat:Int)) + (Int.fdiv (IntKind.wrap .u64 ((BitVec.ofInt (IntKind.bits .u64) (IntKind.wrap .u64 ((Int.fdiv (IntKind.wrap .u64 ((IntKind.wrap .u64 ((BitVec.ofInt (IntKind.bits .u64) (Int.fdiv (IntKind.wrap .u64 ((IntKind.wrap .u64 ((BitVec.ofInt (IntKind.bits .u64) (Int.fdiv xa (2 ^ (min (Int.toNat 1) (IntKind.bits .u64)))) &&& BitVec.ofInt (IntKind.bits .u64) 6148914691236517205).toNat:Int)) + (IntKind.wrap .u64 ((BitVec.ofInt (IntKind.bits .u64) xa &&& BitVec.ofInt (IntKind.bits .u64) 6148914691236517205).toNat:Int)))) (2 ^ (min (Int.toNat 2) (IntKind.bits .u64)))) &&& BitVec.ofInt (IntKind.bits .u64) 3689348814741910323).toNat:Int)) + (IntKind.wrap .u64 ((BitVec.ofInt (IntKind.bits .u64) (IntKind.wrap .u64 ((IntKind.wrap .u64 ((BitVec.ofInt (IntKind.bits .u64) (Int.fdiv xa (2 ^ (min (Int.toNat 1) (IntKind.bits .u64)))) &&& BitVec.ofInt (IntKind.bits .u64) 6148914691236517205).toNat:Int)) + (IntKind.wrap .u64 ((BitVec.ofInt (IntKind.bits .u64) xa &&& BitVec.ofInt (IntKind.bits .u64) 6148914691236517205).toNat:Int)))) &&& BitVec.ofInt (IntKind.bits .u64) 3689348814741910323).toNat:Int)))) (2 ^ (min (Int.toNat 4) (IntKind.bits .u64)))) + (IntKind.wrap .u64 ((IntKind.wrap .u64 ((BitVec.ofInt (IntKind.bits .u64) (Int.fdiv (IntKind.wrap .u64 ((IntKind.wrap .u64 ((BitVec.ofInt (IntKind.bits .u64) (Int.fdiv xa (2 ^ (min (Int.toNat 1) (IntKind.bits .u64)))) &&& BitVec.ofInt (IntKind.bits .u64) 6148914691236517205).toNat:Int)) + (IntKind.wrap .u64 ((BitVec.ofInt (IntKind.bits .u64) xa &&& BitVec.ofInt (IntKind.bits .u64) 6148914691236517205).toNat:Int)))) (2 ^ (min (Int.toNat 2) (IntKind.bits .u64)))) &&& BitVec.ofInt (IntKind.bits .u64) 3689348814741910323).toNat:Int)) + (IntKind.wrap .u64 ((BitVec.ofInt (IntKind.bits .u64) (IntKind.wrap .u64 ((IntKind.wrap .u64 ((BitVec.ofInt (IntKind.bits .u64) (Int.fdiv xa (2 ^ (min (Int.toNat 1) (IntKind.bits .u64)))) &&& BitVec.ofInt (IntKind.bits .u64) 6148914691236517205).toNat:Int)) + (IntKind.wrap .u64 ((BitVec.ofInt (IntKind.bits .u64) xa &&& BitVec.ofInt (IntKind.bits .u64) 6148914691236517205).toNat:Int)))) &&& BitVec.ofInt (IntKind.bits .u64) 3689348814741910323).toNat:Int)))))) &&& BitVec.ofInt (IntKind.bits .u64) 1085102592571150095).toNat:Int)) (2 ^ (min (Int.toNat 8) (IntKind.bits .u64)))))) (2 ^ (min (Int.toNat 16) (IntKind.bits .u64)))))) (2 ^ (min (Int.toNat 32) (IntKind.bits .u64))))))) &&& BitVec.ofInt (IntKind.bits .i64) 127).toNat:Int))
def RZ:Hn Tryz.prog := .nil
def OK:Spec:=⟨73,⟨[(0,.dat Yq7)],[]⟩,[⟨[kdI 0],[]⟩],fun x=>nP x⟩
def Qx:OkSpec Tryz.prog:=⟨OK,ab func73 RZ (by kernel_rfl) (by kernel_rfl),call73⟩
def kP (y1:bA):bp→Option (bp⊕Int):=fun (i2,i3)=>cond (decide (i3 < (y1.2.length:Int))) ((aa y1.2 i3).bind fun x4=>(nP x4).bind fun i5=>some (.inl ((IntKind.wrap .i64 (i2 + i5),IntKind.wrap .i64 (i3 + 1))))) (some (.inr (i2)))
def gK (xa:Tq5):Option Int :=
 cond (xa.isNone) (some (0)) (xa.bind fun y1=>(loop (kP y1) (0,0)).bind fun i2=>some (i2))
def Lg:Hn Tryz.prog := .tw 7 .nil (.jn [] ⟨[kdI 3],[]⟩ [] (.lp ⟨[kdI 3,kdI 13],[]⟩ (.tw 14 (.cl Qx [] .nil) .nil)) .nil)
def KA:Spec:=⟨45,⟨[(0,.dat Yq9)],[]⟩,[⟨[kdI 0],[]⟩],fun x=>gK x⟩
def rf:OkSpec Tryz.prog:=⟨KA,ab func45 Lg (by kernel_rfl) (by kernel_rfl),call45⟩
def ls (p1:(Option gl)) (l2:aL) (z3:List Tq5):cO→Option (cO⊕(List Tq5)):=fun (i4,l5)=>cond (decide (i4 < (z3.length:Int))) ((kR p1 i4).bind fun (l6,l7)=>cond (decide (0 < (l6.length:Int))) ((aa l5 i4).bind fun x8=>(lN l2 l6 l7).bind fun o=>match o with | .inl _=>(aa l5 i4).bind fun _=>(ay i4 i4).bind fun _=>(aa (l5.set i4.toNat none) i4).bind fun x9=>(aa (l5.set i4.toNat none) i4).bind fun _=>(ay i4 i4).bind fun _=>(gK x9).bind fun i10=>(br 2 i10).bind fun _=>some (.inl ((IntKind.wrap .i64 (i4 + 1),(l5.set i4.toNat none).set i4.toNat x9))) | .inr (i11,l12)=>(aa l5 i4).bind fun _=>(ay i4 i4).bind fun _=>(aa (l5.set i4.toNat (some (i11,l12))) i4).bind fun x13=>(aa (l5.set i4.toNat (some (i11,l12))) i4).bind fun _=>(ay i4 i4).bind fun _=>(gK x13).bind fun i14=>(br 2 i14).bind fun _=>some (.inl ((IntKind.wrap .i64 (i4 + 1),(l5.set i4.toNat (some (i11,l12))).set i4.toNat x13)))) (some (.inl ((IntKind.wrap .i64 (i4 + 1),l5))))) (some (.inr (l5)))
def fx (xa:Tq1):Option ((Option cO)) :=
 (gT xa).bind fun p1=>(n5 p1).bind fun i2=>cond (decide (i2=0)) (some ((some (i2,[])))) ((br 2 i2).bind fun _=>(gZ xa).bind fun p3=>(mg p3 i2).bind fun l4=>(mk (xa.2.2.2.1.length:Int) (xa.2.2.2.1.length:Int) none:Option (List Tq5)).bind fun z5=>(loop (ls p1 l4 z5) (0,z5)).bind fun l6=>some ((some (i2,l6))))
def MI:Hn Tryz.prog := .cl Cf [] (.cl BU [] (.tw 21 (.perb 2 3 eX .nil) (.cl oQ3 [] (.mix [([0,2,3,4,5],1)] [] [6,7] [] (.cl B0 [] (.cl BZ [] (.ot (.box 116 (.cons (.dat Yq2) (.one (.row 113 (.dat Yq7))))) (.per 4 5 (.jn [] ⟨[],[bkO 6 (.row 86 (.box 116 (.cons (.dat Yq2) (.one (.row 113 (.dat Yq7))))))]⟩ [6,0] (.lp ⟨[kdI 48],[bkO 6 (.row 86 (.box 116 (.cons (.dat Yq2) (.one (.row 113 (.dat Yq7))))))]⟩ (.tw 49 (.cl Cb [] (.tw 59 (.opp [4] 6 64 (.mix [([0,1,2,3,4,5,6,7],8)] [9] [10] [12,10] (.per 10 11 (.per 12 13 (.c2 B8 [] (.cls 6 16 (.opn 6 75 (.cl rf [19] (.cl oQ3 [] (.cls 6 18 .nil))))) (.cls 6 20 (.opn 6 75 (.cl rf [23] (.cl oQ3 [] (.cls 6 22 .nil)))))))))) .nil)) .nil)) (.per 6 9 (.perb 2 8 eX .nil)))))))))))
def KW:Spec:=⟨24,⟨[(0,.dat Yq1),(1,.nilp)],[]⟩,[⟨[(0,.dat (.ptr eX))],[]⟩],fun x=>fx x⟩
def Ba:OkSpec Tryz.prog:=⟨KW,ab func24 MI (by kernel_rfl) (by kernel_rfl),call24⟩

def eD (xa:(Option cO)):Option Int :=
 cond (xa.isNone) (some (0)) (xa.bind fun y11=>some (y11.1))
def J0:Hn Tryz.prog := .tw 4 .nil .nil
def Lm:Spec:=⟨25,⟨[(0,.dat (.ptr eX))],[]⟩,[⟨[kdI 0],[]⟩],fun x=>eD x⟩
def kc:OkSpec Tryz.prog:=⟨Lm,ab func25 J0 (by kernel_rfl) (by kernel_rfl),call25⟩

def gN (xa:Int):Option Bool :=
 some ((decide (0≤xa))&&(decide (xa≤2147483647)))
def Lo:Hn Tryz.prog := .gp 2 .nil
def Ma:Spec:=⟨90,⟨[kdI 0],[]⟩,[⟨[kdB 0],[]⟩],fun x=>gN x⟩
def BL:OkSpec Tryz.prog:=⟨Ma,ab func90 Lo (by kernel_rfl) (by kernel_rfl),call90⟩
def lK (xa:(List Int)):bA→Option (bA⊕(List Int)):=fun (i1,l2)=>cond (decide (i1 < (xa.length:Int))) ((aa xa i1).bind fun x3=>(gN x3).bind fun t4=>cond (t4) ((app l2 ([x3]:List Int)).bind fun z5=>some (.inl ((IntKind.wrap .i64 (i1 + 1),z5)))) (some (.inl ((IntKind.wrap .i64 (i1 + 1),l2))))) (some (.inr (l2)))
def gU (xa:(List Int)):Option (List Int) :=
 (loop (lK xa) (0,[])).bind fun l1=>(srt l1).bind fun l2=>(gv l2).bind fun l3=>some (l3)
def Lj:Hn Tryz.prog := .jn [] ⟨[],[bkC 0 120 [.own 3 Yq2]]⟩ [0] (.lp ⟨[kdI 10],[bkC 0 120 [.own 3 Yq2]]⟩ (.tw 11 (.cl BL [] (.tw 15 .nil .nil)) .nil)) (.cl qi [] (.cl pw [] .nil))
def Nb:Spec:=⟨88,⟨[(0,.dat (.sl Yq2))],[]⟩,[⟨[(0,.ptr 0 0)],[bkN 120 [.own 3 Yq2]]⟩],fun x=>gU x⟩
def vQ:OkSpec Tryz.prog:=⟨Nb,ab func88 Lj (by kernel_rfl) (by kernel_rfl),call88⟩

def pa (xa:Int):Option ((Int⊕(Int×Int×aE))) :=
 cond (decide (xa < 0)) (some (.inl 2)) (cond (decide (1048576 < xa)) (some (.inl 5)) ((gU ([])).bind fun l26=>some (.inr (0,xa,some l26))))
def M6:Hn Tryz.prog := .tw 5 .nil (.tw 7 .nil (.cl vQ [] (.pl .nil)))
def Nc:Spec:=⟨53,⟨[kdI 0],[]⟩,[⟨[(0,.tup [.nilp,.dat Yq2])],[]⟩,⟨[(0,.tup [.ptr 0 0,.dat Yq2])],[bkN 88 [.dat Yq2,.od (.box 120 (.one (.row 3 (.dat Yq2)))),.nilp]]⟩],fun x=>pa x⟩
def Lw:OkSpec Tryz.prog:=⟨Nc,ab func53 M6 (by kernel_rfl) (by kernel_rfl),call53⟩

def cF (xa:Int):Option ((Unit⊕(Int×aE))) :=
 (pa xa).bind fun o=>match o with | .inl i22=>some (.inl ()) | .inr (i26,i27,l28)=>some (.inr (i27,l28))
def Nh:Hn Tryz.prog := .c2 Lw [] .nil (.pl (.pl .nil))
def Jj:Spec:=⟨27,⟨[kdI 0],[]⟩,[⟨[(0,.nilp)],[]⟩,⟨[(0,.ptr 0 0)],[bkN 88 [.dat Yq2,.od (.box 120 (.one (.row 3 (.dat Yq2)))),.nilp]]⟩],fun x=>cF x⟩
def dF:OkSpec Tryz.prog:=⟨Jj,ab func27 Nh (by kernel_rfl) (by kernel_rfl),call27⟩

def b8 (xa:(Option Tq2)):Option Int :=
 cond (xa.isNone) (some (0)) (xa.bind fun y11=>some (y11.1))
def Jw:Hn Tryz.prog := .tw 4 .nil .nil
def Nz:Spec:=⟨16,⟨[(0,.dat nB)],[]⟩,[⟨[kdI 0],[]⟩],fun x=>b8 x⟩
def dj:OkSpec Tryz.prog:=⟨Nz,ab func16 Jw (by kernel_rfl) (by kernel_rfl),call16⟩

def dN (xa:(Option Tq2)):Option Bool :=
 (cond (!xa.isNone) (xa.bind fun y36=>some (!y36.2.2.isNone)) (some (false))).bind fun t34=>some (t34)
def Mr:Hn Tryz.prog := .gj 5 ⟨[kdB 11],[]⟩ [] (.two 5 .nil .nil) .nil
def Ks:Spec:=⟨42,⟨[(0,.dat nB)],[]⟩,[⟨[kdB 0],[]⟩],fun x=>dN x⟩
def iF:OkSpec Tryz.prog:=⟨Ks,ab func42 Mr (by kernel_rfl) (by kernel_rfl),call42⟩

def gI (xb:Int):Option Bool :=
 (cond (decide (xb < 0)) (some (true)) ((b8 ((none:(Option Tq2)))).bind fun i36=>some (decide (i36≤xb)))).bind fun t32=>cond (t32) (some (false)) ((dN ((none:(Option Tq2)))).bind fun t43=>cond (t43) (none) (none))
def M2:Hn Tryz.prog := .gj 4 ⟨[kdB 13],[]⟩ [] (.two 8 .nil (.cl dj [] .nil)) (.tw 13 .nil (.cl iF [] (.tw 15 .nil .nil)))
def Ka:Spec:=⟨30,⟨[(0,.nilp),kdI 1],[]⟩,[⟨[kdB 0],[]⟩],fun x=>gI x⟩
def ka:OkSpec Tryz.prog:=⟨Ka,ab func30 M2 (by kernel_rfl) (by kernel_rfl),call30⟩
def CD (xc:Int):Int→Option (Int⊕Unit):=fun i1=>(b8 ((none:(Option Tq2)))).bind fun i2=>cond (decide (i1 < (if i2 < xc then i2 else xc))) ((gI i1).bind fun t3=>some (.inl (IntKind.wrap .i64 (i1 + 1)))) (some (.inr ((()))))
def nV (xb:Int) (xc:Int):Option Unit :=
 (loop (CD xc) (if xb < 0 then 0 else xb)).bind fun ()=>some (())
def Lb:Hn Tryz.prog := .jn [] ⟨[],[]⟩ [] (.lp ⟨[kdI 6],[]⟩ (.cl dj [] (.tw 14 (.cl ka [] .nil) .nil))) .nil
def Jx:Spec:=⟨28,⟨[(0,.nilp),kdI 1,kdI 2],[]⟩,[⟨[],[]⟩],fun x=>nV x.1 x.2⟩
def vL:OkSpec Tryz.prog:=⟨Jx,ab func28 Lb (by kernel_rfl) (by kernel_rfl),call28⟩

def eC (qa0:Int) (qa1:aE) (qa2:Tq5):Option ((Bool×aE×Tq5)) :=
 some ((false,qa1,qa2))
def NS:Hn Tryz.prog := .mix [] [0,1,2,3,4,5,6,7,8,9,10,11,12,13,14,15,16] [] [] .nil
def NH:Spec:=⟨29,⟨[(0,.ptr 0 0),(1,.nilp)],[bkN 88 [.is 1 (.dat Yq2),.od (.box 120 (.one (.row 3 (.dat Yq2)))),.od (.box 116 (.cons (.dat Yq2) (.one (.row 113 (.dat Yq7)))))],bkM]⟩,[⟨[kdB 0],[bkC 0 88 [.is 1 (.any),.od (.box 120 (.one (.row 3 (.dat Yq2)))),.od (.box 116 (.cons (.dat Yq2) (.one (.row 113 (.dat Yq7)))))],bkU 1]⟩],fun x=>eC x.1 x.2.1 x.2.2⟩
def fU:OkSpec Tryz.prog:=⟨NH,ab func29 NS (by kernel_rfl) (by kernel_rfl),call29⟩

def oK (xa:Int):Option Bool :=
 some (!decide (xa=xa))
def LE:Hn Tryz.prog := .nil
def K9:Spec:=⟨162,⟨[kdI 0],[]⟩,[⟨[kdB 0],[]⟩],fun x=>oK x⟩
def BC:OkSpec Tryz.prog:=⟨K9,ab func162 LE (by kernel_rfl) (by kernel_rfl),call162⟩

def oP (xa:Int) (xb:Int):Option Bool :=
 (oK xa).bind fun t27=>(cond (t27) ((oK xb).bind fun t42=>some (!t42)) (some (false))).bind fun t38=>some (t38||(decide (xa < xb)))
def J7:Hn Tryz.prog := .cl BC [] (.gj 3 ⟨[kdB 11],[]⟩ [] (.two 7 (.cl BC [] .nil) .nil) (.wt 12 (.gp 3 .nil)))
def N3:Spec:=⟨130,⟨[kdI 0,kdI 1],[]⟩,[⟨[kdB 0],[]⟩],fun x=>oP x.1 x.2⟩
def Km:OkSpec Tryz.prog:=⟨N3,ab func130 J7 (by kernel_rfl) (by kernel_rfl),call130⟩

def n9 (xa:Int):Option Bool :=
 some (!decide (xa=xa))
def LI:Hn Tryz.prog := .nil
def Kb:Spec:=⟨148,⟨[kdI 0],[]⟩,[⟨[kdB 0],[]⟩],fun x=>n9 x⟩
def BG:OkSpec Tryz.prog:=⟨Kb,ab func148 LI (by kernel_rfl) (by kernel_rfl),call148⟩
def sb (xa:(List Int)) (xb:Int):bp→Option (bp⊕Int):=fun (i1,i2)=>cond (decide (i1 < i2)) ((aa xa (IntKind.wrap .i64 (Int.fdiv (IntKind.wrap .u64 (IntKind.wrap .i64 (i1 + i2))) (2 ^ (min (Int.toNat 1) (IntKind.bits .u64)))))).bind fun x3=>(oP x3 xb).bind fun t4=>cond (t4) (some (.inl ((IntKind.wrap .i64 ((IntKind.wrap .i64 (Int.fdiv (IntKind.wrap .u64 (IntKind.wrap .i64 (i1 + i2))) (2 ^ (min (Int.toNat 1) (IntKind.bits .u64))))) + 1),i2)))) (some (.inl ((i1,IntKind.wrap .i64 (Int.fdiv (IntKind.wrap .u64 (IntKind.wrap .i64 (i1 + i2))) (2 ^ (min (Int.toNat 1) (IntKind.bits .u64))))))))) (some (.inr (i1)))
def nN (xa:(List Int)) (xb:Int):Option ba :=
 (loop (sb xa xb) ((0,(xa.length:Int)))).bind fun i1=>(cond (decide (i1 < (xa.length:Int))) ((aa xa i1).bind fun x2=>(cond (decide (x2=xb)) (some (true)) ((aa xa i1).bind fun x3=>(n9 x3).bind fun t4=>(cond (t4) ((n9 xb).bind fun t5=>some (t5)) (some (false))).bind fun t6=>some (t6))).bind fun t7=>some (t7)) (some (false))).bind fun t8=>some ((i1,t8))
def JJ:Hn Tryz.prog := .jn [] ⟨[kdI 7],[]⟩ [] (.lp ⟨[kdI 7,kdI 8],[]⟩ (.tw 15 (.cl Km [] (.tw 27 .nil .nil)) .nil)) (.gj 17 ⟨[kdB 53],[]⟩ [] (.two 35 (.wt 42 (.gj 9 ⟨[kdB 52],[]⟩ [] (.two 42 .nil (.cl BG [] (.wt 48 (.gj 2 ⟨[kdB 51],[]⟩ [] (.two 48 (.cl BG [] .nil) .nil) .nil)))) .nil)) .nil) .nil)
def Nf:Spec:=⟨104,⟨[(0,.dat (.sl Yq2)),kdI 1],[]⟩,[⟨[(0,.tup [.dat Yq2,.dat .bool])],[]⟩],fun x=>nN x.1 x.2⟩
def Mn:OkSpec Tryz.prog:=⟨Nf,ab func104 JJ (by kernel_rfl) (by kernel_rfl),call104⟩

def bQ (xa:aE) (xb:Int):Option Int :=
 cond (xa.isNone) (some (0)) (xa.bind fun y21=>(nN y21 xb).bind fun (i33,t34)=>some (i33))
def JZ:Hn Tryz.prog := .tw 8 .nil (.cl Mn [] .nil)
def Ms:Spec:=⟨72,⟨[(0,.dat (.ptr (.one (.sl Yq2)))),kdI 1],[]⟩,[⟨[kdI 0],[]⟩],fun x=>bQ x.1 x.2⟩
def cW:OkSpec Tryz.prog:=⟨Ms,ab func72 JZ (by kernel_rfl) (by kernel_rfl),call72⟩

def lq (xa:aE):Option Int :=
 cond (xa.isNone) (some (0)) (xa.bind fun y14=>some (y14.length:Int))
def Jk:Hn Tryz.prog := .tw 4 .nil .nil
def KZ:Spec:=⟨46,⟨[(0,.dat (.ptr (.one (.sl Yq2))))],[]⟩,[⟨[kdI 0],[]⟩],fun x=>lq x⟩
def BN:OkSpec Tryz.prog:=⟨KZ,ab func46 Jk (by kernel_rfl) (by kernel_rfl),call46⟩

def bv (xa:aE) (xb:Int):Option ba :=
 (cond (decide (xb < 0)) (some (true)) ((lq xa).bind fun i49=>some (decide (i49≤xb)))).bind fun t45=>cond (t45) (some ((0,false))) (xa.bind fun y54=>(aa y54 xb).bind fun x64=>some ((x64,true)))
def NJ:Hn Tryz.prog := .gj 4 ⟨[kdB 13],[]⟩ [] (.two 8 .nil (.cl BN [] .nil)) (.tw 13 .nil .nil)
def K5:Spec:=⟨71,⟨[(0,.dat (.ptr (.one (.sl Yq2)))),kdI 1],[]⟩,[⟨[(0,.tup [.dat Yq2,.dat .bool])],[]⟩],fun x=>bv x.1 x.2⟩
def cL:OkSpec Tryz.prog:=⟨K5,ab func71 NJ (by kernel_rfl) (by kernel_rfl),call71⟩

def iT (xa:aE) (xb:Int):Option Bool :=
 (bQ xa xb).bind fun i19=>(bv xa i19).bind fun (i25,t26)=>some (t26&&(decide (i25=xb)))
def LO:Hn Tryz.prog := .cl cW [] (.cl cL [] (.gp 3 .nil))
def Lu:Spec:=⟨44,⟨[(0,.dat (.ptr (.one (.sl Yq2)))),kdI 1],[]⟩,[⟨[kdB 0],[]⟩],fun x=>iT x.1 x.2⟩
def NC:OkSpec Tryz.prog:=⟨Lu,ab func44 LO (by kernel_rfl) (by kernel_rfl),call44⟩

def nT (xb:Int) (qa0:(List Int)):Option ((Bool×(List Int))) :=
 (gN xb).bind fun t1=>(cond (!t1) (some (true)) ((iT (some qa0) xb).bind fun t2=>some (t2))).bind fun t3=>cond (t3) (some ((false,qa0))) (((((bQ (some qa0) xb).bind fun i4=>(dJ qa0 i4 ([xb]:List Int)).bind fun l5=>some (l5)).bind fun x6=>((bQ (some qa0) xb).bind fun i7=>(dJ qa0 i7 ([xb]:List Int)).bind fun l8=>some (l8)).bind fun y9=>agr x6 y9 (some x6)).bind fun x10=>(((bQ (some qa0) xb).bind fun i11=>((dJ qa0 i11 ([xb]:List Int)).bind fun l12=>some (l12)).bind fun x13=>((dJ qa0 i11 ([xb]:List Int)).bind fun l14=>some (l14)).bind fun y15=>agr x13 y15 (some x13)).bind fun x16=>(((bQ (some qa0) xb).bind fun i17=>(dJ qa0 i17 ([xb]:List Int)).bind fun l18=>some (l18)).bind fun x19=>((bQ (some qa0) xb).bind fun i20=>(dJ qa0 i20 ([xb]:List Int)).bind fun l21=>some (l21)).bind fun y22=>agr x19 y22 (some x19)).bind fun y23=>agr x16 y23 (some x16)).bind fun y24=>agr x10 y24 (some x10):Option (List Int)).bind fun l25=>some ((true,l25)))
def KN:Hn Tryz.prog := .cl BL [] (.wt 12 (.gj 3 ⟨[kdB 16],[]⟩ [] (.two 12 .nil (.cl NC [1,0] .nil)) (.tw 16 .nil (.tr (.still [0,1,2,3,5,6,8] (.alt 4 (.alt 7 (.alt 9 (.alt 10 (.still [11,12] (.alt 13 (.leaf []) .done)) .done) .done) (.alt 9 (.alt 7 (.alt 10 (.still [11,12] (.alt 13 (.leaf []) .done)) .done) .done) .done)) (.alt 7 (.alt 4 (.alt 9 (.alt 10 (.still [11,12] (.alt 13 (.leaf []) .done)) .done) .done) (.alt 9 (.alt 4 (.alt 10 (.still [11,12] (.alt 13 (.leaf []) .done)) .done) .done) .done)) (.alt 9 (.alt 4 (.alt 7 (.alt 10 (.still [11,12] (.alt 13 (.leaf []) .done)) .done) .done) (.alt 7 (.alt 4 (.alt 10 (.still [11,12] (.alt 13 (.leaf []) .done)) .done) .done) .done)) .done)))) ⟨[],[bkC 0 120 [.own 3 Yq2]]⟩ [1,0] (.two 0 (.two 0 (.cl cW [1,0] (.cl jw [] .nil)) (.cl cW [1,0] (.cl jw [] .nil))) (.two 0 (.cl cW [1,0] (.two 0 (.cl jw [] .nil) (.cl jw [] .nil))) (.two 0 (.cl cW [1,0] (.cl jw [] .nil)) (.cl cW [1,0] (.cl jw [] .nil))))) .nil))))
def MS:Spec:=⟨58,⟨[(0,.ptr 0 0),kdI 1],[bkN 120 [.own 3 Yq2]]⟩,[⟨[kdB 0],[bkC 0 120 [.own 3 Yq2]]⟩],fun x=>nT x.1 x.2⟩
def M8:OkSpec Tryz.prog:=⟨MS,ab func58 KN (by kernel_rfl) (by kernel_rfl),call58⟩

def dM (qa0:(List Int)):Option (List Int) :=
 some (qa0)
def Nr:Hn Tryz.prog := .nil
def KM:Spec:=⟨56,⟨[(0,.ptr 0 0)],[bkN 120 [.own 3 Yq2]]⟩,[⟨[(0,.fn 89 [.ptr 1 0])],[bkC 0 120 [.own 3 Yq2],bkN 85 [.ptr 0 0]]⟩],fun x=>dM x⟩
def j7:OkSpec Tryz.prog:=⟨KM,ab func56 Nr (by kernel_rfl) (by kernel_rfl),call56⟩
def Cs (l1:(List Int)):ba→Option (ba⊕Unit):=fun (i2,t3)=>cond (t3) ((gJ i2).bind fun t4=>(bQ (some l1) (IntKind.wrap .i64 (i2 + 1))).bind fun i5=>(bv (some l1) i5).bind fun (i6,t7)=>some (.inl (i6,t7))) (some (.inr ((()))))
def se (i1:Int) (l2:(List Int)):gC→Option (gC⊕(List Int)):=fun (i3,t4,l5)=>cond (t4) ((dn i3 i1 l5).bind fun (t6,l7)=>(bQ (some l2) (IntKind.wrap .i64 (i3 + 1))).bind fun i8=>(bv (some l2) i8).bind fun (i9,t10)=>some (.inl (i9,t10,l7))) (some (.inr (l5)))
def kI (qa0:Int) (qa1:aE) (qa2:Tq5):Option (Tq5) :=
 (fA qa0).bind fun o=>match o with | .inl i3=>(qa1).bind fun y4=>(dM y4).bind fun l5=>(bv (some l5) 0).bind fun (i6,t7)=>(loop (Cs l5) (i6,t7)).bind fun ()=>some (none) | .inr (i8,i9,l10)=>(qa1).bind fun y11=>(dM y11).bind fun l12=>(bv (some l12) 0).bind fun (i13,t14)=>(loop (se i9 l12) (i13,t14,l10)).bind fun l15=>some (some (i9,l15))
def MN:Hn Tryz.prog := .mix [([0,1,2,3],4),([],5),([6,7,8,9,10],11)] [] [] [0] (.c2 rO [] (.wt 17 (.opb 2 3 (.cl j7 [] (.rg ⟨89,_,func89,call89⟩ (.cl cL [17,2] (.jn [] ⟨[],[⟨(some 21),0,[],false,false,none,true⟩]⟩ [21,4] (.lp ⟨[kdI 3,kdB 4],[⟨(some 21),0,[],false,false,none,true⟩]⟩ (.tw 10 (.yl 2 (.cl kz [] (.mix [([0,1,2,3],4),([],5)] [6,7,8,9,10] [] [] (.cl cW [17,2] (.cl cL [17,2] .nil))))) .nil)) .nil)))))) (.wt 17 (.opb 2 3 (.cl j7 [] (.rg ⟨89,_,func89,call89⟩ (.cl cL [21,2] (.jn [(9,0)] ⟨[],[⟨(some 25),0,[],false,false,none,true⟩,bkC 9 116 [.is 2 (.any),.own 113 Yq7],bkU 26]⟩ [25,10,9,4] (.lp ⟨[kdI 3,kdB 4],[⟨(some 25),0,[],false,false,none,true⟩,bkC 9 116 [.is 2 (.any),.own 113 Yq7],bkU 26]⟩ (.tw 10 (.yl 2 (.cl iM [] (.mix [([0,1,2,3],4),([],5)] [6,7,8,9,10] [] [] (.cl cW [21,2] (.cl cL [21,2] .nil))))) .nil)) .nil)))))))
def M9:Spec:=⟨54,⟨[(0,.ptr 0 0)],[bkN 88 [.is 1 (.dat Yq2),.od (.box 120 (.one (.row 3 (.dat Yq2)))),.od (.box 116 (.cons (.dat Yq2) (.one (.row 113 (.dat Yq7)))))],bkM]⟩,[⟨[],[bkC 0 88 [.is 1 (.any),.nilp,.od (.box 116 (.cons (.dat Yq2) (.one (.row 113 (.dat Yq7)))))],bkU 1]⟩],fun x=>kI x.1 x.2.1 x.2.2⟩
def BJ:OkSpec Tryz.prog:=⟨M9,ab func54 MN (by kernel_rfl) (by kernel_rfl),call54⟩

def bJ (xb:Int) (qa0:Int) (qa1:aE) (qa2:Tq5):Option ((Bool×aE×Tq5)) :=
 (cond (decide (xb < 0)) (some (true)) ((b8 (some (qa0,qa1,qa2))).bind fun i3=>some (decide (i3≤xb)))).bind fun t4=>cond (t4) (some ((false,qa1,qa2))) ((dN (some (qa0,qa1,qa2))).bind fun t5=>cond (t5) ((qa2).bind fun y6=>(dn xb y6.1 y6.2).bind fun (t7,l8)=>some ((t7,qa1,some (y6.1,l8)))) ((qa1).bind fun y9=>(nT xb y9).bind fun (t10,l11)=>(lq (some l11)).bind fun i12=>cond (decide (8 < i12)) ((kI qa0 (some l11) qa2).bind fun l13=>some ((t10,none,l13))) (some ((t10,some l11,qa2)))))
def JN:Hn Tryz.prog := .gj 4 ⟨[kdB 13],[]⟩ [] (.two 8 .nil (.cl dj [2,4,0] .nil)) (.tw 13 .nil (.cl iF [2,4,0] (.tw 15 (.wt 20 (.opb 4 5 (.wt 1000010 (.mc 4 0 7 (.cl iM [] .nil))))) (.wt 26 (.opb 2 3 (.cl M8 [] (.cl BN [13,2] (.tw 33 (.cl BJ [] .nil) .nil))))))))
def NO:Spec:=⟨30,⟨[(0,.ptr 0 0),kdI 1],[bkN 88 [.is 1 (.dat Yq2),.od (.box 120 (.one (.row 3 (.dat Yq2)))),.od (.box 116 (.cons (.dat Yq2) (.one (.row 113 (.dat Yq7)))))],bkM]⟩,[⟨[kdB 0],[bkC 0 88 [.is 1 (.any),.od (.box 120 (.one (.row 3 (.dat Yq2)))),.od (.box 116 (.cons (.dat Yq2) (.one (.row 113 (.dat Yq7)))))],bkU 1]⟩],fun x=>bJ x.1 x.2.1 x.2.2.1 x.2.2.2⟩
def cB:OkSpec Tryz.prog:=⟨NO,ab func30 JN (by kernel_rfl) (by kernel_rfl),call30⟩

def oN (xa:(Option cO)) (xb:Int):Option (Tq5) :=
 (cond (xa.isNone||(decide (xb < 0))) (some (true)) (xa.bind fun y68=>some (decide ((y68.2.length:Int)≤xb)))).bind fun t66=>cond (t66) (some (none)) (xa.bind fun y79=>(aa y79.2 xb).bind fun x89=>some (x89))
def Lx:Hn Tryz.prog := .gp 2 (.wt 11 (.gj 7 ⟨[kdB 19],[]⟩ [] (.two 11 .nil .nil) (.tw 19 .nil .nil)))
def KR:Spec:=⟨59,⟨[(0,.dat (.ptr eX)),kdI 1],[]⟩,[⟨[(0,.dat Yq9)],[]⟩],fun x=>oN x.1 x.2⟩
def L8:OkSpec Tryz.prog:=⟨KR,ab func59 Lx (by kernel_rfl) (by kernel_rfl),call59⟩

def iZ (xa:Tq5):Option Unit :=
 some (())
def Lc:Hn Tryz.prog := .nil
def Ng:Spec:=⟨92,⟨[(0,.is 0 (.dat Yq9))],[bkM]⟩,[⟨[(0,.fn 122 [.ptr 0 0])],[bkN 86 [.is 1 (.any)],bkU 0]⟩],fun x=>iZ x⟩
def BI:OkSpec Tryz.prog:=⟨Ng,ab func92 Lc (by kernel_rfl) (by kernel_rfl),call92⟩
def iR (y1:bA):bp→Option (bp⊕(bp⊕Int)):=fun (i2,i3)=>cond (decide (i3=0)) (cond (decide ((IntKind.wrap .i64 (i2 + 1))=(y1.2.length:Int))) (some (.inr ((.inr ((-1)))))) ((aa y1.2 (IntKind.wrap .i64 (i2 + 1))).bind fun x4=>some (.inl ((IntKind.wrap .i64 (i2 + 1),x4))))) (some (.inr ((.inl (i2,i3)))))
def cD (xa:Tq5) (xb:Int):Option Int :=
 (fq xa (if xb < 0 then 0 else xb)).bind fun t1=>cond (!t1) (some ((-1))) (xa.bind fun y2=>(aa y2.2 (IntKind.wrap .i64 (Int.tdiv (if xb < 0 then 0 else xb) 64))).bind fun x3=>(ge0 (Int.tmod (if xb < 0 then 0 else xb) 64)).bind fun u4=>(ge0 (Int.tmod (if xb < 0 then 0 else xb) 64)).bind fun u5=>(loop (iR y2) ((IntKind.wrap .i64 (Int.tdiv (if xb < 0 then 0 else xb) 64),IntKind.wrap .u64 ((Int.fdiv x3 (2 ^ (min (Int.toNat (Int.tmod (if xb < 0 then 0 else xb) 64)) (IntKind.bits .u64)))) * 2 ^ (min (Int.toNat (Int.tmod (if xb < 0 then 0 else xb) 64)) (IntKind.bits .u64)))))).bind fun o=>match o with | .inr r=>some r | .inl (i6,i7)=>(tzF i7).bind fun i8=>some (IntKind.wrap .i64 ((IntKind.wrap .i64 (i6 * 64)) + i8)))
def JG:Hn Tryz.prog := .ms 0 (.cl rF [] (.tw 12 .nil (.jx [] ⟨[kdI 5,(6,.dat Yq7)],[]⟩ [] (.lp ⟨[kdI 5,(6,.dat Yq7)],[]⟩ (.tw 29 (.tw 38 .nil .nil) .nil)) (.cl L7 [] .nil))))
def LD:Spec:=⟨123,⟨[(0,.dat Yq9),kdI 1],[]⟩,[⟨[kdI 0],[]⟩],fun x=>cD x.1 x.2⟩
def j9:OkSpec Tryz.prog:=⟨LD,ab func123 JG (by kernel_rfl) (by kernel_rfl),call123⟩
def sC (xa:Tq5):bA→Option (bA⊕(List Int)):=fun (i1,l2)=>cond (decide (0≤i1)) ((app l2 ([i1]:List Int)).bind fun z3=>(cD xa (IntKind.wrap .i64 (i1 + 1))).bind fun i4=>some (.inl (i4,z3))) (some (.inr (l2)))
def iV (xa:Tq5):Option (List Int) :=
 (iZ xa).bind fun _=>(cD xa 0).bind fun i1=>(loop (sC xa) (i1,[])).bind fun l2=>some (l2)
def LF:Hn Tryz.prog := .ms 5 (.cl BI [] (.rg ⟨122,_,func122,call122⟩ (.cl j9 [] (.jn [] ⟨[],[bkC 0 48 [.own 3 Yq2],⟨(some 5),0,[],false,false,none,true⟩]⟩ [5,0] (.lp ⟨[kdI 3],[bkC 0 48 [.own 3 Yq2],⟨(some 5),0,[],false,false,none,true⟩]⟩ (.tw 7 (.yl 2 (.cl j9 [] .nil)) .nil)) .nil))))
def MD:Spec:=⟨60,⟨[(0,.dat Yq9)],[]⟩,[⟨[(0,.own 3 Yq2)],[]⟩],fun x=>iV x⟩
def Kl:OkSpec Tryz.prog:=⟨MD,ab func60 LF (by kernel_rfl) (by kernel_rfl),call60⟩

def cQ (xa:(Option cO)) (xb:Int):Option (List Int) :=
 (oN xa xb).bind fun p26=>(iV p26).bind fun l34=>some (l34)
def JE:Hn Tryz.prog := .cl L8 [] (.cl Kl [] .nil)
def NX:Spec:=⟨31,⟨[(0,.dat (.ptr eX)),kdI 1],[]⟩,[⟨[(0,.own 3 Yq2)],[]⟩],fun x=>cQ x.1 x.2⟩
def ec:OkSpec Tryz.prog:=⟨NX,ab func31 JE (by kernel_rfl) (by kernel_rfl),call31⟩
def k9 (xa:Tq3):aO→Option (aO⊕(List Int)):=fun (l1,i2)=>cond (decide (i2 < (xa.length:Int))) ((aa xa i2).bind fun x3=>(app l1 ([x3.1]:List Int)).bind fun z4=>some (.inl ((z4,IntKind.wrap .i64 (i2 + 1))))) (some (.inr (l1)))
def du (xa:Tq3):Option (List Int) :=
 (loop (k9 xa) ([],0)).bind fun l1=>(srt l1).bind fun l2=>(gv l2).bind fun l3=>some (l3)
def LU:Hn Tryz.prog := .jn [] ⟨[(3,.own 3 Yq2)],[]⟩ [0] (.lp ⟨[(3,.own 3 Yq2),kdI 9],[]⟩ (.tw 10 .nil .nil)) (.cl qi [] (.cl pw [] .nil))
def KY:Spec:=⟨32,⟨[(0,.dat Yq8)],[]⟩,[⟨[(0,.own 3 Yq2)],[]⟩],fun x=>du x⟩
def fX:OkSpec Tryz.prog:=⟨KY,ab func32 LU (by kernel_rfl) (by kernel_rfl),call32⟩
def sr (qb1:(List Int)):(Bool×Int×(List Int))→Option ((Bool×Int×(List Int))⊕(Bool×(List Int))):=fun (t2,i3,l4)=>cond (decide (i3 < (qb1.length:Int))) ((aa qb1 i3).bind fun x5=>(aa l4 i3).bind fun x6=>cond (!decide ((IntKind.wrap .u64 ((BitVec.ofInt (IntKind.bits .u64) x5 &&& ~~~BitVec.ofInt (IntKind.bits .u64) x6).toNat:Int))=0)) ((aa l4 i3).bind fun x7=>(aa l4 i3).bind fun x8=>(some (l4.set i3.toNat (IntKind.wrap .u64 ((BitVec.ofInt (IntKind.bits .u64) x7 ||| BitVec.ofInt (IntKind.bits .u64) x5).toNat:Int)))).bind fun z9=>some (.inl ((true,IntKind.wrap .i64 (i3 + 1),z9)))) (some (.inl ((t2,IntKind.wrap .i64 (i3 + 1),l4))))) (some (.inr (((t2,l4)))))
def fp (qa0:Int) (qa1:(List Int)) (qb0:Int) (qb1:(List Int)):Option ((Bool×(List Int)×(List Int))) :=
 cond (!decide (qa0=qb0)) (some ((false,qa1,qb1))) ((loop (sr qb1) (false,0,qa1)).bind fun (t2,l3)=>some ((t2,l3,qb1)))
def KO:Hn Tryz.prog := .mix [] [0,1,2,3,4,5,6,7,8,9,10,11,12,13,14,15,16] [] [] (.tw 24 .nil (.jn [] ⟨[kdB 5],[bkC 0 116 [.is 1 (.any),.own 113 Yq7],bkU 2]⟩ [4,0] (.lp ⟨[kdB 5,kdI 30],[bkC 0 116 [.is 1 (.any),.own 113 Yq7],bkU 2]⟩ (.tw 31 (.tw 44 .nil .nil) .nil)) .nil))
def M3:Spec:=⟨55,⟨[(0,.ptr 0 0),(1,.ptr 1 0)],[bkN 116 [.is 2 (.dat Yq2),.own 113 Yq7],bkN 116 [.is 3 (.dat Yq2),.own 113 Yq7],bkM,bkM]⟩,[⟨[kdB 0],[bkC 0 116 [.is 2 (.any),.own 113 Yq7],bkC 1 116 [.is 3 (.any),.own 113 Yq7],bkU 2,bkU 3]⟩],fun x=>fp x.1 x.2.1 x.2.2.1 x.2.2.2⟩
def Ly:OkSpec Tryz.prog:=⟨M3,ab func55 KO (by kernel_rfl) (by kernel_rfl),call55⟩
end
end
end Go.Proofs.YtaajcbeoafhmaaaGreatDoor
