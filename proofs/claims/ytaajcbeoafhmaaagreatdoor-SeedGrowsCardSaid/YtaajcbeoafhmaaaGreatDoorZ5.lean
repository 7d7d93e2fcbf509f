/- A part of the proof: what lies ahead of the law. Nothing is claimed here. -/
import Derived.Test.YtaajcbeoafhmaaaGreatDoorZ4
import Derived.Test.YtaajcbeoafhmaaaGreatDoorRows
namespace Go.Proofs.YtaajcbeoafhmaaaGreatDoor
noncomputable section
set_option linter.unusedVariables false
set_option maxRecDepth 100000
set_option maxHeartbeats 4000000
section
open Go.RowKit _root_.Go.Proofs.Tryz
abbrev bkO (i:Nat) (o:OT):Bk:=⟨some i,0,[],false,false,some o,false⟩
abbrev bkC (i:Nat) (e:TypeId) (ks:List Kd):Bk:=⟨some i,e,ks,false,false,none,false⟩
abbrev bkN (e:TypeId) (ks:List Kd):Bk:=⟨none,e,ks,false,false,none,false⟩
abbrev bkU (i:Nat):Bk:=⟨some i,0,[],false,true,none,false⟩
abbrev bkM:Bk:=⟨none,0,[],false,true,none,false⟩
abbrev kdI (i:Nat):Nat×Kd:=(i,.dat (.int .i64))
abbrev kdB (i:Nat):Nat×Kd:=(i,.dat .bool)
abbrev Yq1:Tp:=(.cons (.int .i64) (.cons (.int .i64) (.cons (.sl (.cons (.int .i64) (.one (.int .i64)))) (.cons (.sl (.one (.sl (.cons (.int .i64) (.one .bool))))) (.cons (.one (.sl (.cons (.int .i64) (.one .bool)))) (.cons (.sl (.cons (.int .i64) (.cons (.sl (.cons (.int .i64) (.one (.int .i64)))) (.cons (.sl (.one (.sl (.cons (.int .i64) (.one .bool))))) (.one (.one (.sl (.cons (.int .i64) (.one .bool))))))))) (.one (.sl (.cons (.sl (.cons (.int .i64) (.cons (.int .i64) (.cons (.int .i64) (.cons (.int .i64) (.one .bool)))))) (.one (.cons (.int .i64) (.cons (.int .i64) (.cons (.int .i64) (.cons (.sl (.int .i64)) (.cons (.sl (.int .i64)) (.one (.sl (.int .i64))))))))))))))))))
abbrev Tq1:Type:=(Int×Int×(List (Int×Int))×(List (List (Int×Bool)))×(List (Int×Bool))×(List (Int×(List (Int×Int))×(List (List (Int×Bool)))×(List (Int×Bool))))×(List ((List (Int×Int×Int×Int×Bool))×(Int×Int×Int×(List Int)×(List Int)×(List Int)))))
abbrev Yq2:Tp:=(.int .i64)
abbrev Tq2:Type:=(Int×(Option (List Int))×(Option (Int×(List Int))))
abbrev Tq3:Type:=(List (Int×Bool))
abbrev Tq4:Type:=((List Int)×(List Int))
abbrev Tq5:Type:=(Int×Int×Int×Int×Bool)
abbrev Tq6:Type:=(List (Int×Int))
abbrev Yq3:Tp:=(.cons Yq2 (.one .bool))
abbrev Yq4:Tp:=(.cons Yq2 (.cons (.sl (.cons Yq2 (.one Yq2))) (.cons (.cons (.sl Yq2) (.one (.sl Yq2))) (.one (.cons (.sl Yq2) (.one (.sl Yq2)))))))
abbrev Tq7:Type:=(Option (Int×(List Int)))
abbrev Yq5:Tp:=(.sl (.cons Yq2 (.one Yq2)))
abbrev Tq8:Type:=(Int×Int×Int×(List Int)×(List Int)×(List Int))
abbrev Yq6:Tp:=(.ptr (.cons Yq2 (.one (.sl (.int .u64)))))
abbrev Yq7:Tp:=(.cons (.sl Yq2) (.one (.sl Yq2)))
abbrev Tq9:Type:=((List Int)×(List Int)×Int×Int×(Option Tq6))
abbrev aJ:Type:=(List (Option Tq2))
abbrev fu:Type:=(Int×(List Int)×(List Int)×Int×Int×(Option Tq6))
abbrev bH:Type:=(Int×Tq6×(List Tq3)×Tq3)
abbrev Yq8:Tp:=(.cons Yq2 (.cons Yq2 (.cons Yq2 Yq3)))
abbrev dI:Type:=(Int×(List Int)×Int×Int×(Option Tq6))
abbrev dC:Type:=((List Int)×Int×Int×(Option Tq6))
abbrev aF:Type:=(Option (List Int))
abbrev Yq9:Tp:=(.one (.sl Yq3))
abbrev ak:Tp:=(.int .u64)
abbrev ck:Type:=(Option (Int×Tq6×Tq4×Tq4))
abbrev aR:Type:=((List Tq5)×Int)
abbrev ba:Type:=((List Int)×Int)
abbrev bA:Type:=(Int×(List Int))
abbrev co:Type:=(Int×Int×Int×Int)
abbrev cC:Tp:=(.ptr (.cons (.sl Yq2) (.one Yq2)))
abbrev fa:Tp:=(.cons Yq2 (.cons Yq2 (.cons Yq2 (.cons (.sl Yq2) Yq7))))
abbrev fg:Tp:=(.cons Yq2 (.cons Yq5 (.cons (.sl Yq9) (.one Yq9))))
abbrev jj:Tp:=(.ptr (.cons Yq2 (.cons (.ptr (.one (.sl Yq2))) (.one Yq6))))
abbrev gH:Type:=((List Tq4)×(List Tq4))
abbrev je:Type:=(Int×Int×(List Tq3)×Tq3×(List bH))
abbrev bP:Type:=(Int×Int)
abbrev bq:Type:=(Int×Bool)
instance nob:BldA:=⟨1000000000,fun b _=>Cl b 1000000000 [.pointer none,.slice none 0 0],fun h=>h,tzGk,tzGk.mono⟩
def IB:OkSpec Tryz.prog:=⟨tG,G9 (fun _ h=>h),call156⟩

def fM (xa:Tq3) (xb:Int):Option Bool :=
 some (decide ((xa.length:Int)≤xb))
def hQ0:Hn Tryz.prog := .nil
def sQ0:Spec:=⟨22,⟨[(0,.dat Yq9),kdI 1],[]⟩,[⟨[kdB 0],[]⟩],fun x=>fM x.1 x.2⟩
def oQ0:OkSpec Tryz.prog:=⟨sQ0,ae func22 hQ0 (by kernel_rfl) (by kernel_rfl),call22⟩
def uN (xa:bH):Int→Option (Int⊕(Unit⊕Bool)):=fun i1=>cond (decide (i1 < (xa.2.2.1.length:Int))) ((aa xa.2.2.1 i1).bind fun x2=>(fM x2 20).bind fun t3=>cond (!t3) (some (.inr ((.inr (false))))) (some (.inl (IntKind.wrap .i64 (i1 + 1))))) (some (.inr ((.inl ()))))
def er (xa:bH):Option Bool :=
 (cond ((decide (20 < (xa.2.1.length:Int)))||(decide (20 < (xa.2.2.1.length:Int)))) (some (true)) ((fM xa.2.2.2 20).bind fun t1=>some (!t1))).bind fun t2=>cond (t2) (some (false)) ((loop (uN xa) 0).bind fun o=>match o with | .inr r=>some r | .inl ()=>some (true))
def hQ1:Hn Tryz.prog := .gp 4 (.wt 14 (.gj 4 ⟨[kdB 19],[]⟩ [] (.two 14 .nil (.cl oQ0 [] .nil)) (.tw 19 .nil (.jx [] ⟨[],[]⟩ [] (.lp ⟨[kdI 3],[]⟩ (.tw 24 (.cl oQ0 [] (.tw 33 .nil .nil)) .nil)) .nil))))
def sQ1:Spec:=⟨23,⟨[(0,.dat fg)],[]⟩,[⟨[kdB 0],[]⟩],fun x=>er x⟩
def oQ1:OkSpec Tryz.prog:=⟨sQ1,ae func23 hQ1 (by kernel_rfl) (by kernel_rfl),call23⟩
def uL (xa:Tq1):Int→Option (Int⊕(Unit⊕Bool)):=fun i1=>cond (decide (i1 < (xa.2.2.2.1.length:Int))) ((aa xa.2.2.2.1 i1).bind fun x2=>(fM x2 20).bind fun t3=>cond (!t3) (some (.inr ((.inr (false))))) (some (.inl (IntKind.wrap .i64 (i1 + 1))))) (some (.inr ((.inl ()))))
def gQ (xa:Tq1):Int→Option (Int⊕(Unit⊕Bool)):=fun i1=>cond (decide (i1 < (xa.2.2.2.2.2.1.length:Int))) ((aa xa.2.2.2.2.2.1 i1).bind fun x2=>(er (x2.1,x2.2.1,x2.2.2.1,x2.2.2.2)).bind fun t3=>cond (!t3) (some (.inr ((.inr (false))))) (some (.inl (IntKind.wrap .i64 (i1 + 1))))) (some (.inr ((.inl ()))))
def fC (xa:Tq1):bP→Option (bP⊕(Int⊕Bool)):=fun (i1,i2)=>cond (decide (i2 < (xa.2.2.2.2.2.2.length:Int))) ((aa xa.2.2.2.2.2.2 i2).bind fun x3=>(aa xa.2.2.2.2.2.2 i2).bind fun x4=>cond (((decide (20 < (x3.2.2.2.2.1.length:Int)))||(decide (20 < (x3.2.2.2.2.2.1.length:Int))))||(decide (20 < (x3.2.2.2.2.2.2.length:Int)))) (some (.inr ((.inr (false))))) (some (.inl ((IntKind.wrap .i64 (i1 + (x4.1.length:Int)),IntKind.wrap .i64 (i2 + 1)))))) (some (.inr (.inl i1)))
def fG (xa:Tq1):Option Bool :=
 (cond ((((decide (20 < (xa.2.2.1.length:Int)))||(decide (10 < (xa.2.2.2.1.length:Int))))||(decide (4 < (xa.2.2.2.2.2.1.length:Int))))||(decide (8 < (xa.2.2.2.2.2.2.length:Int)))) (some (true)) ((fM xa.2.2.2.2.1 20).bind fun t1=>some (!t1))).bind fun t2=>cond (t2) (some (false)) ((loop (uL xa) 0).bind fun o=>match o with | .inr r=>some r | .inl ()=>(loop (gQ xa) 0).bind fun o=>match o with | .inr r=>some r | .inl ()=>(loop (fC xa) (0,0)).bind fun o=>match o with | .inr r=>some r | .inl i3=>some (decide (i3≤24)))
def hQ2:Hn Tryz.prog := .gp 4 (.wt 18 (.gp 4 (.wt 24 (.gp 4 (.wt 30 (.gj 4 ⟨[kdB 35],[]⟩ [] (.two 30 .nil (.cl oQ0 [] .nil)) (.tw 35 .nil (.jx [] ⟨[],[]⟩ [] (.lp ⟨[kdI 3],[]⟩ (.tw 40 (.cl oQ0 [] (.tw 49 .nil .nil)) .nil)) (.jx [] ⟨[],[]⟩ [] (.lp ⟨[kdI 4],[]⟩ (.tw 54 (.cl oQ1 [] (.tw 63 .nil .nil)) .nil)) (.jx [] ⟨[kdI 5],[]⟩ [] (.lp ⟨[kdI 5,kdI 6],[]⟩ (.tw 68 (.gp 4 (.wt 96 (.gp 4 (.tw 101 .nil .nil)))) .nil)) .nil))))))))))
def sQ2:Spec:=⟨6,⟨[(0,.dat Yq1)],[]⟩,[⟨[kdB 0],[]⟩],fun x=>fG x⟩
def oQ2:OkSpec Tryz.prog:=⟨sQ2,ae func6 hQ2 (by kernel_rfl) (by kernel_rfl),call6⟩

def bf (xb:Int) (xc:Int):Option Unit :=
 some (())
def hQ3:Hn Tryz.prog := .nil
def sQ3:Spec:=⟨26,⟨[(0,.nilp),kdI 1,kdI 2],[]⟩,[⟨[],[]⟩],fun x=>bf x.1 x.2⟩
def oQ3:OkSpec Tryz.prog:=⟨sQ3,ae func26 hQ3 (by kernel_rfl) (by kernel_rfl),call26⟩

def jY (xa:Tq1):Option co :=
 cond ((decide (xa.1 < 1))||(decide (xa.2.1 < xa.1))) (some ((7,0,0,0))) (cond (decide (65536 < xa.2.1)) (some ((6,0,0,0))) (some ((0,0,0,0))))
def hQ4:Hn Tryz.prog := .gp 5 (.tw 7 .nil (.tw 19 .nil .nil))
def sQ4:Spec:=⟨141,⟨[(0,.dat Yq1),(1,.nilp)],[]⟩,[⟨[(0,.agg [.dat Yq2,.dat Yq2,.dat Yq2,.dat Yq2])],[]⟩],fun x=>jY x⟩
def oQ4:OkSpec Tryz.prog:=⟨sQ4,ae func141 hQ4 (by kernel_rfl) (by kernel_rfl),call141⟩

def lN (xa:Int) (qa0:Int) (qa1:Int) (qa2:Tq6) (qa3:(List Tq3)) (qa4:Tq3) (qa5:(List bH)) (qa6:(List ((List Tq5)×Tq8))):Option Bool :=
 some ((decide (0≤xa))&&(decide (xa < qa0)))
def hQ5:Hn Tryz.prog := .gp 4 .nil
def sQ5:Spec:=⟨174,⟨[kdI 0,(1,.ptr 0 0)],[bkN 30 [.is 1 (.dat Yq2),.is 2 (.dat Yq2),.is 3 (.dat Yq5),.is 4 (.dat (.sl Yq9)),.is 5 (.dat (.sl Yq3)),.is 6 (.dat (.sl fg)),.is 7 (.dat (.sl (.cons (.sl Yq8) (.one fa))))],bkM,bkM,bkM,bkM,bkM,bkM,bkM]⟩,[⟨[kdB 0],[bkC 0 30 [.is 1 (.any),.is 2 (.any),.is 3 (.any),.is 4 (.any),.is 5 (.any),.is 6 (.any),.is 7 (.any)],bkU 1,bkU 2,bkU 3,bkU 4,bkU 5,bkU 6,bkU 7]⟩],fun x=>lN x.1 x.2.1 x.2.2.1 x.2.2.2.1 x.2.2.2.2.1 x.2.2.2.2.2.1 x.2.2.2.2.2.2.1 x.2.2.2.2.2.2.2⟩
def oQ5:OkSpec Tryz.prog:=⟨sQ5,ae func174 hQ5 (by kernel_rfl) (by kernel_rfl),call174⟩
def lV (xa:Tq1):Int→Option (Int⊕(Unit⊕co)):=fun i1=>cond (decide (i1 < (xa.2.2.1.length:Int))) ((aa xa.2.2.1 i1).bind fun x2=>(bf 1 1).bind fun _=>(lN x2.1 xa.1 xa.2.1 xa.2.2.1 xa.2.2.2.1 xa.2.2.2.2.1 xa.2.2.2.2.2.1 xa.2.2.2.2.2.2).bind fun t3=>(cond (!t3) (some (true)) ((lN x2.2 xa.1 xa.2.1 xa.2.2.1 xa.2.2.2.1 xa.2.2.2.2.1 xa.2.2.2.2.2.1 xa.2.2.2.2.2.2).bind fun t4=>some (!t4))).bind fun t5=>cond (t5) (some (.inr ((.inr ((7,1,i1,0)))))) (some (.inl (IntKind.wrap .i64 (i1 + 1))))) (some (.inr ((.inl ()))))
def jM (xa:Tq1):Option co :=
 cond (decide (65536 < (xa.2.2.1.length:Int))) (some ((6,1,0,0))) ((loop (lV xa) 0).bind fun o=>match o with | .inr r=>some r | .inl ()=>some ((0,0,0,0)))
def hQ6:Hn Tryz.prog := .tw 11 .nil (.jx [] ⟨[],[bkC 2 160 [.lit (.int .i64 0),.lit (.int .i64 0),.lit (.int .i64 0),.lit (.int .i64 0)]]⟩ [2,0] (.mc 0 0 1 (.mc 0 1 1 (.mc 0 2 1 (.mc 0 3 1 (.mc 0 4 1 (.mc 0 5 1 (.mc 0 6 1 (.lp ⟨[kdI 17],[bkC 2 160 [.lit (.int .i64 0),.lit (.int .i64 0),.lit (.int .i64 0),.lit (.int .i64 0)],bkC 0 30 [.is 2 (.any),.is 3 (.any),.is 4 (.any),.is 5 (.any),.is 6 (.any),.is 7 (.any),.is 8 (.any)],bkU 4,bkU 5,bkU 6,bkU 7,bkU 8,bkU 9,bkU 10]⟩ (.tw 18 (.cl oQ3 [] (.cl oQ5 [] (.gj 5 ⟨[kdB 35],[bkC 0 30 [.is 1 (.any),.is 2 (.any),.is 3 (.any),.is 4 (.any),.is 5 (.any),.is 6 (.any),.is 7 (.any)],bkU 4,bkU 5,bkU 6,bkU 7,bkU 8,bkU 9,bkU 10]⟩ [0] (.two 29 .nil (.cl oQ5 [] .nil)) (.tw 35 .nil .nil)))) .nil))))))))) .nil)
def sQ6:Spec:=⟨142,⟨[(0,.dat Yq1),(1,.nilp)],[]⟩,[⟨[(0,.agg [.dat Yq2,.dat Yq2,.dat Yq2,.dat Yq2])],[]⟩],fun x=>jM x⟩
def oQ6:OkSpec Tryz.prog:=⟨sQ6,ae func142 hQ6 (by kernel_rfl) (by kernel_rfl),call142⟩

def p8 (xa:bq) (qa0:Int):Option Bool :=
 some ((decide (xa.1 < 0))||(decide (qa0≤xa.1)))
def hQ7:Hn Tryz.prog := .gp 4 .nil
def sQ7:Spec:=⟨192,⟨[(0,.dat Yq3),(1,.ptr 0 0)],[bkN 3 [.is 1 (.dat Yq2)],bkM]⟩,[⟨[kdB 0],[bkC 0 3 [.is 1 (.any)],bkU 1]⟩],fun x=>p8 x.1 x.2⟩
def oQ7:OkSpec Tryz.prog:=⟨sQ7,ae func192 hQ7 (by kernel_rfl) (by kernel_rfl),call192⟩
def lE (xa:Tq3) (qa0:Int):Int→Option (Int⊕(Unit⊕Int)):=fun i1=>cond (decide (i1 < (xa.length:Int))) ((aa xa i1).bind fun x2=>(p8 (x2.1,x2.2) qa0).bind fun t3=>cond (t3) (some (.inr ((.inr (i1))))) (some (.inl (IntKind.wrap .i64 (i1 + 1))))) (some (.inr ((.inl ()))))
def pO (xa:Tq3) (qa0:Int):Option Int :=
 (loop (lE xa qa0) 0).bind fun o=>match o with | .inr r=>some r | .inl ()=>some ((-1))
def hQ8:Hn Tryz.prog := .jx [] ⟨[],[bkC 0 3 [.is 1 (.any)],bkU 1]⟩ [0] (.lp ⟨[kdI 8],[bkC 0 3 [.is 1 (.any)],bkU 1]⟩ (.tw 9 (.cl oQ7 [] (.tw 16 .nil .nil)) .nil)) .nil
def sQ8:Spec:=⟨102,⟨[(0,.dat (.sl Yq3)),(1,.fn 192 [.ptr 0 0])],[bkN 3 [.is 1 (.dat Yq2)],bkM]⟩,[⟨[kdI 0],[bkC 0 3 [.is 1 (.any)],bkU 1]⟩],fun x=>pO x.1 x.2⟩
def oQ8:OkSpec Tryz.prog:=⟨sQ8,ae func102 hQ8 (by kernel_rfl) (by kernel_rfl),call102⟩

def pN (xa:Tq3) (qa0:Int):Option Bool :=
 (pO xa qa0).bind fun i10=>some (decide (0≤i10))
def hQ9:Hn Tryz.prog := .cl oQ8 [] .nil
def sQ9:Spec:=⟨66,⟨[(0,.dat (.sl Yq3)),(1,.fn 192 [.ptr 0 0])],[bkN 3 [.is 1 (.dat Yq2)],bkM]⟩,[⟨[kdB 0],[bkC 0 3 [.is 1 (.any)],bkU 1]⟩],fun x=>pN x.1 x.2⟩
def oQ9:OkSpec Tryz.prog:=⟨sQ9,ae func66 hQ9 (by kernel_rfl) (by kernel_rfl),call66⟩

def kj (xa:Tq3) (xb:Int):Option Bool :=
 (pN xa xb).bind fun t14=>some (!t14)
def Lg:Hn Tryz.prog := .mc 2 0 3 (.cl oQ9 [] .nil)
def Mb:Spec:=⟨186,⟨[(0,.dat Yq9),kdI 1],[]⟩,[⟨[kdB 0],[]⟩],fun x=>kj x.1 x.2⟩
def zY:OkSpec Tryz.prog:=⟨Mb,ae func186 Lg (by kernel_rfl) (by kernel_rfl),call186⟩

def eo (xa:Tq3) (xb:Int):Option Int :=
 cond (decide (16 < (xa.length:Int))) (some (6)) ((kj xa xb).bind fun t15=>cond (!t15) (some (7)) (some (0)))
def JO:Hn Tryz.prog := .tw 8 .nil (.cl zY [] (.tw 12 .nil .nil))
def KJ:Spec:=⟨175,⟨[(0,.dat Yq9),kdI 1],[]⟩,[⟨[kdI 0],[]⟩],fun x=>eo x.1 x.2⟩
def pE:OkSpec Tryz.prog:=⟨KJ,ae func175 JO (by kernel_rfl) (by kernel_rfl),call175⟩
def lX (xa:Tq1):Int→Option (Int⊕(Unit⊕co)):=fun i1=>cond (decide (i1 < (xa.2.2.2.1.length:Int))) ((aa xa.2.2.2.1 i1).bind fun x2=>(bf 1 1).bind fun _=>(eo x2 xa.2.1).bind fun i3=>cond (!decide (i3=0)) (some (.inr ((.inr ((i3,2,i1,0)))))) (some (.inl (IntKind.wrap .i64 (i1 + 1))))) (some (.inr ((.inl ()))))
def jP (xa:Tq1):Option co :=
 cond (decide ((xa.2.2.2.1.length:Int)=0)) (some ((14,2,0,0))) (cond (decide (65536 < (xa.2.2.2.1.length:Int))) (some ((6,2,0,0))) ((loop (lX xa) 0).bind fun o=>match o with | .inr r=>some r | .inl ()=>some ((0,0,0,0))))
def Nw:Hn Tryz.prog := .tw 11 .nil (.tw 16 .nil (.jx [] ⟨[],[bkC 2 160 [.lit (.int .i64 0),.lit (.int .i64 0),.lit (.int .i64 0),.lit (.int .i64 0)]]⟩ [2] (.lp ⟨[kdI 21],[bkC 2 160 [.lit (.int .i64 0),.lit (.int .i64 0),.lit (.int .i64 0),.lit (.int .i64 0)]]⟩ (.tw 22 (.cl oQ3 [] (.cl pE [] (.tw 33 .nil .nil))) .nil)) .nil))
def Ky:Spec:=⟨143,⟨[(0,.dat Yq1),(1,.nilp)],[]⟩,[⟨[(0,.agg [.dat Yq2,.dat Yq2,.dat Yq2,.dat Yq2])],[]⟩],fun x=>jP x⟩
def Ju:OkSpec Tryz.prog:=⟨Ky,ae func143 Nw (by kernel_rfl) (by kernel_rfl),call143⟩

def qw (xa:bq) (xb:bq):Option Bool :=
 some (xa.2 == xb.2)
def MC:Hn Tryz.prog := .nil
def Lx:Spec:=⟨188,⟨[(0,.dat Yq3),(1,.dat Yq3)],[]⟩,[⟨[kdB 0],[]⟩],fun x=>qw x.1 x.2⟩
def MD:OkSpec Tryz.prog:=⟨Lx,ae func188 MC (by kernel_rfl) (by kernel_rfl),call188⟩
def pJ (xa:Tq3) (xb:Tq3):Int→Option (Int⊕(Unit⊕Bool)):=fun i1=>cond (decide (i1 < (xa.length:Int))) ((aa xa i1).bind fun x2=>(aa xb i1).bind fun x3=>(qw (x2.1,x2.2) (x3.1,x3.2)).bind fun t4=>cond (!t4) (some (.inr ((.inr (false))))) (some (.inl (IntKind.wrap .i64 (i1 + 1))))) (some (.inr ((.inl ()))))
def lD (xa:Tq3) (xb:Tq3):Option Bool :=
 cond (!decide ((xa.length:Int)=(xb.length:Int))) (some (false)) ((loop (pJ xa xb) 0).bind fun o=>match o with | .inr r=>some r | .inl ()=>some (true))
def Lz:Hn Tryz.prog := .tw 14 .nil (.jx [] ⟨[],[]⟩ [] (.lp ⟨[kdI 17],[]⟩ (.tw 18 (.cl MD [] (.tw 30 .nil .nil)) .nil)) .nil)
def Kg:Spec:=⟨187,⟨[(0,.dat (.sl Yq3)),(1,.dat (.sl Yq3)),(2,.fn 188 [])],[]⟩,[⟨[kdB 0],[]⟩],fun x=>lD x.1 x.2⟩
def Mz:OkSpec Tryz.prog:=⟨Kg,ae func187 Lz (by kernel_rfl) (by kernel_rfl),call187⟩

def dh (xa:Tq3) (xb:Tq3):Option Bool :=
 (lD xa xb).bind fun t14=>some (t14)
def KV:Hn Tryz.prog := .cl Mz [] .nil
def MK:Spec:=⟨176,⟨[(0,.dat Yq9),(1,.dat Yq9)],[]⟩,[⟨[kdB 0],[]⟩],fun x=>dh x.1 x.2⟩
def jy:OkSpec Tryz.prog:=⟨MK,ae func176 KV (by kernel_rfl) (by kernel_rfl),call176⟩

def j7 (xa:Tq1):Option co :=
 (eo xa.2.2.2.2.1 xa.1).bind fun i81=>cond (decide (i81=0)) ((aa xa.2.2.2.1 0).bind fun x1=>(dh xa.2.2.2.2.1 x1).bind fun t2=>cond (!t2) (some ((8,3,0,0))) (some ((i81,3,0,0)))) (some ((i81,3,0,0)))
def Ji:Hn Tryz.prog := .cl pE [] (.mix [] [0,1,2,3,4,5,6,7,8,9] [10,11,12] [] (.two 15 (.cl jy [] (.tw 24 .nil .nil)) .nil))
def Mr:Spec:=⟨144,⟨[(0,.dat Yq1),(1,.nilp)],[]⟩,[⟨[(0,.agg [.dat Yq2,.dat Yq2,.dat Yq2,.dat Yq2])],[]⟩],fun x=>j7 x⟩
def KA:OkSpec Tryz.prog:=⟨Mr,ae func144 Ji (by kernel_rfl) (by kernel_rfl),call144⟩

def lT (xa:Int) (qa0:Int) (qa1:Tq6) (qa2:(List Tq3)) (qa3:Tq3):Option Bool :=
 some ((decide (0≤xa))&&(decide (xa < qa0)))
def J6:Hn Tryz.prog := .gp 4 .nil
def Nk:Spec:=⟨189,⟨[kdI 0,(1,.ptr 0 0)],[bkN 67 [.is 1 (.dat Yq2),.is 2 (.dat Yq5),.is 3 (.dat (.sl Yq9)),.is 4 (.dat (.sl Yq3))],bkM,bkM,bkM,bkM]⟩,[⟨[kdB 0],[bkC 0 67 [.is 1 (.any),.is 2 (.any),.is 3 (.any),.is 4 (.any)],bkU 1,bkU 2,bkU 3,bkU 4]⟩],fun x=>lT x.1 x.2.1 x.2.2.1 x.2.2.2.1 x.2.2.2.2⟩
def Ak:OkSpec Tryz.prog:=⟨Nk,ae func189 J6 (by kernel_rfl) (by kernel_rfl),call189⟩
def mL (xa:bH):Int→Option (Int⊕(Unit⊕Int)):=fun i1=>cond (decide (i1 < (xa.2.1.length:Int))) ((aa xa.2.1 i1).bind fun x2=>(lT x2.1 xa.1 xa.2.1 xa.2.2.1 xa.2.2.2).bind fun t3=>(cond (!t3) (some (true)) ((lT x2.2 xa.1 xa.2.1 xa.2.2.1 xa.2.2.2).bind fun t4=>some (!t4))).bind fun t5=>cond (t5) (some (.inr ((.inr (7))))) (some (.inl (IntKind.wrap .i64 (i1 + 1))))) (some (.inr ((.inl ()))))
def mP (xa:bH):Int→Option (Int⊕(Unit⊕Int)):=fun i1=>cond (decide (i1 < (xa.2.2.1.length:Int))) ((aa xa.2.2.1 i1).bind fun x2=>(eo x2 xa.1).bind fun i3=>cond (!decide (i3=0)) (some (.inr ((.inr (i3))))) (some (.inl (IntKind.wrap .i64 (i1 + 1))))) (some (.inr ((.inl ()))))
def ep (xa:bH):Option Int :=
 cond (decide (xa.1 < 0)) (some (7)) (cond (((decide (16 < xa.1))||(decide (16 < (xa.2.1.length:Int))))||(decide (16 < (xa.2.2.1.length:Int)))) (some (6)) ((loop (mL xa) 0).bind fun o=>match o with | .inr r=>some r | .inl ()=>(loop (mP xa) 0).bind fun o=>match o with | .inr r=>some r | .inl ()=>(eo xa.2.2.2 xa.1).bind fun i1=>some (i1)))
def Jw:Hn Tryz.prog := .tw 11 .nil (.gp 4 (.wt 21 (.gp 4 (.tw 26 .nil (.jx [(0,0),(0,1),(0,2),(0,3)] ⟨[],[bkC 0 67 [.is 1 (.any),.is 2 (.any),.is 3 (.any),.is 4 (.any)],bkU 2,bkU 3,bkU 4,bkU 5]⟩ [0] (.lp ⟨[kdI 31],[bkC 0 67 [.is 1 (.any),.is 2 (.any),.is 3 (.any),.is 4 (.any)],bkU 2,bkU 3,bkU 4,bkU 5]⟩ (.tw 32 (.cl Ak [] (.gj 5 ⟨[kdB 46],[bkC 0 67 [.is 1 (.any),.is 2 (.any),.is 3 (.any),.is 4 (.any)],bkU 2,bkU 3,bkU 4,bkU 5]⟩ [0] (.two 40 .nil (.cl Ak [] .nil)) (.tw 46 .nil .nil))) .nil)) (.jx [] ⟨[],[]⟩ [] (.lp ⟨[kdI 51],[]⟩ (.tw 52 (.cl pE [] (.tw 60 .nil .nil)) .nil)) (.cl pE [] .nil)))))))
def Ni:Spec:=⟨177,⟨[(0,.dat fg)],[]⟩,[⟨[kdI 0],[]⟩],fun x=>ep x⟩
def Ad:OkSpec Tryz.prog:=⟨Ni,ae func177 Jw (by kernel_rfl) (by kernel_rfl),call177⟩
def mf (xa:Tq1):Int→Option (Int⊕(Unit⊕co)):=fun i1=>cond (decide (i1 < (xa.2.2.2.2.2.1.length:Int))) ((aa xa.2.2.2.2.2.1 i1).bind fun x2=>(bf 1 1).bind fun _=>(ep (x2.1,x2.2.1,x2.2.2.1,x2.2.2.2)).bind fun i3=>cond (!decide (i3=0)) (some (.inr ((.inr ((i3,4,i1,0)))))) (some (.inl (IntKind.wrap .i64 (i1 + 1))))) (some (.inr ((.inl ()))))
def jZ (xa:Tq1):Option co :=
 cond (decide (65536 < (xa.2.2.2.2.2.1.length:Int))) (some ((6,4,0,0))) ((loop (mf xa) 0).bind fun o=>match o with | .inr r=>some r | .inl ()=>some ((0,0,0,0)))
def JK:Hn Tryz.prog := .tw 11 .nil (.jx [] ⟨[],[bkC 2 160 [.lit (.int .i64 0),.lit (.int .i64 0),.lit (.int .i64 0),.lit (.int .i64 0)]]⟩ [2,0] (.lp ⟨[kdI 16],[bkC 2 160 [.lit (.int .i64 0),.lit (.int .i64 0),.lit (.int .i64 0),.lit (.int .i64 0)]]⟩ (.tw 17 (.cl oQ3 [] (.cl Ad [] (.tw 26 .nil .nil))) .nil)) .nil)
def JU:Spec:=⟨145,⟨[(0,.dat Yq1),(1,.nilp)],[]⟩,[⟨[(0,.agg [.dat Yq2,.dat Yq2,.dat Yq2,.dat Yq2])],[]⟩],fun x=>jZ x⟩
def LC:OkSpec Tryz.prog:=⟨JU,ae func145 JK (by kernel_rfl) (by kernel_rfl),call145⟩
def jF (xa:Tq1):bP→Option (bP⊕(Unit⊕co)):=fun (i1,i2)=>cond (decide (i2 < (xa.2.2.2.2.2.2.length:Int))) ((aa xa.2.2.2.2.2.2 i2).bind fun x3=>(bf 1 1).bind fun _=>cond (decide (65536 < (IntKind.wrap .i64 (i1 + (x3.1.length:Int))))) (some (.inr ((.inr ((6,5,i2,0)))))) (some (.inl ((IntKind.wrap .i64 (i1 + (x3.1.length:Int)),IntKind.wrap .i64 (i2 + 1)))))) (some (.inr ((.inl ()))))
def jL (xa:Tq1):Option co :=
 cond (decide ((xa.2.2.2.2.2.2.length:Int)=0)) (some ((14,5,0,0))) (cond (decide (65536 < (xa.2.2.2.2.2.2.length:Int))) (some ((6,5,0,0))) ((loop (jF xa) (0,0)).bind fun o=>match o with | .inr r=>some r | .inl ()=>some ((0,0,0,0))))
def Mp:Hn Tryz.prog := .tw 11 .nil (.tw 16 .nil (.jx [] ⟨[],[bkC 2 160 [.lit (.int .i64 0),.lit (.int .i64 0),.lit (.int .i64 0),.lit (.int .i64 0)]]⟩ [2,0] (.lp ⟨[kdI 5,kdI 21],[bkC 2 160 [.lit (.int .i64 0),.lit (.int .i64 0),.lit (.int .i64 0),.lit (.int .i64 0)]]⟩ (.tw 22 (.cl oQ3 [] (.tw 34 .nil .nil)) .nil)) .nil))
def ML:Spec:=⟨146,⟨[(0,.dat Yq1),(1,.nilp)],[]⟩,[⟨[(0,.agg [.dat Yq2,.dat Yq2,.dat Yq2,.dat Yq2])],[]⟩],fun x=>jL x⟩
def Lp:OkSpec Tryz.prog:=⟨ML,ae func146 Mp (by kernel_rfl) (by kernel_rfl),call146⟩

def mE (xa:Int):Option (Bool×Bool×Bool×Bool) :=
 cond (decide (xa=0)) (some ((false,false,false,true))) (cond (decide (xa=1)) (some ((true,true,false,true))) ((cond (decide (xa=2)) (some (decide (xa=2))) (some (decide (xa=3))):Option Bool).bind fun t18=>cond (t18) (some ((true,true,true,true))) (cond (decide (xa=4)) (some ((false,true,false,true))) (cond (decide (xa=5)) (some ((true,false,false,true))) (some ((false,false,false,false)))))))
def Mk:Hn Tryz.prog := .tw 5 .nil (.tw 8 .nil (.sq [] ⟨[kdB 11],[]⟩ [] (.tw 11 .nil .nil) (.tw 11 .nil (.tw 15 .nil (.tw 18 .nil .nil)))))
def Js:Spec:=⟨201,⟨[kdI 0],[]⟩,[⟨[(0,.tup [.agg [.dat .bool,.dat .bool,.dat .bool],.dat .bool])],[]⟩],fun x=>mE x⟩
def JN:OkSpec Tryz.prog:=⟨Js,ae func201 Mk (by kernel_rfl) (by kernel_rfl),call201⟩

def na (xa:Tq5) (xb:(Bool×Bool×Bool)):Option Tq5 :=
 (cond (xb.1) (some (xa.2.1)) (some (0)):Option Int).bind fun i22=>(cond (xb.2.1) (some (xa.2.2.1)) (some (0)):Option Int).bind fun i25=>cond (xb.2.2) (some ((xa.1,i22,i25,xa.2.2.2.1,xa.2.2.2.2))) (some ((xa.1,i22,i25,0,false)))
def M4:Hn Tryz.prog := .pl (.pl (.sq [(6,0)] ⟨[],[bkC 6 62 [.is 1 (.any),.dat Yq2,.lit (.int .i64 0),.lit (.int .i64 0),.lit (.bool false)],bkU 9]⟩ [6] (.tw 10 .nil .nil) (.sq [(6,1)] ⟨[],[bkC 6 62 [.is 1 (.any),.is 2 (.any),.dat Yq2,.lit (.int .i64 0),.lit (.bool false)],bkU 9,bkU 11]⟩ [6] (.tw 15 .nil .nil) (.tw 20 (.mix [([0,1,2,3,4],5)] [6] [7] [6] .nil) .nil))))
def JJ:Spec:=⟨202,⟨[(0,.dat Yq8),(1,.dat (.cons .bool (.cons .bool (.one .bool))))],[]⟩,[⟨[(0,.agg [.dat Yq2,.dat Yq2,.dat Yq2,.dat Yq2,.dat .bool])],[]⟩],fun x=>na x.1 x.2⟩
def MH:OkSpec Tryz.prog:=⟨JJ,ae func202 M4 (by kernel_rfl) (by kernel_rfl),call202⟩

def m6 (xa:Tq5):Option (Bool×Bool×Bool×Int) :=
 (mE xa.1).bind fun (t67,t68,t69,t70)=>cond (!t70) (some ((false,false,false,3))) ((na (xa.1,xa.2.1,xa.2.2.1,xa.2.2.2.1,xa.2.2.2.2) (t67,t68,t69)).bind fun (i1,i2,i3,i4,t5)=>cond (!((decide (xa.1=i1))&&((decide (xa.2.1=i2))&&((decide (xa.2.2.1=i3))&&((decide (xa.2.2.2.1=i4))&&(xa.2.2.2.2 == t5)))))) (some ((false,false,false,3))) (some ((t67,t68,t69,0))))
def Mi:Hn Tryz.prog := .cl JN [] (.mix [([0,1,2,3,4,5],6)] [7,8] [] [] (.two 14 .nil (.cl MH [] (.tw 20 .nil .nil))))
def LP:Spec:=⟨193,⟨[(0,.dat Yq8)],[]⟩,[⟨[(0,.tup [.agg [.dat .bool,.dat .bool,.dat .bool],.dat Yq2])],[]⟩],fun x=>m6 x⟩
def MR:OkSpec Tryz.prog:=⟨LP,ae func193 Mi (by kernel_rfl) (by kernel_rfl),call193⟩

def lW (xa:Int) (qa0:(List Tq3)):Option Bool :=
 some ((decide (0≤xa))&&(decide (xa < (qa0.length:Int))))
def J9:Hn Tryz.prog := .gp 4 .nil
def L6:Spec:=⟨194,⟨[kdI 0,(1,.ptr 0 0)],[bkN 23 [.is 1 (.dat (.sl Yq9))],bkM]⟩,[⟨[kdB 0],[bkC 0 23 [.is 1 (.any)],bkU 1]⟩],fun x=>lW x.1 x.2⟩
def Ah:OkSpec Tryz.prog:=⟨L6,ae func194 J9 (by kernel_rfl) (by kernel_rfl),call194⟩
def AA (xa:Tq3) (xb:Tq3) (xc:Int) (xd:Int):aR→Option (aR⊕(List Tq5)):=fun (l1,i2)=>cond (decide (i2 < (xa.length:Int))) ((aa xa i2).bind fun x3=>(aa xb i2).bind fun x4=>(app l1 (([(x3.1,x4.1,xc,IntKind.wrap .i64 (xd + i2),false)]:List Tq5))).bind fun z5=>(aa xb i2).bind fun x6=>cond (x6.2) ((aa xb i2).bind fun x7=>(aa xa i2).bind fun x8=>(app z5 (([(x7.1,x8.1,xc,IntKind.wrap .i64 (xd + i2),true)]:List Tq5))).bind fun z9=>some (.inl ((z9,IntKind.wrap .i64 (i2 + 1))))) (some (.inl ((z5,IntKind.wrap .i64 (i2 + 1)))))) (some (.inr (l1)))
def jW (xa:Tq3) (xb:Tq3) (xc:Int) (xd:Int):Option ((List Tq5)) :=
 (loop (AA xa xb xc xd) ([],0)).bind fun l1=>some (l1)
def LX:Hn Tryz.prog := .jn [] ⟨[(9,.own 247 Yq8)],[]⟩ [] (.lp ⟨[(9,.own 247 Yq8),kdI 13],[]⟩ (.tw 14 (.mix [([0,1,2,3,4,5,6,7,8,9,10,11,12,13,14,15],16)] [] [17,18] [] (.tw 38 (.mix [([0,1,2,3,4,5,6,7,8,9,10,11,12,13,14,15],16)] [] [17,18] [] .nil) .nil)) .nil)) .nil
def M6:Spec:=⟨203,⟨[(0,.dat (.sl Yq3)),(1,.dat (.sl Yq3)),kdI 2,kdI 3],[]⟩,[⟨[(0,.own 247 Yq8)],[]⟩],fun x=>jW x.1 x.2.1 x.2.2.1 x.2.2.2⟩
def uB:OkSpec Tryz.prog:=⟨M6,ae func203 LX (by kernel_rfl) (by kernel_rfl),call203⟩

def fH (xa:Tq3) (xb:Tq3) (xc:Int) (xd:Int):Option (aR) :=
 (dh xa xb).bind fun t30=>cond (!t30) (some (([],8))) ((jW xa xb xc xd).bind fun l38=>some ((l38,0)))
def Ng:Hn Tryz.prog := .cl jy [] (.tw 13 .nil (.cl uB [] .nil))
def LN:Spec:=⟨195,⟨[(0,.dat Yq9),(1,.dat Yq9),kdI 2,kdI 3],[]⟩,[⟨[(0,.tup [.own 247 Yq8,.dat Yq2])],[]⟩],fun x=>fH x.1 x.2.1 x.2.2.1 x.2.2.2⟩
def pw:OkSpec Tryz.prog:=⟨LN,ae func195 Ng (by kernel_rfl) (by kernel_rfl),call195⟩
def uP (xa:Tq3) (xc:Bool):(Tq3×Int)→Option ((Tq3×Int)⊕Tq3):=fun (l1,i2)=>cond (decide (i2 < (xa.length:Int))) ((aa xa i2).bind fun x3=>(app l1 (([(x3.1,x3.2||xc)]:List bq))).bind fun z4=>some (.inl ((z4,IntKind.wrap .i64 (i2 + 1))))) (some (.inr (l1)))
def nh (xa:Tq3) (xb:Int) (xc:Bool):Option (Tq3) :=
 (loop (uP xa xc) ((([(xb,false)]:List bq),0))).bind fun l1=>some (l1)
def LB:Hn Tryz.prog := .jn [] ⟨[(7,.own 69 Yq3),(12,.any)],[]⟩ [4,0] (.lp ⟨[(7,.own 69 Yq3),kdI 16],[]⟩ (.tw 17 (.gp 1 .nil) .nil)) .nil
def Ln:Spec:=⟨204,⟨[(0,.dat Yq9),kdI 1,kdB 2],[]⟩,[⟨[(0,.agg [.own 69 Yq3])],[]⟩],fun x=>nh x.1 x.2.1 x.2.2⟩
def Lq:OkSpec Tryz.prog:=⟨Ln,ae func204 LB (by kernel_rfl) (by kernel_rfl),call204⟩

def mX (xa:Tq3) (xb:Tq3) (xc:Int) (xd:Bool):Option (aR) :=
 (nh xa xc xd).bind fun l1=>(dh xb l1).bind fun t2=>cond (!t2) (some (([],8))) ((aa xb 0).bind fun x3=>(subL xb 1 (xb.length:Int)).bind fun y4=>(jW xa y4 1 1).bind fun l5=>(app (([(xc,x3.1,2,0,false)]:List Tq5)) l5).bind fun z6=>some ((z6,0)))
def LJ:Hn Tryz.prog := .mix [([0,1,2,3],4)] [] [5,6] [] (.cl Lq [] (.cl jy [4] (.tw 17 .nil (.mix [([0,1,2,3,4,5],6)] [] [7,8,9] [] (.cl uB [] .nil)))))
def Na:Spec:=⟨196,⟨[(0,.dat Yq9),(1,.dat Yq9),kdI 2,kdB 3],[]⟩,[⟨[(0,.tup [.own 247 Yq8,.dat Yq2])],[]⟩],fun x=>mX x.1 x.2.1 x.2.2.1 x.2.2.2⟩
def Lf:OkSpec Tryz.prog:=⟨Na,ae func196 LJ (by kernel_rfl) (by kernel_rfl),call196⟩

def pZ (xa:bq):Option Bool :=
 some (!xa.2)
def KQ:Hn Tryz.prog := .nil
def LH:Spec:=⟨211,⟨[(0,.dat Yq3)],[]⟩,[⟨[kdB 0],[]⟩],fun x=>pZ x⟩
def LY:OkSpec Tryz.prog:=⟨LH,ae func211 KQ (by kernel_rfl) (by kernel_rfl),call211⟩
def pK (xa:Tq3):Int→Option (Int⊕(Unit⊕Int)):=fun i1=>cond (decide (i1 < (xa.length:Int))) ((aa xa i1).bind fun x2=>(pZ (x2.1,x2.2)).bind fun t3=>cond (t3) (some (.inr ((.inr (i1))))) (some (.inl (IntKind.wrap .i64 (i1 + 1))))) (some (.inr ((.inl ()))))
def pM (xa:Tq3):Option Int :=
 (loop (pK xa) 0).bind fun o=>match o with | .inr r=>some r | .inl ()=>some ((-1))
def Lr:Hn Tryz.prog := .jx [] ⟨[],[]⟩ [] (.lp ⟨[kdI 8],[]⟩ (.tw 9 (.cl LY [] (.tw 16 .nil .nil)) .nil)) .nil
def Mo:Spec:=⟨102,⟨[(0,.dat (.sl Yq3)),(1,.fn 211 [])],[]⟩,[⟨[kdI 0],[]⟩],fun x=>pM x⟩
def K7:OkSpec Tryz.prog:=⟨Mo,ae func102 Lr (by kernel_rfl) (by kernel_rfl),call102⟩

def pL (xa:Tq3):Option Bool :=
 (pM xa).bind fun i10=>some (decide (0≤i10))
def LM:Hn Tryz.prog := .cl K7 [] .nil
def Ke:Spec:=⟨66,⟨[(0,.dat (.sl Yq3)),(1,.fn 211 [])],[]⟩,[⟨[kdB 0],[]⟩],fun x=>pL x⟩
def Jn:OkSpec Tryz.prog:=⟨Ke,ae func66 LM (by kernel_rfl) (by kernel_rfl),call66⟩

def lQ (xa:Tq3) (xb:Tq3) (xc:Bool):Option Bool :=
 (cond (decide ((xa.length:Int)=0)) (some (true)) ((aa xa 0).bind fun x70=>some (x70.2))).bind fun t68=>(cond (t68) (some (true)) ((dh xa xb).bind fun t90=>some (!t90))).bind fun t86=>cond (t86) (some (false)) ((subL xa 1 (xa.length:Int)).bind fun y95=>(pL y95).bind fun t1=>some ((!xc)||(!t1)))
def M1:Hn Tryz.prog := .gj 5 ⟨[kdB 18],[]⟩ [] (.two 12 .nil .nil) (.wt 19 (.gj 4 ⟨[kdB 24],[]⟩ [] (.two 19 .nil (.cl jy [] .nil)) (.tw 24 .nil (.cl Jn [] (.gp 2 .nil)))))
def KX:Spec:=⟨205,⟨[(0,.dat Yq9),(1,.dat Yq9),kdB 2],[]⟩,[⟨[kdB 0],[]⟩],fun x=>lQ x.1 x.2.1 x.2.2⟩
def Lc:OkSpec Tryz.prog:=⟨KX,ae func205 M1 (by kernel_rfl) (by kernel_rfl),call205⟩

def mJ (xa:Tq3) (xb:Tq3) (xc:Int) (xd:Bool):Option (aR) :=
 (lQ xa xb xd).bind fun t1=>cond (!t1) (some (([],8))) ((aa xa 0).bind fun x2=>(aa xb 0).bind fun x3=>(subL xa 1 (xa.length:Int)).bind fun y4=>(subL xb 1 (xb.length:Int)).bind fun y5=>(jW y4 y5 1 1).bind fun l6=>(app (([(x2.1,xc,3,0,false),(xc,x3.1,2,0,false)]:List Tq5)) l6).bind fun z7=>some ((z7,0)))
def Mc:Hn Tryz.prog := .cl Lc [] (.tw 15 .nil (.mix [([0,1,2,3,4,5,6,7,8,9,10,11,12,13],14)] [15] [] [] (.mix [([0,1,2,3,4,5,6],7)] [] [8,9,10] [] (.cl uB [] .nil))))
def LD:Spec:=⟨197,⟨[(0,.dat Yq9),(1,.dat Yq9),kdI 2,kdB 3],[]⟩,[⟨[(0,.tup [.own 247 Yq8,.dat Yq2])],[]⟩],fun x=>mJ x.1 x.2.1 x.2.2.1 x.2.2.2⟩
def JZ:OkSpec Tryz.prog:=⟨LD,ae func197 Mc (by kernel_rfl) (by kernel_rfl),call197⟩

def hY (xa:Tq5) (xb:(List Tq3)) (xc:Int):Option (aR) :=
 (m6 (xa.1,xa.2.1,xa.2.2.1,xa.2.2.2.1,xa.2.2.2.2)).bind fun (t1,t2,t3,i4)=>cond (!decide (i4=0)) (some (([],i4))) ((cond (t1) ((lW xa.2.1 xb).bind fun t5=>some (!t5)) (some (false))).bind fun t6=>(cond (t6) (some (true)) ((cond (t2) ((lW xa.2.2.1 xb).bind fun t7=>some (!t7)) (some (false))).bind fun t8=>some (t8))).bind fun t9=>cond (t9||(t3&&((decide (xa.2.2.2.1 < 0))||(decide (xc≤xa.2.2.2.1))))) (some (([],7))) (cond (decide (xa.1=1)) ((aa xb xa.2.2.1).bind fun x10=>(aa xb xa.2.1).bind fun x11=>(fH x10 x11 1 0).bind fun (l12,i13)=>some ((l12,i13))) (cond (decide (xa.1=2)) ((aa xb xa.2.2.1).bind fun x14=>(aa xb xa.2.1).bind fun x15=>(mX x14 x15 xa.2.2.2.1 xa.2.2.2.2).bind fun (l16,i17)=>some ((l16,i17))) (cond (decide (xa.1=3)) ((aa xb xa.2.2.1).bind fun x18=>(aa xb xa.2.1).bind fun x19=>(mJ x18 x19 xa.2.2.2.1 xa.2.2.2.2).bind fun (l20,i21)=>some ((l20,i21))) (some (([],0)))))))
def Kc:Hn Tryz.prog := .cl MR [] (.tw 17 .nil (.mc 2 0 3 (.gj 5 ⟨[kdB 28],[bkC 2 23 [.is 1 (.any)],bkU 7]⟩ [2] (.two 22 (.cl Ah [] .nil) .nil) (.wt 29 (.gj 9 ⟨[kdB 39],[bkC 2 23 [.is 1 (.any)],bkU 7]⟩ [2] (.two 29 .nil (.wt 32 (.gj 5 ⟨[kdB 38],[bkC 2 23 [.is 1 (.any)],bkU 7]⟩ [2] (.two 32 (.cl Ah [] .nil) .nil) .nil))) (.wt 40 (.gp 13 (.tw 54 .nil (.tw 57 (.mix [([0,1,2,3,4,5,6,7,8,9],10)] [11,12,13,14] [] [] (.cl pw [] .nil)) (.tw 72 (.mix [([0,1,2,3,4,5,6,7,8,9,10,11,12,13],14)] [15,16,17,18] [] [] (.cl Lf [] .nil)) (.tw 91 (.mix [([0,1,2,3,4,5,6,7,8,9,10,11,12,13],14)] [15,16,17,18] [] [] (.cl JZ [] .nil)) .nil)))))))))))
def JI:Spec:=⟨190,⟨[(0,.dat Yq8),(1,.dat (.sl Yq9)),kdI 2],[]⟩,[⟨[(0,.tup [.own 247 Yq8,.dat Yq2])],[]⟩],fun x=>hY x.1 x.2.1 x.2.2⟩
def Mg:OkSpec Tryz.prog:=⟨JI,ae func190 Kc (by kernel_rfl) (by kernel_rfl),call190⟩

def qC (xa:Tq5) (xb:(List Tq3)) (xc:Int):Option Int :=
 (hY (xa.1,xa.2.1,xa.2.2.1,xa.2.2.2.1,xa.2.2.2.2) xb xc).bind fun (l17,i18)=>some (i18)
def LG:Hn Tryz.prog := .cl Mg [] .nil
def LE:Spec:=⟨178,⟨[(0,.dat Yq8),(1,.dat (.sl Yq9)),kdI 2],[]⟩,[⟨[kdI 0],[]⟩],fun x=>qC x.1 x.2.1 x.2.2⟩
def Mw:OkSpec Tryz.prog:=⟨LE,ae func178 LG (by kernel_rfl) (by kernel_rfl),call178⟩

def ib (xa:Tq8):Option Bool :=
 some (((!decide (xa.2.1=0))||(!decide (xa.2.2.1=0)))||(decide (0 < (xa.2.2.2.2.2.length:Int))))
def Kj:Hn Tryz.prog := .gp 3 (.wt 11 (.gp 4 .nil))
def My:Spec:=⟨206,⟨[(0,.dat fa)],[]⟩,[⟨[kdB 0],[]⟩],fun x=>ib x⟩
def uc:OkSpec Tryz.prog:=⟨My,ae func206 Kj (by kernel_rfl) (by kernel_rfl),call206⟩

def km (xa:Tq8):Option Int :=
 (cond (decide (xa.1=1)) ((cond ((decide ((xa.2.2.2.1.length:Int)=1))&&(decide ((xa.2.2.2.2.1.length:Int)=0))) ((ib (xa.1,xa.2.1,xa.2.2.1,xa.2.2.2.1,xa.2.2.2.2.1,xa.2.2.2.2.2)).bind fun t1=>some (!t1)) (some (false))).bind fun t2=>some (t2)) (cond (decide (xa.1=2)) ((cond (decide (0 < (xa.2.2.2.1.length:Int))) ((ib (xa.1,xa.2.1,xa.2.2.1,xa.2.2.2.1,xa.2.2.2.2.1,xa.2.2.2.2.2)).bind fun t3=>some (!t3)) (some (false))).bind fun t4=>some (t4)) (cond (decide (xa.1=3)) ((cond ((decide ((xa.2.2.2.1.length:Int)=0))&&(decide ((xa.2.2.2.2.1.length:Int)=0))) ((ib (xa.1,xa.2.1,xa.2.2.1,xa.2.2.2.1,xa.2.2.2.2.1,xa.2.2.2.2.2)).bind fun t5=>some (!t5)) (some (false))).bind fun t6=>some (t6)) (cond (decide (xa.1=4)) (some (decide ((xa.2.2.2.1.length:Int)=1))) (some (false))))):Option Bool).bind fun t7=>cond (!t7) (some (3)) (cond (((decide (16 < (xa.2.2.2.1.length:Int)))||(decide (16 < (xa.2.2.2.2.1.length:Int))))||(decide (16 < (xa.2.2.2.2.2.length:Int)))) (some (6)) (some (0)))
def Nb:Hn Tryz.prog := .pl (.pl (.sq [] ⟨[kdB 3],[]⟩ [] (.tw 6 (.gp 4 (.wt 18 (.gj 3 ⟨[kdB 22],[]⟩ [] (.two 18 (.cl uc [] .nil) .nil) .nil))) (.tw 23 (.gj 3 ⟨[kdB 33],[]⟩ [] (.two 29 (.cl uc [] .nil) .nil) .nil) (.tw 34 (.gp 4 (.wt 46 (.gj 3 ⟨[kdB 50],[]⟩ [] (.two 46 (.cl uc [] .nil) .nil) .nil))) (.tw 51 .nil .nil)))) (.tw 58 .nil (.gp 4 (.wt 69 (.gp 4 (.tw 74 .nil .nil)))))))
def Kk:Spec:=⟨198,⟨[(0,.dat fa)],[]⟩,[⟨[kdI 0],[]⟩],fun x=>km x⟩
def LF:OkSpec Tryz.prog:=⟨Kk,ae func198 Nb (by kernel_rfl) (by kernel_rfl),call198⟩

def g9 (xa:Int):Option Int :=
 some (xa)
def JG:Hn Tryz.prog := .nil
def NE:Spec:=⟨207,⟨[kdI 0],[]⟩,[⟨[(0,.fn 212 [.ptr 0 0])],[bkN 3 [.dat Yq2]]⟩],fun x=>g9 x⟩
def py:OkSpec Tryz.prog:=⟨NE,ae func207 JG (by kernel_rfl) (by kernel_rfl),call207⟩

def gL (xa:Int) (qa0:Int):Option Bool :=
 some ((decide (xa < 0))||(decide (qa0≤xa)))
def MY:Hn Tryz.prog := .gp 3 .nil
def MZ:Spec:=⟨212,⟨[kdI 0,(1,.ptr 0 0)],[bkN 3 [.is 1 (.dat Yq2)],bkM]⟩,[⟨[kdB 0],[bkC 0 3 [.is 1 (.any)],bkU 1]⟩],fun x=>gL x.1 x.2⟩
def tY:OkSpec Tryz.prog:=⟨MZ,ae func212 MY (by kernel_rfl) (by kernel_rfl),call212⟩
def lF (xa:(List Int)) (qa0:Int):Int→Option (Int⊕(Unit⊕Int)):=fun i1=>cond (decide (i1 < (xa.length:Int))) ((aa xa i1).bind fun x2=>(gL x2 qa0).bind fun t3=>cond (t3) (some (.inr ((.inr (i1))))) (some (.inl (IntKind.wrap .i64 (i1 + 1))))) (some (.inr ((.inl ()))))
def pP (xa:(List Int)) (qa0:Int):Option Int :=
 (loop (lF xa qa0) 0).bind fun o=>match o with | .inr r=>some r | .inl ()=>some ((-1))
def Lk:Hn Tryz.prog := .jx [] ⟨[],[bkC 0 3 [.is 1 (.any)],bkU 1]⟩ [0] (.lp ⟨[kdI 8],[bkC 0 3 [.is 1 (.any)],bkU 1]⟩ (.tw 9 (.cl tY [] (.tw 16 .nil .nil)) .nil)) .nil
def KN:Spec:=⟨213,⟨[(0,.dat (.sl Yq2)),(1,.fn 212 [.ptr 0 0])],[bkN 3 [.is 1 (.dat Yq2)],bkM]⟩,[⟨[kdI 0],[bkC 0 3 [.is 1 (.any)],bkU 1]⟩],fun x=>pP x.1 x.2⟩
def KD:OkSpec Tryz.prog:=⟨KN,ae func213 Lk (by kernel_rfl) (by kernel_rfl),call213⟩

def gI (xa:(List Int)) (qa0:Int):Option Bool :=
 (pP xa qa0).bind fun i10=>some (decide (0≤i10))
def Md:Hn Tryz.prog := .cl KD [] .nil
def LL:Spec:=⟨208,⟨[(0,.dat (.sl Yq2)),(1,.fn 212 [.ptr 0 0])],[bkN 3 [.is 1 (.dat Yq2)],bkM]⟩,[⟨[kdB 0],[bkC 0 3 [.is 1 (.any)],bkU 1]⟩],fun x=>gI x.1 x.2⟩
def um:OkSpec Tryz.prog:=⟨LL,ae func208 Md (by kernel_rfl) (by kernel_rfl),call208⟩

def mT (xa:Tq8) (xb:je):Option Bool :=
 (g9 (xb.2.2.1.length:Int)).bind fun i1=>(g9 xb.1).bind fun i2=>(gI xa.2.2.2.1 i2).bind fun t3=>cond (t3) (some (false)) ((gI xa.2.2.2.2.1 i1).bind fun t4=>cond (t4) (some (false)) ((g9 xb.2.1).bind fun i5=>(gI xa.2.2.2.2.2 i5).bind fun t6=>cond (t6) (some (false)) (cond (!decide (xa.1=4)) (some (true)) ((gL xa.2.2.1 i1).bind fun t7=>cond (!t7) ((g9 (xb.2.2.2.2.length:Int)).bind fun i8=>(gL xa.2.1 i8).bind fun t9=>some (!t9)) (some (false))))))
def Jh:Hn Tryz.prog := .cl py [] (.mix [([0,1,2,3],4),([],5),([6,7,8,9],10),([11,12,13,14,15,16],17)] [] [18,19] [4] (.cl py [] (.mc 6 0 7 (.cl um [] (.two 16 .nil (.wt 1000011 (.mc 4 0 5 (.cl um [] (.two 22 .nil (.cl py [] (.mc 14 0 15 (.cl um [] (.tw 29 .nil (.mix [([0,1,2,3,4,5,6],7),([8,9,10,11,12,14,15],13)] [] [16,17,18,19,20] [4] (.two 33 .nil (.cl tY [] (.two 39 (.cl py [] (.mc 21 0 22 (.cl tY [] .nil))) .nil)))))))))))))))))
def Lo:Spec:=⟨199,⟨[(0,.dat fa),(1,.dat (.cons Yq2 (.cons Yq2 (.cons (.sl Yq9) (.cons Yq9 (.one (.sl fg)))))))],[]⟩,[⟨[kdB 0],[]⟩],fun x=>mT x.1 x.2⟩
def Ml:OkSpec Tryz.prog:=⟨Lo,ae func199 Jh (by kernel_rfl) (by kernel_rfl),call199⟩
def ml (xa:bH) (xc:(List Tq3)):Int→Option (Int⊕(Unit⊕Int)):=fun i1=>cond (decide (i1 < (xa.2.2.1.length:Int))) ((aa xa.2.2.1 i1).bind fun x2=>(aa xc i1).bind fun x3=>(dh x3 x2).bind fun t4=>cond (!t4) (some (.inr ((.inr (8))))) (some (.inl (IntKind.wrap .i64 (i1 + 1))))) (some (.inr ((.inl ()))))
def qp (xa:bH) (xb:(List Int)) (xc:(List Tq3)) (xd:Tq3):Option Int :=
 (ep (xa.1,xa.2.1,xa.2.2.1,xa.2.2.2)).bind fun i1=>cond (!decide (i1=0)) (some (i1)) (cond ((!decide ((xb.length:Int)=xa.1))||(!decide ((xc.length:Int)=(xa.2.2.1.length:Int)))) (some (2)) ((loop (ml xa xc) 0).bind fun o=>match o with | .inr r=>some r | .inl ()=>(dh xd xa.2.2.2).bind fun t2=>cond (!t2) (some (8)) (some (0))))
def K5:Hn Tryz.prog := .cl Ad [] (.tw 15 .nil (.gp 6 (.tw 29 .nil (.jx [] ⟨[],[]⟩ [] (.lp ⟨[kdI 33],[]⟩ (.tw 34 (.mix [] [0,1,2,3,4] [5,6] [] (.cl jy [] (.tw 44 .nil .nil))) .nil)) (.cl jy [] (.tw 50 .nil .nil))))))
def MQ:Spec:=⟨209,⟨[(0,.dat fg),(1,.dat (.sl Yq2)),(2,.dat (.sl Yq9)),(3,.dat Yq9)],[]⟩,[⟨[kdI 0],[]⟩],fun x=>qp x.1 x.2.1 x.2.2.1 x.2.2.2⟩
def JS:OkSpec Tryz.prog:=⟨MQ,ae func209 K5 (by kernel_rfl) (by kernel_rfl),call209⟩

def pS (xa:Tq3):Option (Tq3) :=
 cZ xa (some ([])) ((app (([]:List bq)) xa).bind fun z21=>some (z21))
def JE:Hn Tryz.prog := .two 4 .nil .nil
def MP:Spec:=⟨215,⟨[(0,.dat (.sl Yq3))],[]⟩,[⟨[(0,.own 69 Yq3)],[]⟩],fun x=>pS x⟩
def Kq:OkSpec Tryz.prog:=⟨MP,ae func215 JE (by kernel_rfl) (by kernel_rfl),call215⟩

def m8 (xa:Tq3):Option (Tq3) :=
 (pS xa).bind fun l22=>some (l22)
def JY:Hn Tryz.prog := .cl Kq [] .nil
def KE:Spec:=⟨214,⟨[(0,.dat Yq9)],[]⟩,[⟨[(0,.agg [.own 69 Yq3])],[]⟩],fun x=>m8 x⟩
def Nx:OkSpec Tryz.prog:=⟨KE,ae func214 JY (by kernel_rfl) (by kernel_rfl),call214⟩
def ka (xb:(List Int)) (l1:Tq3):(Tq3×Int)→Option ((Tq3×Int)⊕Tq3):=fun (l2,i3)=>cond (decide (i3 < (l1.length:Int))) ((aa l2 i3).bind fun x4=>(aa xb x4.1).bind fun x5=>(aa l2 i3).bind fun x6=>(some (l2.set i3.toNat (x5,x6.2))).bind fun z7=>some (.inl ((z7,IntKind.wrap .i64 (i3 + 1))))) (some (.inr (l2)))
def ko (xa:Tq3) (xb:(List Int)):Option ((Tq3×Int)) :=
 (kj xa (xb.length:Int)).bind fun t1=>cond (!t1) (some (([],7))) ((m8 xa).bind fun l2=>(loop (ka xb l2) (l2,0)).bind fun l3=>some ((l3,0)))
def Mf:Hn Tryz.prog := .cl zY [] (.tw 13 .nil (.cl Nx [] (.jn [] ⟨[(16,.any),(18,.any)],[bkC 6 26 [.own 69 Yq3]]⟩ [6,4,0] (.lp ⟨[(18,.own 69 Yq3),kdI 20],[bkC 6 26 [.al 0]]⟩ (.tw 21 (.mix [] [0,1,2,3,4,5,6,7,8,9] [10] [] .nil) .nil)) .nil)))
def MW:Spec:=⟨210,⟨[(0,.dat Yq9),(1,.dat (.sl Yq2))],[]⟩,[⟨[(0,.tup [.agg [.own 69 Yq3],.dat Yq2])],[]⟩],fun x=>ko x.1 x.2⟩
def zR:OkSpec Tryz.prog:=⟨MW,ae func210 Mf (by kernel_rfl) (by kernel_rfl),call210⟩
def mS (xa:bH) (xb:(List Int)):aR→Option (aR⊕(List Tq5)):=fun (l1,i2)=>cond (decide (i2 < (xa.2.1.length:Int))) ((aa xa.2.1 i2).bind fun x3=>(aa xb x3.1).bind fun x4=>(aa xb x3.2).bind fun x5=>(app l1 (([(x4,x5,4,i2,false)]:List Tq5))).bind fun z6=>some (.inl ((z6,IntKind.wrap .i64 (i2 + 1))))) (some (.inr (l1)))
def ke (xa:bH) (xb:(List Int)) (xc:(List Tq3)):aR→Option (aR⊕(List Tq5)):=fun (l1,i2)=>cond (decide (i2 < (xa.2.2.1.length:Int))) ((aa xa.2.2.1 i2).bind fun x3=>(ko x3 xb).bind fun (l4,i5)=>(aa xc i2).bind fun x6=>(fH x6 l4 5 (IntKind.wrap .i64 (16 * i2))).bind fun (l7,i8)=>(app l1 l7).bind fun z9=>some (.inl ((z9,IntKind.wrap .i64 (i2 + 1))))) (some (.inr (l1)))
def kv (xa:bH) (xb:(List Int)) (xc:(List Tq3)) (xd:Tq3):Option (aR) :=
 (qp (xa.1,xa.2.1,xa.2.2.1,xa.2.2.2) xb xc xd).bind fun i1=>cond (!decide (i1=0)) (some (([],i1))) ((loop (mS xa xb) ([],0)).bind fun l2=>(loop (ke xa xb xc) (l2,0)).bind fun l3=>(ko xa.2.2.2 xb).bind fun (l4,i5)=>(fH l4 xd 6 0).bind fun (l6,i7)=>(app l3 l6).bind fun z8=>some ((z8,0)))
def JC:Hn Tryz.prog := .cl JS [] (.tw 30 .nil (.jn [] ⟨[(11,.own 247 Yq8)],[]⟩ [] (.lp ⟨[(11,.own 247 Yq8),kdI 35],[]⟩ (.tw 36 (.mix [([0,1,2,3,4,5,6,7,8,9,10,11,12],13)] [] [14,15] [] .nil) .nil)) (.jn [] ⟨[(11,.own 247 Yq8)],[]⟩ [4] (.lp ⟨[(11,.own 247 Yq8),kdI 59],[]⟩ (.tw 60 (.cl zR [] (.per 11 12 (.mix [([0,1,2,3,4,5,6],7)] [8,9,10,11,12] [] [] (.cl pw [] .nil)))) .nil)) (.cl zR [] (.per 8 9 (.cl pw [] .nil))))))
def Ls:Spec:=⟨200,⟨[(0,.dat fg),(1,.dat (.sl Yq2)),(2,.dat (.sl Yq9)),(3,.dat Yq9)],[]⟩,[⟨[(0,.tup [.own 247 Yq8,.dat Yq2])],[]⟩],fun x=>kv x.1 x.2.1 x.2.2.1 x.2.2.2⟩
def Ns:OkSpec Tryz.prog:=⟨Ls,ae func200 JC (by kernel_rfl) (by kernel_rfl),call200⟩
def gV (xa:Tq8) (xb:je):((List Tq3)×Int)→Option (((List Tq3)×Int)⊕(List Tq3)):=fun (l1,i2)=>cond (decide (i2 < (xa.2.2.2.2.1.length:Int))) ((aa xa.2.2.2.2.1 i2).bind fun x3=>(aa xb.2.2.1 x3).bind fun x4=>(app l1 (([x4]:List Tq3))).bind fun z5=>some (.inl ((z5,IntKind.wrap .i64 (i2 + 1))))) (some (.inr (l1)))
def hZ (xa:Tq8) (xb:je):Option (aR) :=
 (km (xa.1,xa.2.1,xa.2.2.1,xa.2.2.2.1,xa.2.2.2.2.1,xa.2.2.2.2.2)).bind fun i1=>cond (!decide (i1=0)) (some (([],i1))) ((mT (xa.1,xa.2.1,xa.2.2.1,xa.2.2.2.1,xa.2.2.2.2.1,xa.2.2.2.2.2) (xb.1,xb.2.1,xb.2.2.1,xb.2.2.2.1,xb.2.2.2.2)).bind fun t2=>cond (!t2) (some (([],7))) (cond (decide (xa.1=3)) (cond (decide ((xb.2.2.1.length:Int)=0)) (some (([],14))) ((aa xb.2.2.1 0).bind fun x3=>(fH x3 xb.2.2.2.1 7 0).bind fun (l4,i5)=>some ((l4,i5)))) (cond (decide (xa.1=4)) ((loop (gV xa xb) ([],0)).bind fun l6=>(aa xb.2.2.2.2 xa.2.1).bind fun x7=>(aa xb.2.2.1 xa.2.2.1).bind fun x8=>(kv (x7.1,x7.2.1,x7.2.2.1,x7.2.2.2) xa.2.2.2.2.2 l6 x8).bind fun (l9,i10)=>some ((l9,i10))) (some (([],0))))))
def KL:Hn Tryz.prog := .cl LF [] (.tw 13 .nil (.cl Ml [] (.tw 18 .nil (.tw 21 (.tw 26 .nil (.mix [([0,1,2,3,4,5],6)] [7,8,9,10] [] [] (.cl pw [] .nil))) (.tw 36 (.jn [] ⟨[(7,.own 26 Yq9)],[]⟩ [] (.lp ⟨[(7,.own 26 Yq9),kdI 41],[]⟩ (.tw 42 .nil .nil)) (.mix [([0,1,2,3,4,5,6,7,8,9,10,11,12,13,14],15)] [16,17,18,19] [] [4] (.per 4 5 (.cl Ns [] .nil)))) .nil)))))
def JV:Spec:=⟨191,⟨[(0,.dat fa),(1,.dat (.cons Yq2 (.cons Yq2 (.cons (.sl Yq9) (.cons Yq9 (.one (.sl fg)))))))],[]⟩,[⟨[(0,.tup [.own 247 Yq8,.dat Yq2])],[]⟩],fun x=>hZ x.1 x.2⟩
def L3:OkSpec Tryz.prog:=⟨JV,ae func191 KL (by kernel_rfl) (by kernel_rfl),call191⟩

def qE (xa:Tq8) (xb:je):Option Int :=
 (hZ (xa.1,xa.2.1,xa.2.2.1,xa.2.2.2.1,xa.2.2.2.2.1,xa.2.2.2.2.2) (xb.1,xb.2.1,xb.2.2.1,xb.2.2.2.1,xb.2.2.2.2)).bind fun (l19,i20)=>some (i20)
def Ka:Hn Tryz.prog := .cl L3 [] .nil
def KG:Spec:=⟨179,⟨[(0,.dat fa),(1,.dat (.cons Yq2 (.cons Yq2 (.cons (.sl Yq9) (.cons Yq9 (.one (.sl fg)))))))],[]⟩,[⟨[kdI 0],[]⟩],fun x=>qE x.1 x.2⟩
def Lb:OkSpec Tryz.prog:=⟨KG,ae func179 Ka (by kernel_rfl) (by kernel_rfl),call179⟩
def mb (xa:Tq1) (i1:Int) (x2:((List Tq5)×Tq8)):Int→Option (Int⊕(Unit⊕(Int⊕(Unit⊕co)))):=fun i3=>cond (decide (i3 < (x2.1.length:Int))) ((aa x2.1 i3).bind fun x4=>(bf 1 1).bind fun _=>(qC (x4.1,x4.2.1,x4.2.2.1,x4.2.2.2.1,x4.2.2.2.2) xa.2.2.2.1 xa.2.1).bind fun i5=>cond (!decide (i5=0)) (some (.inr ((.inr (.inr ((.inr ((i5,6,i1,i3))))))))) (some (.inl (IntKind.wrap .i64 (i3 + 1))))) (some (.inr ((.inl ()))))
def mg (xa:Tq1):Int→Option (Int⊕(Unit⊕co)):=fun i1=>cond (decide (i1 < (xa.2.2.2.2.2.2.length:Int))) ((aa xa.2.2.2.2.2.2 i1).bind fun x2=>(loop (mb xa i1 x2) 0).bind fun o=>match o with | .inr r=>some r | .inl ()=>(bf 1 1).bind fun _=>(qE (x2.2.1,x2.2.2.1,x2.2.2.2.1,x2.2.2.2.2.1,x2.2.2.2.2.2.1,x2.2.2.2.2.2.2) (((xa.2.2.2.2.2.2.length:Int),xa.2.1,xa.2.2.2.1,xa.2.2.2.2.1,xa.2.2.2.2.2.1))).bind fun i3=>cond (!decide (i3=0)) (some (.inr ((.inr ((i3,7,i1,0)))))) (some (.inl (IntKind.wrap .i64 (i1 + 1))))) (some (.inr ((.inl ()))))
def j3 (xa:Tq1):Option co :=
 (loop (mg xa) 0).bind fun o=>match o with | .inr r=>some r | .inl ()=>some ((0,0,0,0))
def Me:Hn Tryz.prog := .jx [] ⟨[],[bkC 2 160 [.lit (.int .i64 0),.lit (.int .i64 0),.lit (.int .i64 0),.lit (.int .i64 0)]]⟩ [2] (.lp ⟨[kdI 27],[bkC 2 160 [.lit (.int .i64 0),.lit (.int .i64 0),.lit (.int .i64 0),.lit (.int .i64 0)]]⟩ (.tw 28 (.pl (.pl (.jx [] ⟨[],[bkC 2 160 [.lit (.int .i64 0),.lit (.int .i64 0),.lit (.int .i64 0),.lit (.int .i64 0)]]⟩ [2] (.lp ⟨[kdI 35],[bkC 2 160 [.lit (.int .i64 0),.lit (.int .i64 0),.lit (.int .i64 0),.lit (.int .i64 0)]]⟩ (.tw 36 (.cl oQ3 [] (.cl Mw [] (.tw 49 .nil .nil))) .nil)) (.cl oQ3 [] (.cl Lb [] (.tw 62 .nil .nil)))))) .nil)) .nil
def Nz:Spec:=⟨147,⟨[(0,.dat Yq1),(1,.nilp)],[]⟩,[⟨[(0,.agg [.dat Yq2,.dat Yq2,.dat Yq2,.dat Yq2])],[]⟩],fun x=>j3 x⟩
def Ms:OkSpec Tryz.prog:=⟨Nz,ae func147 Me (by kernel_rfl) (by kernel_rfl),call147⟩

def jR (xa:Tq1):Option co :=
 (bf 1 1).bind fun _=>(jY xa).bind fun (i1,i2,i3,i4)=>cond (!decide (i1=0)) (some ((i1,i2,i3,i4))) ((jM xa).bind fun (i5,i6,i7,i8)=>cond (!decide (i5=0)) (some ((i5,i6,i7,i8))) ((jP xa).bind fun (i9,i10,i11,i12)=>cond (!decide (i9=0)) (some ((i9,i10,i11,i12))) ((j7 xa).bind fun (i13,i14,i15,i16)=>cond (!decide (i13=0)) (some ((i13,i14,i15,i16))) ((jZ xa).bind fun (i17,i18,i19,i20)=>cond (!decide (i17=0)) (some ((i17,i18,i19,i20))) ((jL xa).bind fun (i21,i22,i23,i24)=>cond (!decide (i21=0)) (some ((i21,i22,i23,i24))) ((j3 xa).bind fun (i25,i26,i27,i28)=>cond (!decide (i25=0)) (some ((i25,i26,i27,i28))) (some ((0,0,0,0)))))))))
def KT:Hn Tryz.prog := .cl oQ3 [] (.un 64 (.cl oQ4 [] (.tw 24 .nil (.cl oQ6 [] (.tw 24 .nil (.cl Ju [] (.tw 24 .nil (.cl KA [] (.tw 24 .nil (.cl LC [] (.tw 24 .nil (.cl Lp [] (.tw 24 .nil (.cl Ms [] (.tw 24 .nil .nil)))))))))))))))
def Ko:Spec:=⟨101,⟨[(0,.dat Yq1),(1,.nilp)],[]⟩,[⟨[(0,.agg [.dat Yq2,.dat Yq2,.dat Yq2,.dat Yq2])],[]⟩],fun x=>jR x⟩
def NA:OkSpec Tryz.prog:=⟨Ko,ae func101 KT (by kernel_rfl) (by kernel_rfl),call101⟩

def qT (xa:Tq1):Option Bool :=
 (jR xa).bind fun (i15,i17,i18,i19)=>some (decide (i15=0))
def MF:Hn Tryz.prog := .cl NA [] .nil
def Jj:Spec:=⟨65,⟨[(0,.dat Yq1)],[]⟩,[⟨[kdB 0],[]⟩],fun x=>qT x⟩
def JH:OkSpec Tryz.prog:=⟨Jj,ae func65 MF (by kernel_rfl) (by kernel_rfl),call65⟩
def kc (xa:Tq1):(Int×(List Int)×Int)→Option ((Int×(List Int)×Int)⊕ba):=fun (i1,l2,i3)=>cond (decide (i1 < (xa.2.2.2.2.2.2.length:Int))) ((aa xa.2.2.2.2.2.2 i1).bind fun x4=>(app l2 ([i3]:List Int)).bind fun z5=>some (.inl ((IntKind.wrap .i64 (i1 + 1),z5,IntKind.wrap .i64 (i3 + (IntKind.wrap .i64 ((x4.1.length:Int) + 1))))))) (some (.inr (((l2,i3)))))
def dg (xa:Tq1):Option ((Option ba)) :=
 (qT xa).bind fun t1=>cond (!t1) (some ((some ([],0)))) ((loop (kc xa) (0,[],0)).bind fun (l2,i3)=>some ((some (l2,i3))))
def MM:Hn Tryz.prog := .cl JH [] (.tw 10 (.perb 2 3 (.cons (.sl Yq2) (.one Yq2)) .nil) (.jn [] ⟨[],[bkC 2 110 [.own 3 Yq2,.dat Yq2]]⟩ [2,0] (.lp ⟨[kdI 15],[bkC 2 110 [.own 3 Yq2,.dat Yq2]]⟩ (.tw 16 (.mix [([0,1,2,3,4,5,6,7,8],9),([],10)] [11,12] [13] [4] (.mix [] [0,1,2,3,4,5,6,7,8,9,10] [11] [] .nil)) .nil)) (.per 4 5 (.perb 2 6 (.cons (.sl Yq2) (.one Yq2)) .nil))))
def KZ:Spec:=⟨36,⟨[(0,.dat Yq1)],[]⟩,[⟨[(0,.dat cC)],[]⟩],fun x=>dg x⟩
def uD:OkSpec Tryz.prog:=⟨KZ,ae func36 MM (by kernel_rfl) (by kernel_rfl),call36⟩

def db (xa:(Option ba)):Option Int :=
 cond (xa.isNone) (some (0)) (xa.bind fun y11=>some (y11.2))
def K6:Hn Tryz.prog := .tw 4 .nil .nil
def Ny:Spec:=⟨37,⟨[(0,.dat cC)],[]⟩,[⟨[kdI 0],[]⟩],fun x=>db x⟩
def lA:OkSpec Tryz.prog:=⟨Ny,ae func37 K6 (by kernel_rfl) (by kernel_rfl),call37⟩

def mO (xa:Tq5):Option (Tq4) :=
 (cond (decide (xa.1=1)) (some (decide (xa.1=1))) (cond (decide (xa.1=2)) (some (decide (xa.1=2))) (some (decide (xa.1=3)))):Option Bool).bind fun t37=>cond (t37) (some ((([xa.2.2.1]:List Int),([xa.2.1]:List Int)))) (cond (decide (xa.1=4)) (some ((([xa.2.2.1]:List Int),[]))) (cond (decide (xa.1=5)) (some (([],([xa.2.1]:List Int)))) (some (([],[])))))
def Mh:Hn Tryz.prog := .pl (.pl (.pl (.sq [] ⟨[kdB 5],[]⟩ [] (.tw 5 .nil (.tw 5 .nil .nil)) (.tw 5 .nil (.tw 16 .nil (.tw 22 .nil .nil))))))
def J8:Spec:=⟨75,⟨[(0,.dat Yq8)],[]⟩,[⟨[(0,.agg [.own 3 Yq2,.own 3 Yq2])],[]⟩],fun x=>mO x⟩
def Kh:OkSpec Tryz.prog:=⟨J8,ae func75 Mh (by kernel_rfl) (by kernel_rfl),call75⟩
def fn_touch_Touches_add_p0arr_nod_l1 (l1:List Int):(Int×(List Tq4))→Option ((Int×(List Tq4))⊕(List Tq4)):=fun (i2,l3)=>cond (decide (i2 < (l1.length:Int))) ((aa l1 i2).bind fun x4=>(aa l3 x4).bind fun x5=>(aa l3 x4).bind fun _=>(aE x4 x4).bind fun _=>(app x5.1 ([0]:List Int)).bind fun z6=>(aa l3 x4).bind fun _=>(aE x4 x4).bind fun _=>some (.inl ((IntKind.wrap .i64 (i2 + 1),l3.set x4.toNat (z6,x5.2))))) (some (.inr (l3)))
def jB (qa0:(List Tq4)) (l1:List Int):(Int×(List Tq4))→Option ((Int×(List Tq4))⊕(List Tq4)):=fun (i2,l3)=>cond (decide (i2 < (l1.length:Int))) ((aa l1 i2).bind fun x4=>(aa l3 x4).bind fun x5=>(aa l3 x4).bind fun _=>(aE x4 x4).bind fun _=>(app x5.1 (([(qa0.length:Int)]:List Int))).bind fun z6=>(aa l3 x4).bind fun _=>(aE x4 x4).bind fun _=>some (.inl ((IntKind.wrap .i64 (i2 + 1),l3.set x4.toNat (z6,x5.2))))) (some (.inr (l3)))
def jA (qxb_1:(List Int)) (qa0:(List Tq4)):(Int×(List Tq4))→Option ((Int×(List Tq4))⊕(List Tq4)):=fun (i1,l2)=>cond (decide (i1 < (qxb_1.length:Int))) ((aa qxb_1 i1).bind fun x3=>(aa l2 x3).bind fun x4=>(aa l2 x3).bind fun _=>(aE x3 x3).bind fun _=>(app x4.2 (([(qa0.length:Int)]:List Int))).bind fun z5=>(aa l2 x3).bind fun _=>(aE x3 x3).bind fun _=>some (.inl ((IntKind.wrap .i64 (i1 + 1),l2.set x3.toNat (x4.1,z5))))) (some (.inr (l2)))
def gK (qxb_0:(List Int)) (qxb_1:(List Int)) (qa0:(List Tq4)) (qa1:(List Tq4)):Option (gH) :=
 (srt qxb_0).bind fun l2=>(fh l2).bind fun l3=>(app qa0 (([(l3,qxb_1)]:List Tq4))).bind fun z4=>(loop (jB qa0 l3) (0,qa1)).bind fun l5=>(loop (jA qxb_1 qa0) (0,l5)).bind fun l6=>some ((z4,l6))
def J4:Hn Tryz.prog := .cl ol [] (.cl nt [] (.per 16 17 (.per 3 4 (.mix [([0,1,2,3,4,5],6),([],7)] [8,9] [10] [5] (.jn [] ⟨[],[bkO 7 (.row 142 (.cons (.row 3 (.dat Yq2)) (.one (.row 3 (.dat Yq2)))))]⟩ [7] (.lp ⟨[kdI 34],[bkO 7 (.row 142 (.cons (.row 3 (.dat Yq2)) (.one (.row 3 (.dat Yq2)))))]⟩ (.tw 35 (.opp [9] 7 47 (.mix [([0,1,2,3,4,5,6,7,8,9,10,11,12,13],14),([],15)] [16,17] [18] [26] (.cls 7 34 .nil))) .nil)) (.jn [] ⟨[],[bkO 7 (.row 142 (.cons (.row 3 (.dat Yq2)) (.one (.row 3 (.dat Yq2)))))]⟩ [10,7] (.lp ⟨[kdI 60],[bkO 7 (.row 142 (.cons (.row 3 (.dat Yq2)) (.one (.row 3 (.dat Yq2)))))]⟩ (.tw 61 (.opp [9] 7 73 (.mix [([0,1,2,3,4,5,6,7,8,9,10,11,12,13],14),([],15)] [16,17] [18] [29] (.cls 7 35 .nil))) .nil)) .nil))))))
def Jx:Spec:=⟨74,⟨[(0,.ptr 0 0),(1,.agg [.own 3 Yq2,.own 3 Yq2])],[bkN 124 [.own 127 Yq7,.od (.row 142 (.cons (.row 3 (.dat Yq2)) (.one (.row 3 (.dat Yq2)))))]]⟩,[⟨[],[bkC 0 124 [.own 127 Yq7,.od (.row 142 (.cons (.row 3 (.dat Yq2)) (.one (.row 3 (.dat Yq2)))))]]⟩],fun x=>gK x.1 x.2.1 x.2.2.1 x.2.2.2⟩
def Ag:OkSpec Tryz.prog:=⟨Jx,ae func74 J4 (by kernel_rfl) (by kernel_rfl),call74⟩

def bQ (xa:(List Int)):Option (List Int) :=
 cZ xa (some ([])) ((app ([]:List Int) xa).bind fun z21=>some (z21))
def La:Hn Tryz.prog := .two 4 .nil .nil
def MA:Spec:=⟨83,⟨[(0,.dat (.sl Yq2))],[]⟩,[⟨[(0,.own 3 Yq2)],[]⟩],fun x=>bQ x⟩
def dZ:OkSpec Tryz.prog:=⟨MA,ae func83 La (by kernel_rfl) (by kernel_rfl),call83⟩

def mQ (xa:Tq8):Option (Tq4) :=
 cond (decide (xa.1=2)) ((bQ xa.2.2.2.2.1).bind fun l1=>some ((l1,[]))) (cond (decide (xa.1=4)) ((((bQ xa.2.2.2.2.1).bind fun l2=>some ((l2,([xa.2.2.1]:List Int)))).bind fun x3=>((bQ xa.2.2.2.2.1).bind fun l4=>some ((l4,([xa.2.2.1]:List Int)))).bind fun y5=>agr x3 y5 (some x3):Option (Tq4)).bind fun (l6,l7)=>some ((l6,l7))) (cond (decide (xa.1=3)) (some ((([0]:List Int),[]))) (some (([],[])))))
def NF:Hn Tryz.prog := .tw 5 (.cl dZ [] .nil) (.tw 11 (.tr (.still [0,1,3,4] (.alt 2 (.alt 5 (.still [6] (.alt 7 (.leaf []) .done)) .done) (.alt 5 (.alt 2 (.still [6] (.alt 7 (.leaf []) .done)) .done) .done))) ⟨[],[bkC 2 127 [.own 3 Yq2,.own 3 Yq2]]⟩ [2] (.two 0 (.cl dZ [] .nil) (.cl dZ [] .nil)) .nil) (.tw 20 .nil .nil))
def Lu:Spec:=⟨76,⟨[(0,.dat fa)],[]⟩,[⟨[(0,.agg [.own 3 Yq2,.own 3 Yq2])],[]⟩],fun x=>mQ x⟩
def LK:OkSpec Tryz.prog:=⟨Lu,ae func76 NF (by kernel_rfl) (by kernel_rfl),call76⟩
def kb (x1:((List Tq5)×Tq8)):(Int×(List Tq4)×(List Tq4))→Option ((Int×(List Tq4)×(List Tq4))⊕gH):=fun (i2,l3,l4)=>cond (decide (i2 < (x1.1.length:Int))) ((aa x1.1 i2).bind fun x5=>(mO (x5.1,x5.2.1,x5.2.2.1,x5.2.2.2.1,x5.2.2.2.2)).bind fun (l6,l7)=>(gK l6 l7 l3 l4).bind fun (l8,l9)=>some (.inl ((IntKind.wrap .i64 (i2 + 1),l8,l9)))) (some (.inr (((l3,l4)))))
def j8 (xa:Tq1):(Int×(List Tq4)×(List Tq4))→Option ((Int×(List Tq4)×(List Tq4))⊕gH):=fun (i1,l2,l3)=>cond (decide (i1 < (xa.2.2.2.2.2.2.length:Int))) ((aa xa.2.2.2.2.2.2 i1).bind fun x4=>(loop (kb x4) (0,l2,l3)).bind fun (l5,l6)=>(mQ (x4.2.1,x4.2.2.1,x4.2.2.2.1,x4.2.2.2.2.1,x4.2.2.2.2.2.1,x4.2.2.2.2.2.2)).bind fun (l7,l8)=>(gK l7 l8 l5 l6).bind fun (l9,l10)=>some (.inl ((IntKind.wrap .i64 (i1 + 1),l9,l10)))) (some (.inr (((l2,l3)))))
def kr (xa:Tq1):Option ((Option gH)) :=
 (dg xa).bind fun p1=>(db p1).bind fun i2=>cond (decide (i2=0)) (some ((some ([],[])))) ((mk (xa.2.2.2.1.length:Int) (xa.2.2.2.1.length:Int) ([],[]):Option (List Tq4)).bind fun z3=>(loop (j8 xa) (0,[],z3)).bind fun (l4,l5)=>some ((some (l4,l5))))
def LQ:Hn Tryz.prog := .cl uD [] (.cl lA [] (.tw 13 (.perb 2 3 (.cons (.sl Yq7) (.one (.sl Yq7))) .nil) (.ot (.cons (.row 3 (.dat Yq2)) (.one (.row 3 (.dat Yq2)))) (.jn [] ⟨[],[bkC 2 124 [.own 127 Yq7,.od (.row 142 (.cons (.row 3 (.dat Yq2)) (.one (.row 3 (.dat Yq2)))))]]⟩ [2,4,0] (.lp ⟨[kdI 25],[bkC 2 124 [.own 127 Yq7,.od (.row 142 (.cons (.row 3 (.dat Yq2)) (.one (.row 3 (.dat Yq2)))))]]⟩ (.tw 26 (.pl (.pl (.jn [] ⟨[],[bkC 2 124 [.own 127 Yq7,.od (.row 142 (.cons (.row 3 (.dat Yq2)) (.one (.row 3 (.dat Yq2)))))]]⟩ [2,7,9] (.lp ⟨[kdI 32],[bkC 2 124 [.own 127 Yq7,.od (.row 142 (.cons (.row 3 (.dat Yq2)) (.one (.row 3 (.dat Yq2)))))]]⟩ (.tw 33 (.cl Kh [] (.cl Ag [] .nil)) .nil)) (.cl LK [] (.cl Ag [] .nil))))) .nil)) (.per 7 8 (.per 9 10 (.perb 2 11 (.cons (.sl Yq7) (.one (.sl Yq7))) .nil)))))))
def LV:Spec:=⟨47,⟨[(0,.dat Yq1)],[]⟩,[⟨[(0,.dat (.ptr (.cons (.sl Yq7) (.one (.sl Yq7)))))],[]⟩],fun x=>kr x⟩
def NC:OkSpec Tryz.prog:=⟨LV,ae func47 LQ (by kernel_rfl) (by kernel_rfl),call47⟩

def qa (xa:(Option gH)):Option Int :=
 cond (xa.isNone) (some (0)) (xa.bind fun y14=>some (y14.1.length:Int))
def No:Hn Tryz.prog := .tw 4 .nil .nil
def Kl:Spec:=⟨48,⟨[(0,.dat (.ptr (.cons (.sl Yq7) (.one (.sl Yq7)))))],[]⟩,[⟨[kdI 0],[]⟩],fun x=>qa x⟩
def Mj:OkSpec Tryz.prog:=⟨Kl,ae func48 No (by kernel_rfl) (by kernel_rfl),call48⟩

def lU (xa:(Option ba)):Option (List Int) :=
 cond (xa.isNone) (some ([])) (xa.bind fun y29=>(bQ y29.1).bind fun l41=>some (l41))
def Jl:Hn Tryz.prog := .tw 4 .nil (.cl dZ [] .nil)
def Mu:Spec:=⟨78,⟨[(0,.dat cC)],[]⟩,[⟨[(0,.own 3 Yq2)],[]⟩],fun x=>lU x⟩
def Lw:OkSpec Tryz.prog:=⟨Mu,ae func78 Jl (by kernel_rfl) (by kernel_rfl),call78⟩

def pX (xa:Int) (qa0:(Option ba)) (qb0:Int):Option Bool :=
 qa0.bind fun y1=>(aa y1.1 xa).bind fun x2=>some (decide (qb0 < x2))
def K8:Hn Tryz.prog := .mix [] [0,1,2,3,4,5,6,7,8,9] [] [] .nil
def Lm:Spec:=⟨109,⟨[kdI 0,(1,.ptr 0 0),(2,.ptr 1 0)],[bkN 79 [.is 2 (.dat cC)],bkN 3 [.is 3 (.dat Yq2)],bkM,bkM]⟩,[⟨[kdB 0],[bkC 0 79 [.is 2 (.any)],bkC 1 3 [.is 3 (.any)],bkU 2,bkU 3]⟩],fun x=>pX x.1 x.2.1 x.2.2⟩
def MN:OkSpec Tryz.prog:=⟨Lm,ae func109 K8 (by kernel_rfl) (by kernel_rfl),call109⟩
def pQ (qa0:(Option ba)) (qb0:Int):bP→Option (bP⊕Int):=fun (i1,i2)=>cond (decide (i1 < i2)) ((pX (IntKind.wrap .i64 (Int.fdiv (IntKind.wrap .u64 (IntKind.wrap .i64 (i1 + i2))) (2 ^ (min (Int.toNat 1) (IntKind.bits .u64))))) qa0 qb0).bind fun t3=>cond (!t3) (some (.inl ((IntKind.wrap .i64 ((IntKind.wrap .i64 (Int.fdiv (IntKind.wrap .u64 (IntKind.wrap .i64 (i1 + i2))) (2 ^ (min (Int.toNat 1) (IntKind.bits .u64))))) + 1),i2)))) (some (.inl ((i1,IntKind.wrap .i64 (Int.fdiv (IntKind.wrap .u64 (IntKind.wrap .i64 (i1 + i2))) (2 ^ (min (Int.toNat 1) (IntKind.bits .u64))))))))) (some (.inr (i1)))
def lG (xa:Int) (qa0:(Option ba)) (qb0:Int):Option Int :=
 (loop (pQ qa0 qb0) (0,xa)).bind fun i97=>some (i97)
def JW:Hn Tryz.prog := .jn [] ⟨[kdI 5],[bkC 0 79 [.is 2 (.any)],bkC 1 3 [.is 3 (.any)],bkU 2,bkU 3]⟩ [0,1] (.lp ⟨[kdI 5,kdI 6],[bkC 0 79 [.is 2 (.any)],bkC 1 3 [.is 3 (.any)],bkU 2,bkU 3]⟩ (.tw 11 (.cl MN [] (.tw 21 .nil .nil)) .nil)) .nil
def MU:Spec:=⟨108,⟨[kdI 0,(1,.fn 109 [.ptr 0 0,.ptr 1 0])],[bkN 79 [.is 2 (.dat cC)],bkN 3 [.is 3 (.dat Yq2)],bkM,bkM]⟩,[⟨[kdI 0],[bkC 0 79 [.is 2 (.any)],bkC 1 3 [.is 3 (.any)],bkU 2,bkU 3]⟩],fun x=>lG x.1 x.2.1 x.2.2⟩
def Km:OkSpec Tryz.prog:=⟨MU,ae func108 JW (by kernel_rfl) (by kernel_rfl),call108⟩

def jK (xa:(Option ba)) (xb:Int):Option (Int×Int×Bool) :=
 cond (decide (xb < 0)) (some ((0,0,false))) ((db xa).bind fun i1=>cond (decide (i1≤xb)) (some ((0,0,false))) (xa.bind fun y2=>(lG (y2.1.length:Int) (some y2) xb).bind fun i3=>(aa y2.1 (IntKind.wrap .i64 (i3 - 1))).bind fun x4=>some ((IntKind.wrap .i64 (i3 - 1),IntKind.wrap .i64 (xb - x4),true))))
def Nq:Hn Tryz.prog := .mix [([0,1,2,3,4],5)] [6,7] [] [] (.two 10 .nil (.cl lA [] (.tw 15 .nil (.wt 1000004 (.mc 0 0 1 (.mc 2 0 3 (.cl Km [] (.mix [] [0,1,2,3,4,5,6,7,8,9,10,11,12] [] [] .nil))))))))
def MV:Spec:=⟨79,⟨[(0,.dat cC),kdI 1],[]⟩,[⟨[(0,.tup [.dat Yq2,.dat Yq2,.dat .bool])],[]⟩],fun x=>jK x.1 x.2⟩
def zT:OkSpec Tryz.prog:=⟨MV,ae func79 Nq (by kernel_rfl) (by kernel_rfl),call79⟩

def mj (xa:(Option ba)) (xb:Int):Option Int :=
 xa.bind fun y26=>cond (decide ((IntKind.wrap .i64 (xb + 1)) < (y26.1.length:Int))) ((aa y26.1 (IntKind.wrap .i64 (xb + 1))).bind fun x41=>some (x41)) (some (y26.2))
def Lh:Hn Tryz.prog := .ms 0 (.tw 12 .nil .nil)
def JP:Spec:=⟨110,⟨[(0,.dat cC),kdI 1],[]⟩,[⟨[kdI 0],[]⟩],fun x=>mj x.1 x.2⟩
def ME:OkSpec Tryz.prog:=⟨JP,ae func110 Lh (by kernel_rfl) (by kernel_rfl),call110⟩

def ma (xa:(Option ba)) (xb:Int):Option Bool :=
 (jK xa xb).bind fun (i27,i28,t29)=>(cond (t29) ((mj xa i27).bind fun i44=>some (decide ((IntKind.wrap .i64 (xb + 1))=i44))) (some (false))).bind fun t40=>some (t40)
def M0:Hn Tryz.prog := .cl zT [] (.gj 6 ⟨[kdB 23],[]⟩ [] (.two 16 (.cl ME [] .nil) .nil) .nil)
def Lt:Spec:=⟨80,⟨[(0,.dat cC),kdI 1],[]⟩,[⟨[kdB 0],[]⟩],fun x=>ma x.1 x.2⟩
def Nh:OkSpec Tryz.prog:=⟨Lt,ae func80 M0 (by kernel_rfl) (by kernel_rfl),call80⟩
def mG (xa:Tq8) (xb:(List Int)):ba→Option (ba⊕(List Int)):=fun (l1,i2)=>cond (decide (i2 < (xa.2.2.2.1.length:Int))) ((aa xa.2.2.2.1 i2).bind fun x3=>(aa xb x3).bind fun x4=>(app l1 ([x4]:List Int)).bind fun z5=>some (.inl ((z5,IntKind.wrap .i64 (i2 + 1))))) (some (.inr (l1)))
def ki (xa:Tq8) (xb:(List Int)):Option (List Int) :=
 (loop (mG xa xb) ([],0)).bind fun l1=>(srt l1).bind fun l2=>(fh l2).bind fun l3=>some (l3)
def L9:Hn Tryz.prog := .jn [] ⟨[(5,.own 3 Yq2)],[]⟩ [0] (.lp ⟨[(5,.own 3 Yq2),kdI 11],[]⟩ (.tw 12 .nil .nil)) (.cl ol [] (.cl nt [] .nil))
def LI:Spec:=⟨81,⟨[(0,.dat fa),(1,.dat (.sl Yq2))],[]⟩,[⟨[(0,.own 3 Yq2)],[]⟩],fun x=>ki x.1 x.2⟩
def Jg:OkSpec Tryz.prog:=⟨LI,ae func81 L9 (by kernel_rfl) (by kernel_rfl),call81⟩

def pR (xa:Tq6):Option (Tq6) :=
 cZ xa (some ([])) ((app (([]:List bP)) xa).bind fun z21=>some (z21))
def Kf:Hn Tryz.prog := .two 4 .nil .nil
def Jy:Spec:=⟨111,⟨[(0,.dat Yq5)],[]⟩,[⟨[(0,.own 135 (.cons Yq2 (.one Yq2)))],[]⟩],fun x=>pR x⟩
def Nn:OkSpec Tryz.prog:=⟨Jy,ae func111 Kf (by kernel_rfl) (by kernel_rfl),call111⟩

def qu (xa:bP):Option Int :=
 some (xa.1)
def MJ:Hn Tryz.prog := .nil
def MB:Spec:=⟨113,⟨[(0,.dat (.cons Yq2 (.one Yq2)))],[]⟩,[⟨[kdI 0],[]⟩],fun x=>qu x⟩
def zS:OkSpec Tryz.prog:=⟨MB,ae func113 MJ (by kernel_rfl) (by kernel_rfl),call113⟩
def As (xb:Tq6):bA→Option (bA⊕(List Int)):=fun (i1,l2)=>cond (decide (i1 < (xb.length:Int))) ((aa xb i1).bind fun x3=>(qu (x3.1,x3.2)).bind fun i4=>(aa l2 (IntKind.wrap .i64 (i4 + 1))).bind fun x5=>(aa l2 (IntKind.wrap .i64 (i4 + 1))).bind fun x6=>(some (l2.set (IntKind.wrap .i64 (i4 + 1)).toNat (IntKind.wrap .i64 (x5 + 1)))).bind fun z7=>some (.inl ((IntKind.wrap .i64 (i1 + 1),z7)))) (some (.inr (l2)))
def Aq (xa:Int):bA→Option (bA⊕(List Int)):=fun (i1,l2)=>cond (decide (i1 < xa)) ((aa l2 (IntKind.wrap .i64 (i1 + 1))).bind fun x3=>(aa l2 i1).bind fun x4=>(aa l2 (IntKind.wrap .i64 (i1 + 1))).bind fun x5=>(some (l2.set (IntKind.wrap .i64 (i1 + 1)).toNat (IntKind.wrap .i64 (x3 + x4)))).bind fun z6=>some (.inl ((IntKind.wrap .i64 (i1 + 1),z6)))) (some (.inr (l2)))
def Au (xb:Tq6):((List Int)×Int×(List Int))→Option (((List Int)×Int×(List Int))⊕(List Int)):=fun (l1,i2,l3)=>cond (decide (i2 < (xb.length:Int))) ((aa xb i2).bind fun x4=>(qu (x4.1,x4.2)).bind fun i5=>(aa l1 i5).bind fun x6=>(aa l3 x6).bind fun x7=>(some (l3.set x6.toNat i2)).bind fun z8=>(aa l1 i5).bind fun x9=>(aa l1 i5).bind fun x10=>(some (l1.set i5.toNat (IntKind.wrap .i64 (x9 + 1)))).bind fun z11=>some (.inl ((z11,IntKind.wrap .i64 (i2 + 1),z8)))) (some (.inr (l3)))
def lK (xa:Int) (xb:Tq6):Option (Tq4) :=
 (((mk (IntKind.wrap .i64 (xa + 1)) (IntKind.wrap .i64 (xa + 1)) 0:Option (List Int)).bind fun z1=>((mk (xb.length:Int) (xb.length:Int) 0:Option (List Int)).bind fun z2=>some ((z1,z2))).bind fun x3=>((mk (xb.length:Int) (xb.length:Int) 0:Option (List Int)).bind fun z4=>some ((z1,z4))).bind fun y5=>agr x3 y5 (some x3)).bind fun x6=>(((mk (xb.length:Int) (xb.length:Int) 0:Option (List Int)).bind fun z7=>((mk (IntKind.wrap .i64 (xa + 1)) (IntKind.wrap .i64 (xa + 1)) 0:Option (List Int)).bind fun z8=>some ((z8,z7))).bind fun x9=>((mk (IntKind.wrap .i64 (xa + 1)) (IntKind.wrap .i64 (xa + 1)) 0:Option (List Int)).bind fun z10=>some ((z10,z7))).bind fun y11=>agr x9 y11 (some x9)).bind fun x12=>(((mk (IntKind.wrap .i64 (xa + 1)) (IntKind.wrap .i64 (xa + 1)) 0:Option (List Int)).bind fun z13=>(mk (xb.length:Int) (xb.length:Int) 0:Option (List Int)).bind fun z14=>some ((z13,z14))).bind fun x15=>((mk (xb.length:Int) (xb.length:Int) 0:Option (List Int)).bind fun z16=>(mk (IntKind.wrap .i64 (xa + 1)) (IntKind.wrap .i64 (xa + 1)) 0:Option (List Int)).bind fun z17=>some ((z17,z16))).bind fun y18=>agr x15 y18 (some x15)).bind fun y19=>agr x12 y19 (some x12)).bind fun y20=>agr x6 y20 (some x6):Option (Tq4)).bind fun (l21,l22)=>(loop (As xb) (0,l21)).bind fun l23=>(loop (Aq xa) (0,l23)).bind fun l24=>(bQ l24).bind fun l25=>(loop (Au xb) (l25,0,l22)).bind fun l26=>some ((l24,l26))
def MG:Hn Tryz.prog := .tr (.still [0,1,3,4] (.alt 2 (.alt 5 (.still [6] (.alt 7 (.alt 8 (.leaf []) .done) .done)) (.alt 7 (.alt 5 (.still [6] (.alt 8 (.leaf []) .done)) .done) .done)) (.alt 5 (.alt 2 (.still [6] (.alt 7 (.alt 8 (.leaf []) .done) .done)) (.alt 7 (.alt 2 (.still [6] (.alt 8 (.leaf []) .done)) .done) .done)) (.alt 7 (.alt 2 (.alt 5 (.still [6] (.alt 8 (.leaf []) .done)) .done) (.alt 5 (.alt 2 (.still [6] (.alt 8 (.leaf []) .done)) .done) .done)) .done)))) ⟨[(7,.ptr 0 0)],[bkN 170 [.own 3 Yq2,.own 3 Yq2]]⟩ [] (.two 0 (.two 0 .nil .nil) (.two 0 (.two 0 .nil .nil) (.two 0 .nil .nil))) (.jn [(2,1)] ⟨[],[bkC 2 170 [.own 3 Yq2,.is 1 (.any)],bkU 8]⟩ [2,3] (.lp ⟨[kdI 24],[bkC 2 170 [.own 3 Yq2,.is 1 (.any)],bkU 8]⟩ (.tw 25 (.mix [([0,1,2,3],4)] [5,6,7,8,9] [10] [] (.cl zS [] .nil)) .nil)) (.jn [] ⟨[],[bkC 2 170 [.own 3 Yq2,.is 1 (.any)],bkU 8]⟩ [2,9] (.lp ⟨[kdI 40],[bkC 2 170 [.own 3 Yq2,.is 1 (.any)],bkU 8]⟩ (.tw 41 (.mix [] [0,1,2,3,4,5,6,7,8,9,10,11,12] [13] [] .nil) .nil)) (.per 12 13 (.cl dZ [] (.jn [(2,0)] ⟨[(59,.any),(11,.any)],[bkC 2 170 [.is 1 (.any),.own 3 Yq2],bkU 17]⟩ [15,2,5] (.lp ⟨[(11,.own 3 Yq2),kdI 62],[bkC 2 170 [.is 1 (.any),.own 3 Yq2],bkU 17]⟩ (.tw 63 (.cl zS [] (.mix [] [0,1,2,3,4,5,6,7] [8] [] .nil)) .nil)) .nil)))))
def LZ:Spec:=⟨112,⟨[kdI 0,(1,.dat Yq5),(2,.fn 113 [])],[]⟩,[⟨[(0,.agg [.dat (.sl Yq2),.own 3 Yq2])],[]⟩],fun x=>lK x.1 x.2⟩
def KH:OkSpec Tryz.prog:=⟨LZ,ae func112 MG (by kernel_rfl) (by kernel_rfl),call112⟩

def qz (xa:bP):Option Int :=
 some (xa.2)
def LS:Hn Tryz.prog := .nil
def L8:Spec:=⟨114,⟨[(0,.dat (.cons Yq2 (.one Yq2)))],[]⟩,[⟨[kdI 0],[]⟩],fun x=>qz x⟩
def zW:OkSpec Tryz.prog:=⟨L8,ae func114 LS (by kernel_rfl) (by kernel_rfl),call114⟩
def Aw (xb:Tq6):bA→Option (bA⊕(List Int)):=fun (i1,l2)=>cond (decide (i1 < (xb.length:Int))) ((aa xb i1).bind fun x3=>(qz (x3.1,x3.2)).bind fun i4=>(aa l2 (IntKind.wrap .i64 (i4 + 1))).bind fun x5=>(aa l2 (IntKind.wrap .i64 (i4 + 1))).bind fun x6=>(some (l2.set (IntKind.wrap .i64 (i4 + 1)).toNat (IntKind.wrap .i64 (x5 + 1)))).bind fun z7=>some (.inl ((IntKind.wrap .i64 (i1 + 1),z7)))) (some (.inr (l2)))
def Av (xa:Int):bA→Option (bA⊕(List Int)):=fun (i1,l2)=>cond (decide (i1 < xa)) ((aa l2 (IntKind.wrap .i64 (i1 + 1))).bind fun x3=>(aa l2 i1).bind fun x4=>(aa l2 (IntKind.wrap .i64 (i1 + 1))).bind fun x5=>(some (l2.set (IntKind.wrap .i64 (i1 + 1)).toNat (IntKind.wrap .i64 (x3 + x4)))).bind fun z6=>some (.inl ((IntKind.wrap .i64 (i1 + 1),z6)))) (some (.inr (l2)))
def Ap (xb:Tq6):((List Int)×Int×(List Int))→Option (((List Int)×Int×(List Int))⊕(List Int)):=fun (l1,i2,l3)=>cond (decide (i2 < (xb.length:Int))) ((aa xb i2).bind fun x4=>(qz (x4.1,x4.2)).bind fun i5=>(aa l1 i5).bind fun x6=>(aa l3 x6).bind fun x7=>(some (l3.set x6.toNat i2)).bind fun z8=>(aa l1 i5).bind fun x9=>(aa l1 i5).bind fun x10=>(some (l1.set i5.toNat (IntKind.wrap .i64 (x9 + 1)))).bind fun z11=>some (.inl ((z11,IntKind.wrap .i64 (i2 + 1),z8)))) (some (.inr (l3)))
def lL (xa:Int) (xb:Tq6):Option (Tq4) :=
 (((mk (IntKind.wrap .i64 (xa + 1)) (IntKind.wrap .i64 (xa + 1)) 0:Option (List Int)).bind fun z1=>((mk (xb.length:Int) (xb.length:Int) 0:Option (List Int)).bind fun z2=>some ((z1,z2))).bind fun x3=>((mk (xb.length:Int) (xb.length:Int) 0:Option (List Int)).bind fun z4=>some ((z1,z4))).bind fun y5=>agr x3 y5 (some x3)).bind fun x6=>(((mk (xb.length:Int) (xb.length:Int) 0:Option (List Int)).bind fun z7=>((mk (IntKind.wrap .i64 (xa + 1)) (IntKind.wrap .i64 (xa + 1)) 0:Option (List Int)).bind fun z8=>some ((z8,z7))).bind fun x9=>((mk (IntKind.wrap .i64 (xa + 1)) (IntKind.wrap .i64 (xa + 1)) 0:Option (List Int)).bind fun z10=>some ((z10,z7))).bind fun y11=>agr x9 y11 (some x9)).bind fun x12=>(((mk (IntKind.wrap .i64 (xa + 1)) (IntKind.wrap .i64 (xa + 1)) 0:Option (List Int)).bind fun z13=>(mk (xb.length:Int) (xb.length:Int) 0:Option (List Int)).bind fun z14=>some ((z13,z14))).bind fun x15=>((mk (xb.length:Int) (xb.length:Int) 0:Option (List Int)).bind fun z16=>(mk (IntKind.wrap .i64 (xa + 1)) (IntKind.wrap .i64 (xa + 1)) 0:Option (List Int)).bind fun z17=>some ((z17,z16))).bind fun y18=>agr x15 y18 (some x15)).bind fun y19=>agr x12 y19 (some x12)).bind fun y20=>agr x6 y20 (some x6):Option (Tq4)).bind fun (l21,l22)=>(loop (Aw xb) (0,l21)).bind fun l23=>(loop (Av xa) (0,l23)).bind fun l24=>(bQ l24).bind fun l25=>(loop (Ap xb) (l25,0,l22)).bind fun l26=>some ((l24,l26))
def KR:Hn Tryz.prog := .tr (.still [0,1,3,4] (.alt 2 (.alt 5 (.still [6] (.alt 7 (.alt 8 (.leaf []) .done) .done)) (.alt 7 (.alt 5 (.still [6] (.alt 8 (.leaf []) .done)) .done) .done)) (.alt 5 (.alt 2 (.still [6] (.alt 7 (.alt 8 (.leaf []) .done) .done)) (.alt 7 (.alt 2 (.still [6] (.alt 8 (.leaf []) .done)) .done) .done)) (.alt 7 (.alt 2 (.alt 5 (.still [6] (.alt 8 (.leaf []) .done)) .done) (.alt 5 (.alt 2 (.still [6] (.alt 8 (.leaf []) .done)) .done) .done)) .done)))) ⟨[(7,.ptr 0 0)],[bkN 170 [.own 3 Yq2,.own 3 Yq2]]⟩ [] (.two 0 (.two 0 .nil .nil) (.two 0 (.two 0 .nil .nil) (.two 0 .nil .nil))) (.jn [(2,1)] ⟨[],[bkC 2 170 [.own 3 Yq2,.is 1 (.any)],bkU 8]⟩ [2,3] (.lp ⟨[kdI 24],[bkC 2 170 [.own 3 Yq2,.is 1 (.any)],bkU 8]⟩ (.tw 25 (.mix [([0,1,2,3],4)] [5,6,7,8,9] [10] [] (.cl zW [] .nil)) .nil)) (.jn [] ⟨[],[bkC 2 170 [.own 3 Yq2,.is 1 (.any)],bkU 8]⟩ [2,9] (.lp ⟨[kdI 40],[bkC 2 170 [.own 3 Yq2,.is 1 (.any)],bkU 8]⟩ (.tw 41 (.mix [] [0,1,2,3,4,5,6,7,8,9,10,11,12] [13] [] .nil) .nil)) (.per 12 13 (.cl dZ [] (.jn [(2,0)] ⟨[(59,.any),(11,.any)],[bkC 2 170 [.is 1 (.any),.own 3 Yq2],bkU 17]⟩ [15,2,5] (.lp ⟨[(11,.own 3 Yq2),kdI 62],[bkC 2 170 [.is 1 (.any),.own 3 Yq2],bkU 17]⟩ (.tw 63 (.cl zW [] (.mix [] [0,1,2,3,4,5,6,7] [8] [] .nil)) .nil)) .nil)))))
def Ki:Spec:=⟨112,⟨[kdI 0,(1,.dat Yq5),(2,.fn 114 [])],[]⟩,[⟨[(0,.agg [.dat (.sl Yq2),.own 3 Yq2])],[]⟩],fun x=>lL x.1 x.2⟩
def Nl:OkSpec Tryz.prog:=⟨Ki,ae func112 KR (by kernel_rfl) (by kernel_rfl),call112⟩
def mM (xa:Int) (xb:Tq6):Int→Option (Int⊕(Unit⊕(ck×Int))):=fun i1=>cond (decide (i1 < (xb.length:Int))) ((aa xb i1).bind fun x2=>cond ((((decide (x2.1 < 0))||(decide (xa≤x2.1)))||(decide (x2.2 < 0)))||(decide (xa≤x2.2))) (some (.inr ((.inr ((none,7)))))) (some (.inl (IntKind.wrap .i64 (i1 + 1))))) (some (.inr ((.inl ()))))
def kp (xa:Int) (xb:Tq6):Option ((ck×Int)) :=
 cond (decide (xa < 0)) (some ((none,2))) (cond ((decide (1048576 < xa))||(decide (67108864 < (xb.length:Int)))) (some ((none,5))) ((loop (mM xa xb) 0).bind fun o=>match o with | .inr r=>some r | .inl ()=>(pR xb).bind fun l1=>(lK xa l1).bind fun (l2,l3)=>(lL xa l1).bind fun (l4,l5)=>some (((some ((xa,l1,(l2,l3),(l4,l5)))),0))))
def Mm:Hn Tryz.prog := .tw 10 .nil (.gp 3 (.tw 17 .nil (.jx [] ⟨[],[]⟩ [] (.lp ⟨[kdI 20],[]⟩ (.tw 21 (.gp 4 (.wt 33 (.gp 3 (.wt 38 (.gp 4 (.tw 43 .nil .nil)))))) .nil)) (.cl Nn [] (.per 0 1 (.cl KH [] (.cl Nl [] (.per 4 5 (.per 7 8 (.perb 2 9 Yq4 .nil))))))))))
def Kw:Spec:=⟨82,⟨[kdI 0,(1,.dat Yq5)],[]⟩,[⟨[(0,.tup [.dat (.ptr Yq4),.dat Yq2])],[]⟩],fun x=>kp x.1 x.2⟩
def Jp:OkSpec Tryz.prog:=⟨Kw,ae func82 Mm (by kernel_rfl) (by kernel_rfl),call82⟩
def mZ (i1:Int) (l2:(List Int)):(Tq6×Int)→Option ((Tq6×Int)⊕Tq6):=fun (l3,i4)=>cond (decide (i4 < (l2.length:Int))) ((aa l2 i4).bind fun x5=>(app l3 (([(i1,x5)]:List bP))).bind fun z6=>some (.inl ((z6,IntKind.wrap .i64 (i4 + 1))))) (some (.inr (l3)))
def kg (xa:Tq1) (p1:(Option ba)) (l2:(List Int)) (i3:Int):(Tq6×Int)→Option ((Tq6×Int)⊕Tq6):=fun (l4,i5)=>cond (decide (i5 < i3)) ((jK p1 i5).bind fun (i6,i7,t8)=>((ma p1 i5).bind fun t9=>cond (t9) ((aa xa.2.2.2.2.2.2 i6).bind fun x10=>(ki (x10.2.1,x10.2.2.1,x10.2.2.2.1,x10.2.2.2.2.1,x10.2.2.2.2.2.1,x10.2.2.2.2.2.2) l2).bind fun l11=>some (l11)) (some (([IntKind.wrap .i64 (i5 + 1)]:List Int))):Option (List Int)).bind fun l12=>(loop (mZ i5 l12) (l4,0)).bind fun l13=>some (.inl ((l13,IntKind.wrap .i64 (i5 + 1))))) (some (.inr (l4)))
def kw (xa:Tq1):Option ((Option ((Option ba)×ck))) :=
 (dg xa).bind fun p1=>(lU p1).bind fun l2=>(db p1).bind fun i3=>(loop (kg xa p1 l2 i3) ([],0)).bind fun l4=>(db p1).bind fun i5=>(kp i5 l4).bind fun (p6,i7)=>some ((some (p1,p6)))
def JR:Hn Tryz.prog := .cl uD [] (.cl Lw [] (.cl lA [] (.per 2 3 (.jn [] ⟨[(5,.own 135 (.cons Yq2 (.one Yq2)))],[]⟩ [] (.lp ⟨[(5,.own 135 (.cons Yq2 (.one Yq2))),kdI 21],[]⟩ (.tw 22 (.cl zT [] (.pl (.sq [] ⟨[(10,.own 3 Yq2)],[]⟩ [6] (.cl Nh [] (.tw 36 (.cl Jg [] .nil) .nil)) (.jn [] ⟨[(5,.own 135 (.cons Yq2 (.one Yq2)))],[]⟩ [4] (.lp ⟨[(5,.own 135 (.cons Yq2 (.one Yq2))),kdI 47],[]⟩ (.tw 48 .nil .nil)) .nil)))) .nil)) (.cl lA [] (.per 4 5 (.cl Jp [] (.perb 6 7 (.cons cC (.one (.ptr Yq4))) .nil))))))))
def LR:Spec:=⟨50,⟨[(0,.dat Yq1)],[]⟩,[⟨[(0,.dat (.ptr (.cons cC (.one (.ptr Yq4)))))],[]⟩],fun x=>kw x⟩
def KM:OkSpec Tryz.prog:=⟨LR,ae func50 JR (by kernel_rfl) (by kernel_rfl),call50⟩

def qi (xa:(Option ((Option ba)×ck))):Option (ck) :=
 cond (xa.isNone) (some (none)) (xa.bind fun y15=>some (y15.2))
def Jz:Hn Tryz.prog := .tw 4 .nil .nil
def JL:Spec:=⟨105,⟨[(0,.dat (.ptr (.cons cC (.one (.ptr Yq4)))))],[]⟩,[⟨[(0,.dat (.ptr Yq4))],[]⟩],fun x=>qi x⟩
def Mt:OkSpec Tryz.prog:=⟨JL,ae func105 Jz (by kernel_rfl) (by kernel_rfl),call105⟩

def qb (xa:ck):Option Int :=
 cond (xa.isNone) (some (0)) (xa.bind fun y11=>some (y11.1))
def Ll:Hn Tryz.prog := .tw 4 .nil .nil
def Nj:Spec:=⟨180,⟨[(0,.dat (.ptr Yq4))],[]⟩,[⟨[kdI 0],[]⟩],fun x=>qb x⟩
def Nr:OkSpec Tryz.prog:=⟨Nj,ae func180 Ll (by kernel_rfl) (by kernel_rfl),call180⟩

def jG (xa:ck) (xb:Int):Option Bool :=
 (cond (decide (0≤xb)) ((qb xa).bind fun i28=>some (decide (xb < i28))) (some (false))).bind fun t24=>some (t24)
def Nf:Hn Tryz.prog := .gj 4 ⟨[kdB 12],[]⟩ [] (.two 7 (.cl Nr [] .nil) .nil) .nil
def J1:Spec:=⟨149,⟨[(0,.dat (.ptr Yq4)),kdI 1],[]⟩,[⟨[kdB 0],[]⟩],fun x=>jG x.1 x.2⟩
def Ly:OkSpec Tryz.prog:=⟨J1,ae func149 Nf (by kernel_rfl) (by kernel_rfl),call149⟩

def mB (xa:Tq4) (xb:Int):Option (List Int) :=
 (aa xa.1 xb).bind fun x1=>(aa xa.1 (IntKind.wrap .i64 (xb + 1))).bind fun x2=>(subL xa.2 x1 x2).bind fun y3=>some (y3)
def J2:Hn Tryz.prog := .mix [] [0,1,2,3,4,5,6,7,8,9,10,11,12,13,14] [] [] .nil
def KF:Spec:=⟨150,⟨[(0,.dat Yq7),kdI 1],[]⟩,[⟨[(0,.dat (.sl Yq2))],[]⟩],fun x=>mB x.1 x.2⟩
def Kz:OkSpec Tryz.prog:=⟨KF,ae func150 J2 (by kernel_rfl) (by kernel_rfl),call150⟩

def mz (xa:ck) (xb:Int):Option (List Int) :=
 (jG xa xb).bind fun t48=>cond (!t48) (some ([])) (xa.bind fun y54=>(mB (y54.2.2.2.1,y54.2.2.2.2) xb).bind fun l70=>(bQ l70).bind fun l79=>some (l79))
def Nc:Hn Tryz.prog := .cl Ly [] (.tw 8 .nil (.cl Kz [] (.cl dZ [] .nil)))
def M2:Spec:=⟨106,⟨[(0,.dat (.ptr Yq4)),kdI 1],[]⟩,[⟨[(0,.own 3 Yq2)],[]⟩],fun x=>mz x.1 x.2⟩
def Jk:OkSpec Tryz.prog:=⟨M2,ae func106 Nc (by kernel_rfl) (by kernel_rfl),call106⟩

def qd (xa:ck):Option Int :=
 cond (xa.isNone) (some (0)) (xa.bind fun y14=>some (y14.2.1.length:Int))
def Kx:Hn Tryz.prog := .tw 4 .nil .nil
def Nu:Spec:=⟨151,⟨[(0,.dat (.ptr Yq4))],[]⟩,[⟨[kdI 0],[]⟩],fun x=>qd x⟩
def Jt:OkSpec Tryz.prog:=⟨Nu,ae func151 Kx (by kernel_rfl) (by kernel_rfl),call151⟩

def jO (xa:ck) (xb:Int):Option (Int×Int×Bool) :=
 (cond (decide (xb < 0)) (some (true)) ((qd xa).bind fun i52=>some (decide (i52≤xb)))).bind fun t48=>cond (t48) (some ((0,0,false))) (xa.bind fun y57=>(aa y57.2.1 xb).bind fun x67=>some ((x67.1,x67.2,true)))
def J3:Hn Tryz.prog := .gj 4 ⟨[kdB 13],[]⟩ [] (.two 8 .nil (.cl Jt [] .nil)) (.tw 13 .nil .nil)
def M5:Spec:=⟨107,⟨[(0,.dat (.ptr Yq4)),kdI 1],[]⟩,[⟨[(0,.tup [.agg [.dat Yq2,.dat Yq2],.dat .bool])],[]⟩],fun x=>jO x.1 x.2⟩
def L4:OkSpec Tryz.prog:=⟨M5,ae func107 J3 (by kernel_rfl) (by kernel_rfl),call107⟩
def lZ (xa:(Option ((Option ba)×ck))) (l1:(List Int)):ba→Option (ba⊕(List Int)):=fun (l2,i3)=>cond (decide (i3 < (l1.length:Int))) ((aa l2 i3).bind fun x4=>xa.bind fun y5=>(jO y5.2 x4).bind fun (i6,i7,t8)=>(aa l2 i3).bind fun x9=>(some (l2.set i3.toNat i6)).bind fun z10=>some (.inl ((z10,IntKind.wrap .i64 (i3 + 1))))) (some (.inr (l2)))
def my (xa:(Option ((Option ba)×ck))) (xb:Int):Option (List Int) :=
 (qi xa).bind fun p1=>(mz p1 xb).bind fun l2=>(loop (lZ xa l2) (l2,0)).bind fun l3=>some (l3)
def LO:Hn Tryz.prog := .cl Mt [] (.cl Jk [] (.jn [] ⟨[(5,.own 3 Yq2),(13,.any),(14,.any)],[]⟩ [0] (.lp ⟨[(5,.own 3 Yq2),(14,.al 0),kdI 16],[]⟩ (.tw 17 (.cl L4 [] .nil) .nil)) .nil))
def M7:Spec:=⟨77,⟨[(0,.dat (.ptr (.cons cC (.one (.ptr Yq4))))),kdI 1],[]⟩,[⟨[(0,.own 3 Yq2)],[]⟩],fun x=>my x.1 x.2⟩
def Ma:OkSpec Tryz.prog:=⟨M7,ae func77 LO (by kernel_rfl) (by kernel_rfl),call77⟩
def mH (xa:(Option ((Option ba)×ck))) (z1:List (List Int)):((List (List Int))×Int)→Option (((List (List Int))×Int)⊕(List (List Int))):=fun (l2,i3)=>cond (decide (i3 < (z1.length:Int))) ((my xa i3).bind fun l4=>(aa l2 i3).bind fun x5=>(some (l2.set i3.toNat l4)).bind fun z6=>some (.inl ((z6,IntKind.wrap .i64 (i3 + 1))))) (some (.inr (l2)))
def m4 (xa:(Option ((Option ba)×ck))) (xb:Int):Option ((List (List Int))) :=
 (mk xb xb ([]):Option (List (List Int))).bind fun z1=>(loop (mH xa z1) (z1,0)).bind fun l2=>some (l2)
def L7:Hn Tryz.prog := .jn [] ⟨[(5,.own 48 (.sl Yq2)),(8,.any),(9,.any)],[]⟩ [0] (.lp ⟨[(5,.own 48 (.sl Yq2)),kdI 11],[]⟩ (.tw 12 (.cl Ma [] (.per 4 5 .nil)) .nil)) .nil
def K9:Spec:=⟨49,⟨[(0,.dat (.ptr (.cons cC (.one (.ptr Yq4))))),kdI 1],[]⟩,[⟨[(0,.own 48 (.sl Yq2))],[]⟩],fun x=>m4 x.1 x.2⟩
def J7:OkSpec Tryz.prog:=⟨K9,ae func49 L7 (by kernel_rfl) (by kernel_rfl),call49⟩

def mh (xa:(Option gH)) (xb:Int):Option (Tq4) :=
 (cond (xa.isNone||(decide (xb < 0))) (some (true)) (xa.bind fun y1=>some (decide ((y1.2.length:Int)≤xb)))).bind fun t2=>cond (t2) (some (([],[]))) (xa.bind fun y3=>(aa y3.2 xb).bind fun x4=>(bQ x4.1).bind fun l5=>(bQ x4.2).bind fun l6=>some ((l5,l6)))
def J0:Hn Tryz.prog := .gp 2 (.wt 13 (.gj 7 ⟨[kdB 21],[]⟩ [] (.two 13 .nil .nil) (.tw 21 .nil (.mix [([0,1,3,4],2)] [] [5,6,7] [] (.cl dZ [] (.cl dZ [] .nil))))))
def MI:Spec:=⟨51,⟨[(0,.dat (.ptr (.cons (.sl Yq7) (.one (.sl Yq7))))),kdI 1],[]⟩,[⟨[(0,.tup [.own 3 Yq2,.own 3 Yq2])],[]⟩],fun x=>mh x.1 x.2⟩
def L5:OkSpec Tryz.prog:=⟨MI,ae func51 J0 (by kernel_rfl) (by kernel_rfl),call51⟩

def ew (xa:Int):Option ((Int⊕(Int×Int×(List Int)))) :=
 cond (decide (xa < 0)) (some (.inl 2)) (cond (decide (1048576 < xa)) (some (.inl 5)) ((mk (IntKind.wrap .i64 (Int.tdiv (IntKind.wrap .i64 ((IntKind.wrap .i64 (xa + 64)) - 1)) 64)) (IntKind.wrap .i64 (Int.tdiv (IntKind.wrap .i64 ((IntKind.wrap .i64 (xa + 64)) - 1)) 64)) 0:Option (List Int)).bind fun z20=>some (.inr (0,xa,z20))))
def MO:Hn Tryz.prog := .tw 5 .nil (.tw 7 .nil (.pl (.pl .nil)))
def KU:Spec:=⟨84,⟨[kdI 0],[]⟩,[⟨[(0,.tup [.nilp,.dat Yq2])],[]⟩,⟨[(0,.tup [.ptr 0 0,.dat Yq2])],[bkN 116 [.dat Yq2,.own 113 ak]]⟩],fun x=>ew x⟩
def pH:OkSpec Tryz.prog:=⟨KU,ae func84 MO (by kernel_rfl) (by kernel_rfl),call84⟩

def mr (xa:Tq7):Option Int :=
 cond (xa.isNone) (some (0)) (xa.bind fun y11=>some (y11.1))
def KI:Hn Tryz.prog := .tw 4 .nil .nil
def Lj:Spec:=⟨103,⟨[(0,.dat Yq6)],[]⟩,[⟨[kdI 0],[]⟩],fun x=>mr x⟩
def Jo:OkSpec Tryz.prog:=⟨Lj,ae func103 KI (by kernel_rfl) (by kernel_rfl),call103⟩

def ef (xa:Tq7) (xb:Int):Option Bool :=
 (cond (decide (0≤xb)) ((mr xa).bind fun i28=>some (decide (xb < i28))) (some (false))).bind fun t24=>some (t24)
def Np:Hn Tryz.prog := .gj 4 ⟨[kdB 12],[]⟩ [] (.two 7 (.cl Jo [] .nil) .nil) .nil
def M3:Spec:=⟨70,⟨[(0,.dat Yq6),kdI 1],[]⟩,[⟨[kdB 0],[]⟩],fun x=>ef x.1 x.2⟩
def pB:OkSpec Tryz.prog:=⟨M3,ae func70 Np (by kernel_rfl) (by kernel_rfl),call70⟩

def bX (xa:Tq7) (xb:Int):Option Bool :=
 (ef xa xb).bind fun t1=>cond (t1) (xa.bind fun y2=>(aa y2.2 (IntKind.wrap .i64 (Int.tdiv xb 64))).bind fun x3=>(ge0 (Int.tmod xb 64)).bind fun u4=>some (!decide ((IntKind.wrap .u64 ((BitVec.ofInt (IntKind.bits .u64) x3 &&& BitVec.ofInt (IntKind.bits .u64) (IntKind.wrap .u64 (1 * 2 ^ (min (Int.toNat (Int.tmod xb 64)) (IntKind.bits .u64))))).toNat:Int))=0))) (some (false))
def MS:Hn Tryz.prog := .mix [([0,1],2)] [3,4,5,6,7,8,9,10,11,12,13,14,15,16,17,18] [] [] (.cl pB [] (.two 8 .nil .nil))
def KP:Spec:=⟨43,⟨[(0,.dat Yq6),kdI 1],[]⟩,[⟨[kdB 0],[]⟩],fun x=>bX x.1 x.2⟩
def gE:OkSpec Tryz.prog:=⟨KP,ae func43 MS (by kernel_rfl) (by kernel_rfl),call43⟩

def fA (xb:Int):Option Bool :=
 (ef ((none:Tq7)) xb).bind fun t26=>(cond (!t26) (some (true)) ((bX ((none:Tq7)) xb).bind fun t41=>some (t41))).bind fun t37=>cond (t37) (some (false)) (none)
def Jq:Hn Tryz.prog := .cl pB [] (.gj 3 ⟨[kdB 13],[]⟩ [] (.two 9 .nil (.cl gE [] .nil)) (.tw 13 .nil (.mix [] [0,1,2,3,4,5,6,7,8,9,10,11,12] [13] [] .nil)))
def KK:Spec:=⟨57,⟨[(0,.nilp),kdI 1],[]⟩,[⟨[kdB 0],[]⟩],fun x=>fA x⟩
def jg:OkSpec Tryz.prog:=⟨KK,ae func57 Jq (by kernel_rfl) (by kernel_rfl),call57⟩

def lI (qa0:(List Int)) (qa1:Int) (qa2:Int) (qa3:(Option Tq6)):Option (((List Int)×(Option Tq6))) :=
 (mk (IntKind.wrap .i64 ((IntKind.wrap .i64 (2 * (qa0.length:Int))) + 1)) (IntKind.wrap .i64 ((IntKind.wrap .i64 (2 * (qa0.length:Int))) + 1)) 0:Option (List Int)).bind fun z31=>(subL qa0 qa1 (qa0.length:Int)).bind fun _=>(some (cpy z31 ((0:Int).toNat) ((List.drop (qa1:Int).toNat (List.take ((qa0.length:Int):Int).toNat qa0)).take (z31.length - (0:Int).toNat)))).bind fun z38=>(subL z38 (((min (List.drop (qa1:Int).toNat (List.take ((qa0.length:Int):Int).toNat qa0)).length (z31.length - (0:Int).toNat):Nat):Int)) (z31.length:Int)).bind fun _=>(subL qa0 0 qa1).bind fun _=>(some (cpy z38 ((((min (List.drop (qa1:Int).toNat (List.take ((qa0.length:Int):Int).toNat qa0)).length (z31.length - (0:Int).toNat):Nat):Int):Int).toNat) ((List.drop (0:Int).toNat (List.take (qa1:Int).toNat qa0)).take ((((z31.length:Int):Int).toNat) - (((min (List.drop (qa1:Int).toNat (List.take ((qa0.length:Int):Int).toNat qa0)).length (z31.length - (0:Int).toNat):Nat):Int):Int).toNat)))).bind fun z42=>some ((z42,qa3))
def Jm:Hn Tryz.prog := .mix [] [0,1,2,3,4,5,6,7,8,9] [10,11] [] (.mix [] [0,1,2,3,4,5,6,7,8,9,10,11] [12] [] .nil)
def Kt:Spec:=⟨153,⟨[(0,.ptr 0 0)],[bkN 149 [.own 3 Yq2,.dat Yq2,.is 1 (.dat Yq2),.od (.obj 0 Yq5)],bkM]⟩,[⟨[],[bkC 0 149 [.own 3 Yq2,.lit (.int .i64 0),.is 1 (.any),.od (.obj 0 Yq5)],bkU 1]⟩],fun x=>lI x.1 x.2.1 x.2.2.1 x.2.2.2⟩
def Nt:OkSpec Tryz.prog:=⟨Kt,ae func153 Jm (by kernel_rfl) (by kernel_rfl),call153⟩
def gJ (xb:(List Int)):dI→Option (dI⊕dC):=fun (i1,l2,i3,i4,l5)=>cond (decide (i1 < (xb.length:Int))) ((aa xb i1).bind fun x6=>(cond (decide (i4=(l2.length:Int))) ((lI l2 i3 i4 l5).bind fun (l7,l8)=>some ((l7,0,l8))) (some ((l2,i3,l5))):Option (((List Int)×Int×(Option Tq6)))).bind fun (l9,i10,l11)=>(nz (l9.length:Int)).bind fun u12=>(aa l9 (Int.tmod (IntKind.wrap .i64 (i10 + i4)) (l9.length:Int))).bind fun x13=>(some (l9.set (Int.tmod (IntKind.wrap .i64 (i10 + i4)) (l9.length:Int)).toNat x6)).bind fun z14=>some (.inl ((IntKind.wrap .i64 (i1 + 1),z14,i10,IntKind.wrap .i64 (i4 + 1),l11)))) (some (.inr (((l2,i3,i4,l5)))))
def lH (xb:(List Int)) (qa0:(List Int)) (qa1:Int) (qa2:Int) (qa3:(Option Tq6)):Option (dC) :=
 (loop (gJ xb) (0,qa0,qa1,qa2,qa3)).bind fun (l4,i5,i6,l7)=>some ((l4,i5,i6,l7))
def KC:Hn Tryz.prog := .jn [] ⟨[],[bkC 0 149 [.own 3 Yq2,.dat Yq2,.dat Yq2,.od (.obj 0 Yq5)]]⟩ [1,0,3] (.lp ⟨[kdI 10],[bkC 0 149 [.own 3 Yq2,.dat Yq2,.dat Yq2,.od (.obj 0 Yq5)]]⟩ (.tw 11 (.pl (.pl (.sq [(0,2)] ⟨[],[bkC 0 149 [.own 3 Yq2,.dat Yq2,.is 1 (.any),.od (.obj 0 Yq5)],bkU 11]⟩ [0,6,8] (.mix [] [0,1,2,3,4,5,6,7,8,9] [] [] (.tw 23 (.cl Nt [] .nil) .nil)) (.mix [] [0,1,2,3,4,5,6,7,8,9,10,11,12,13,14,15,16,17,18,19,20] [21] [] .nil)))) .nil)) .nil
def JF:Spec:=⟨116,⟨[(0,.ptr 0 0),(1,.dat (.sl Yq2))],[bkN 149 [.own 3 Yq2,.dat Yq2,.dat Yq2,.od (.obj 0 Yq5)]]⟩,[⟨[],[bkC 0 149 [.own 3 Yq2,.dat Yq2,.dat Yq2,.od (.obj 0 Yq5)]]⟩],fun x=>lH x.1 x.2.1 x.2.2.1 x.2.2.2.1 x.2.2.2.2⟩
def J5:OkSpec Tryz.prog:=⟨JF,ae func116 KC (by kernel_rfl) (by kernel_rfl),call116⟩

def cF (xb:Int) (qa0:(List Int)) (qa1:Int) (qa2:Int) (qa3:(Option Tq6)):Option ((Bool×(List Int)×Int×Int×(Option Tq6))) :=
 (rm xb qa0 qa1 qa2 qa3).bind fun r69=>cond (!r69.1) (some ((false,r69.2.1,r69.2.2.1,r69.2.2.2.1,r69.2.2.2.2))) ((lH ([xb]:List Int) r69.2.1 r69.2.2.1 r69.2.2.2.1 r69.2.2.2.2).bind fun (l4,i5,i6,l7)=>some ((true,l4,i5,i6,l7)))
def ND:Hn Tryz.prog := .cl BJ [] (.tw 12 .nil (.cl J5 [16] .nil))
def Jv:Spec:=⟨85,⟨[(0,.ptr 0 0),kdI 1],[bkN 149 [.own 3 Yq2,.dat Yq2,.dat Yq2,.od (.obj 0 Yq5)]]⟩,[⟨[kdB 0],[bkC 0 149 [.own 3 Yq2,.dat Yq2,.dat Yq2,.od (.obj 0 Yq5)]]⟩],fun x=>cF x.1 x.2.1 x.2.2.1 x.2.2.2.1 x.2.2.2.2⟩
def fi:OkSpec Tryz.prog:=⟨Jv,ae func85 ND (by kernel_rfl) (by kernel_rfl),call85⟩

def jC (qa0:(List Int)) (qa1:Int) (qa2:Int) (qa3:(Option Tq6)):Option ((Int×(List Int)×(Option Tq6))) :=
 some ((qa2,qa0,qa3))
def Mn:Hn Tryz.prog := .nil
def Nv:Spec:=⟨117,⟨[(0,.ptr 0 0)],[bkN 149 [.own 3 Yq2,.is 1 (.dat Yq2),.is 2 (.dat Yq2),.od (.obj 0 Yq5)],bkM,bkM]⟩,[⟨[kdI 0],[bkC 0 149 [.own 3 Yq2,.is 1 (.any),.is 2 (.any),.od (.obj 0 Yq5)],bkU 1,bkU 2]⟩],fun x=>jC x.1 x.2.1 x.2.2.1 x.2.2.2⟩
def zX:OkSpec Tryz.prog:=⟨Nv,ae func117 Mn (by kernel_rfl) (by kernel_rfl),call117⟩

def fv (qa0:(List Int)) (qa1:Int) (qa2:Int) (qa3:(Option Tq6)):Option ((Int×(List Int)×(Option Tq6))) :=
 (jC qa0 qa1 qa2 qa3).bind fun (i53,l54,l55)=>some ((i53,l54,l55))
def Mq:Hn Tryz.prog := .cl zX [] .nil
def LA:Spec:=⟨86,⟨[(0,.ptr 0 0)],[bkN 149 [.own 3 Yq2,.is 1 (.dat Yq2),.is 2 (.dat Yq2),.od (.obj 0 Yq5)],bkM,bkM]⟩,[⟨[kdI 0],[bkC 0 149 [.own 3 Yq2,.is 1 (.any),.is 2 (.any),.od (.obj 0 Yq5)],bkU 1,bkU 2]⟩],fun x=>fv x.1 x.2.1 x.2.2.1 x.2.2.2⟩
def pA:OkSpec Tryz.prog:=⟨LA,ae func86 Mq (by kernel_rfl) (by kernel_rfl),call86⟩

def lJ (qa0:(List Int)) (qa1:Int) (qa2:Int) (qa3:(Option Tq6)):Option ((Int×Bool×(List Int)×Int×Int×(Option Tq6))) :=
 (jC qa0 qa1 qa2 qa3).bind fun (i4,l5,l6)=>cond (decide (i4=0)) (some ((0,false,l5,qa1,qa2,l6))) ((aa l5 qa1).bind fun x7=>(aa l5 qa1).bind fun x8=>(some (l5.set qa1.toNat 0)).bind fun z9=>(nz (l5.length:Int)).bind fun u10=>some ((x7,true,z9,Int.tmod (IntKind.wrap .i64 (qa1 + 1)) (l5.length:Int),IntKind.wrap .i64 (qa2 - 1),l6)))
def KO:Hn Tryz.prog := .mc 0 1 5 (.mc 0 2 5 (.cl zX [] (.tw 8 .nil (.mix [] [0,1,2,3,4,5,6,7,8,9,10] [] [] (.mix [] [0,1,2,3,4,5,6,7,8,9] [10] [] (.mix [] [0,1,2,3,4,5,6,7,8,9,10,11,12,13] [14] [] .nil))))))
def JX:Spec:=⟨118,⟨[(0,.ptr 0 0)],[bkN 149 [.own 3 Yq2,.dat Yq2,.dat Yq2,.od (.obj 0 Yq5)]]⟩,[⟨[(0,.tup [.dat Yq2,.dat .bool])],[bkC 0 149 [.own 3 Yq2,.dat Yq2,.dat Yq2,.od (.obj 0 Yq5)]]⟩],fun x=>lJ x.1 x.2.1 x.2.2.1 x.2.2.2⟩
def KS:OkSpec Tryz.prog:=⟨JX,ae func118 KO (by kernel_rfl) (by kernel_rfl),call118⟩

def fw (qa0:(List Int)) (qa1:Int) (qa2:Int) (qa3:(Option Tq6)):Option ((Int×Bool×(List Int)×Int×Int×(Option Tq6))) :=
 (lJ qa0 qa1 qa2 qa3).bind fun (i76,t77,l78,i79,i80,l81)=>cond (t77) ((ve i76 l78 i79 i80 l81).bind fun r97=>some ((i76,t77,r97.1,r97.2.1,r97.2.2.1,r97.2.2.2))) (some ((i76,t77,l78,i79,i80,l81)))
def MX:Hn Tryz.prog := .cl KS [] (.tw 17 (.cl Bi [] .nil) .nil)
def Jr:Spec:=⟨87,⟨[(0,.ptr 0 0)],[bkN 149 [.own 3 Yq2,.dat Yq2,.dat Yq2,.od (.obj 0 Yq5)]]⟩,[⟨[(0,.tup [.dat Yq2,.dat .bool])],[bkC 0 149 [.own 3 Yq2,.dat Yq2,.dat Yq2,.od (.obj 0 Yq5)]]⟩],fun x=>fw x.1 x.2.1 x.2.2.1 x.2.2.2⟩
def pD:OkSpec Tryz.prog:=⟨Jr,ae func87 MX (by kernel_rfl) (by kernel_rfl),call87⟩

def cN (xb:Int) (qa0:Int) (qa1:(List Int)):Option ((Bool×(List Int))) :=
 (ef (some (qa0,qa1)) xb).bind fun t2=>(cond (!t2) (some (true)) ((bX (some (qa0,qa1)) xb).bind fun t3=>some (t3))).bind fun t4=>cond (t4) (some ((false,qa1))) ((aa qa1 (IntKind.wrap .i64 (Int.tdiv xb 64))).bind fun x5=>(ge0 (Int.tmod xb 64)).bind fun u6=>(aa qa1 (IntKind.wrap .i64 (Int.tdiv xb 64))).bind fun x7=>(some (qa1.set (IntKind.wrap .i64 (Int.tdiv xb 64)).toNat (IntKind.wrap .u64 ((BitVec.ofInt (IntKind.bits .u64) x5 ||| BitVec.ofInt (IntKind.bits .u64) (IntKind.wrap .u64 (1 * 2 ^ (min (Int.toNat (Int.tmod xb 64)) (IntKind.bits .u64))))).toNat:Int)))).bind fun z8=>some ((true,z8)))
def Nm:Hn Tryz.prog := .cl pB [2,0] (.gj 3 ⟨[kdB 13],[]⟩ [] (.two 9 .nil (.cl gE [2,0] .nil)) (.tw 13 .nil (.mix [] [0,1,2,3,4,5,6,7,8,9,10,11,12] [13] [] .nil)))
def Li:Spec:=⟨57,⟨[(0,.ptr 0 0),kdI 1],[bkN 116 [.is 1 (.dat Yq2),.own 113 ak],bkM]⟩,[⟨[kdB 0],[bkC 0 116 [.is 1 (.any),.own 113 ak],bkU 1]⟩],fun x=>cN x.1 x.2.1 x.2.2⟩
def gA:OkSpec Tryz.prog:=⟨Li,ae func57 Nm (by kernel_rfl) (by kernel_rfl),call57⟩
def AF (xc:(List Int)):Int→Option (Int⊕Unit):=fun i1=>cond (decide (i1 < (xc.length:Int))) ((aa xc i1).bind fun x2=>(fA x2).bind fun t3=>some (.inl (IntKind.wrap .i64 (i1 + 1)))) (some (.inr ((()))))
def AJ (xb:(List Int)):dI→Option (dI⊕dC):=fun (i1,l2,i3,i4,l5)=>cond (decide (i1 < (xb.length:Int))) ((aa xb i1).bind fun x6=>(fA x6).bind fun t7=>(cF x6 l2 i3 i4 l5).bind fun (t8,l9,i10,i11,l12)=>some (.inl ((IntKind.wrap .i64 (i1 + 1),l9,i10,i11,l12)))) (some (.inr (((l2,i3,i4,l5)))))
def AI (x1:(List Int)):dI→Option (dI⊕dC):=fun (i2,l3,i4,i5,l6)=>cond (decide (i2 < (x1.length:Int))) ((aa x1 i2).bind fun x7=>(bX ((none:Tq7)) x7).bind fun t8=>(cond (!t8) ((fA x7).bind fun t9=>some (t9)) (some (false))).bind fun t10=>cond (t10) ((cF x7 l3 i4 i5 l6).bind fun (t11,l12,i13,i14,l15)=>some (.inl ((IntKind.wrap .i64 (i2 + 1),l12,i13,i14,l15)))) (some (.inl ((IntKind.wrap .i64 (i2 + 1),l3,i4,i5,l6))))) (some (.inr (((l3,i4,i5,l6)))))
def AH (xa:(List (List Int))):dC→Option (dC⊕Unit):=fun (l1,i2,i3,l4)=>(fv l1 i2 i3 l4).bind fun (i5,l6,l7)=>cond (decide (0 < i5)) ((fw l6 i2 i3 l7).bind fun (i8,t9,l10,i11,i12,l13)=>(aa xa i8).bind fun x14=>(loop (AI x14) (0,l10,i11,i12,l13)).bind fun (l15,i16,i17,l18)=>some (.inl (l15,i16,i17,l18))) (some (.inr ((()))))
def AG (xb:(List Int)) (i1:Int):fu→Option (fu⊕Tq9):=fun (i2,l3,l4,i5,i6,l7)=>cond (decide (i2 < (xb.length:Int))) ((aa xb i2).bind fun x8=>(cN x8 i1 l3).bind fun (t9,l10)=>(cF x8 l4 i5 i6 l7).bind fun (t11,l12,i13,i14,l15)=>some (.inl ((IntKind.wrap .i64 (i2 + 1),l10,l12,i13,i14,l15)))) (some (.inr (((l3,l4,i5,i6,l7)))))
def AO (i1:Int) (x2:(List Int)):fu→Option (fu⊕Tq9):=fun (i3,l4,l5,i6,i7,l8)=>cond (decide (i3 < (x2.length:Int))) ((aa x2 i3).bind fun x9=>(bX ((none:Tq7)) x9).bind fun t10=>cond (!t10) ((cN x9 i1 l4).bind fun (t11,l12)=>cond (t11) ((cF x9 l5 i6 i7 l8).bind fun (t13,l14,i15,i16,l17)=>some (.inl ((IntKind.wrap .i64 (i3 + 1),l12,l14,i15,i16,l17)))) (some (.inl ((IntKind.wrap .i64 (i3 + 1),l12,l5,i6,i7,l8))))) (some (.inl ((IntKind.wrap .i64 (i3 + 1),l4,l5,i6,i7,l8))))) (some (.inr (((l4,l5,i6,i7,l8)))))
def AM (xa:(List (List Int))) (i1:Int):Tq9→Option (Tq9⊕(List Int)):=fun (l2,l3,i4,i5,l6)=>(fv l3 i4 i5 l6).bind fun (i7,l8,l9)=>cond (decide (0 < i7)) ((fw l8 i4 i5 l9).bind fun (i10,t11,l12,i13,i14,l15)=>(aa xa i10).bind fun x16=>(loop (AO i1 x16) (0,l2,l12,i13,i14,l15)).bind fun (l17,l18,i19,i20,l21)=>some (.inl (l17,l18,i19,i20,l21))) (some (.inr (l2)))
def jQ (xc:(List Int)) (i1:Int):bA→Option (bA⊕(List Int)):=fun (i2,l3)=>cond (decide (i2 < (xc.length:Int))) ((aa xc i2).bind fun x4=>(cN x4 i1 l3).bind fun (t5,l6)=>some (.inl ((IntKind.wrap .i64 (i2 + 1),l6)))) (some (.inr (l3)))
def AK (xb:(List Int)):dI→Option (dI⊕dC):=fun (i1,l2,i3,i4,l5)=>cond (decide (i1 < (xb.length:Int))) ((aa xb i1).bind fun x6=>(fA x6).bind fun t7=>(cF x6 l2 i3 i4 l5).bind fun (t8,l9,i10,i11,l12)=>some (.inl ((IntKind.wrap .i64 (i1 + 1),l9,i10,i11,l12)))) (some (.inr (((l2,i3,i4,l5)))))
def AE (i1:Int) (l2:(List Int)) (x3:(List Int)):dI→Option (dI⊕dC):=fun (i4,l5,i6,i7,l8)=>cond (decide (i4 < (x3.length:Int))) ((aa x3 i4).bind fun x9=>(bX (some (i1,l2)) x9).bind fun t10=>(cond (!t10) ((fA x9).bind fun t11=>some (t11)) (some (false))).bind fun t12=>cond (t12) ((cF x9 l5 i6 i7 l8).bind fun (t13,l14,i15,i16,l17)=>some (.inl ((IntKind.wrap .i64 (i4 + 1),l14,i15,i16,l17)))) (some (.inl ((IntKind.wrap .i64 (i4 + 1),l5,i6,i7,l8))))) (some (.inr (((l5,i6,i7,l8)))))
def AD (xa:(List (List Int))) (i1:Int) (l2:(List Int)):dC→Option (dC⊕Unit):=fun (l3,i4,i5,l6)=>(fv l3 i4 i5 l6).bind fun (i7,l8,l9)=>cond (decide (0 < i7)) ((fw l8 i4 i5 l9).bind fun (i10,t11,l12,i13,i14,l15)=>(aa xa i10).bind fun x16=>(loop (AE i1 l2 x16) (0,l12,i13,i14,l15)).bind fun (l17,i18,i19,l20)=>some (.inl (l17,i18,i19,l20))) (some (.inr ((()))))
def jN (xb:(List Int)) (i1:Int):fu→Option (fu⊕Tq9):=fun (i2,l3,l4,i5,i6,l7)=>cond (decide (i2 < (xb.length:Int))) ((aa xb i2).bind fun x8=>(cN x8 i1 l3).bind fun (t9,l10)=>(cF x8 l4 i5 i6 l7).bind fun (t11,l12,i13,i14,l15)=>some (.inl ((IntKind.wrap .i64 (i2 + 1),l10,l12,i13,i14,l15)))) (some (.inr (((l3,l4,i5,i6,l7)))))
def fB (i1:Int) (l2:(List Int)) (i3:Int) (x4:(List Int)):fu→Option (fu⊕Tq9):=fun (i5,l6,l7,i8,i9,l10)=>cond (decide (i5 < (x4.length:Int))) ((aa x4 i5).bind fun x11=>(bX (some (i1,l2)) x11).bind fun t12=>cond (!t12) ((cN x11 i3 l6).bind fun (t13,l14)=>cond (t13) ((cF x11 l7 i8 i9 l10).bind fun (t15,l16,i17,i18,l19)=>some (.inl ((IntKind.wrap .i64 (i5 + 1),l14,l16,i17,i18,l19)))) (some (.inl ((IntKind.wrap .i64 (i5 + 1),l14,l7,i8,i9,l10))))) (some (.inl ((IntKind.wrap .i64 (i5 + 1),l6,l7,i8,i9,l10))))) (some (.inr (((l6,l7,i8,i9,l10)))))
def mn (xa:(List (List Int))) (i1:Int) (l2:(List Int)) (i3:Int):Tq9→Option (Tq9⊕(List Int)):=fun (l4,l5,i6,i7,l8)=>(fv l5 i6 i7 l8).bind fun (i9,l10,l11)=>cond (decide (0 < i9)) ((fw l10 i6 i7 l11).bind fun (i12,t13,l14,i15,i16,l17)=>(aa xa i12).bind fun x18=>(loop (fB i1 l2 i3 x18) (0,l4,l14,i15,i16,l17)).bind fun (l19,l20,i21,i22,l23)=>some (.inl (l19,l20,i21,i22,l23))) (some (.inr (l4)))
def mV (xa:(List (List Int))) (xb:(List Int)) (xc:(List Int)):Option ((Unit⊕bA)) :=
 (ew (xa.length:Int)).bind fun o=>match o with | .inl i1=>((loop (AF xc) 0).bind fun ()=>(ew (xa.length:Int)).bind fun o=>match o with | .inl i2=>(loop (AJ xb) (0,[],0,0,none)).bind fun (l3,i4,i5,l6)=>(loop (AH xa) (l3,i4,i5,l6)).bind fun ()=>some (.inl ()) | .inr (i7,i8,l9)=>(loop (AG xb i8) (0,l9,[],0,0,none)).bind fun (l10,l11,i12,i13,l14)=>(loop (AM xa i8) (l10,l11,i12,i13,l14)).bind fun l15=>some (.inr (i8,l15))) | .inr (i16,i17,l18)=>(loop (jQ xc i17) (0,l18)).bind fun l19=>(ew (xa.length:Int)).bind fun o=>match o with | .inl i20=>(loop (AK xb) (0,[],0,0,none)).bind fun (l21,i22,i23,l24)=>(loop (AD xa i17 l19) (l21,i22,i23,l24)).bind fun ()=>some (.inl ()) | .inr (i25,i26,l27)=>(loop (jN xb i26) (0,l27,[],0,0,none)).bind fun (l28,l29,i30,i31,l32)=>(loop (mn xa i17 l19 i26) (l28,l29,i30,i31,l32)).bind fun l33=>some (.inr (i26,l33))
def M9:Hn Tryz.prog := .c2 pH [] (.jn [] ⟨[],[]⟩ [] (.lp ⟨[kdI 28],[]⟩ (.tw 29 (.cl jg [] .nil) .nil)) (.c2 pH [] (.jn [] ⟨[],[bkC 0 149 [.own 3 Yq2,.dat Yq2,.dat Yq2,.od (.obj 0 Yq5)]]⟩ [0] (.lp ⟨[kdI 44],[bkC 0 149 [.own 3 Yq2,.dat Yq2,.dat Yq2,.od (.obj 0 Yq5)]]⟩ (.tw 45 (.cl jg [] (.cl fi [] .nil)) .nil)) (.jn [] ⟨[],[]⟩ [0,2,4] (.lp ⟨[],[bkC 0 149 [.own 3 Yq2,.dat Yq2,.dat Yq2,.od (.obj 0 Yq5)]]⟩ (.mc 0 1 11 (.mc 0 2 11 (.cl pA [] (.tw 55 (.cl pD [] (.jn [] ⟨[],[bkC 0 149 [.own 3 Yq2,.dat Yq2,.dat Yq2,.od (.obj 0 Yq5)]]⟩ [29,0,31] (.lp ⟨[kdI 65],[bkC 0 149 [.own 3 Yq2,.dat Yq2,.dat Yq2,.od (.obj 0 Yq5)]]⟩ (.tw 66 (.cl gE [] (.gj 3 ⟨[kdB 77],[]⟩ [] (.two 73 (.cl jg [] .nil) .nil) (.tw 77 (.cl fi [] .nil) .nil))) .nil)) .nil)) .nil))))) .nil)) (.jn [(0,0)] ⟨[],[bkC 0 116 [.is 2 (.any),.own 113 ak],bkC 4 149 [.own 3 Yq2,.dat Yq2,.dat Yq2,.od (.obj 0 Yq5)],bkU 6]⟩ [4,1,0] (.lp ⟨[kdI 44],[bkC 0 116 [.is 2 (.any),.own 113 ak],bkC 4 149 [.own 3 Yq2,.dat Yq2,.dat Yq2,.od (.obj 0 Yq5)],bkU 6]⟩ (.tw 45 (.cl gA [] (.cl fi [] .nil)) .nil)) (.jn [] ⟨[],[bkC 0 116 [.is 1 (.any),.own 113 ak],bkU 6]⟩ [0,4,7,10,12] (.lp ⟨[],[bkC 0 116 [.is 2 (.any),.own 113 ak],bkC 4 149 [.own 3 Yq2,.dat Yq2,.dat Yq2,.od (.obj 0 Yq5)],bkU 6]⟩ (.mc 4 1 22 (.mc 4 2 22 (.cl pA [] (.tw 55 (.cl pD [] (.jn [] ⟨[],[bkC 0 116 [.is 2 (.any),.own 113 ak],bkC 4 149 [.own 3 Yq2,.dat Yq2,.dat Yq2,.od (.obj 0 Yq5)],bkU 6]⟩ [40,4,42,0,15] (.lp ⟨[kdI 65],[bkC 0 116 [.is 2 (.any),.own 113 ak],bkC 4 149 [.own 3 Yq2,.dat Yq2,.dat Yq2,.od (.obj 0 Yq5)],bkU 6]⟩ (.tw 66 (.cl gE [] (.two 73 (.cl gA [] (.tw 77 (.cl fi [] .nil) .nil)) .nil)) .nil)) .nil)) .nil))))) (.pl (.pl .nil)))))) (.jn [(0,0)] ⟨[],[bkC 0 116 [.is 1 (.any),.own 113 ak],bkU 4]⟩ [1,0] (.lp ⟨[kdI 28],[bkC 0 116 [.is 1 (.any),.own 113 ak],bkU 4]⟩ (.tw 29 (.cl gA [] .nil) .nil)) (.c2 pH [] (.jn [] ⟨[],[bkC 8 149 [.own 3 Yq2,.dat Yq2,.dat Yq2,.od (.obj 0 Yq5)]]⟩ [8] (.lp ⟨[kdI 44],[bkC 8 149 [.own 3 Yq2,.dat Yq2,.dat Yq2,.od (.obj 0 Yq5)]]⟩ (.tw 45 (.cl jg [] (.cl fi [] .nil)) .nil)) (.jn [] ⟨[],[]⟩ [8,10,12] (.lp ⟨[],[bkC 8 149 [.own 3 Yq2,.dat Yq2,.dat Yq2,.od (.obj 0 Yq5)]]⟩ (.mc 8 1 19 (.mc 8 2 19 (.cl pA [] (.tw 55 (.cl pD [] (.jn [] ⟨[],[bkC 8 149 [.own 3 Yq2,.dat Yq2,.dat Yq2,.od (.obj 0 Yq5)]]⟩ [37,8,39] (.lp ⟨[kdI 65],[bkC 8 149 [.own 3 Yq2,.dat Yq2,.dat Yq2,.od (.obj 0 Yq5)]]⟩ (.tw 66 (.cl gE [5,0] (.gj 3 ⟨[kdB 77],[]⟩ [] (.two 73 (.cl jg [] .nil) .nil) (.tw 77 (.cl fi [] .nil) .nil))) .nil)) .nil)) .nil))))) .nil)) (.jn [(8,0)] ⟨[],[bkC 8 116 [.is 2 (.any),.own 113 ak],bkC 12 149 [.own 3 Yq2,.dat Yq2,.dat Yq2,.od (.obj 0 Yq5)],bkU 14]⟩ [12,9,8] (.lp ⟨[kdI 44],[bkC 8 116 [.is 2 (.any),.own 113 ak],bkC 12 149 [.own 3 Yq2,.dat Yq2,.dat Yq2,.od (.obj 0 Yq5)],bkU 14]⟩ (.tw 45 (.cl gA [] (.cl fi [] .nil)) .nil)) (.jn [] ⟨[],[bkC 8 116 [.is 1 (.any),.own 113 ak],bkU 14]⟩ [8,12,15,18,20] (.lp ⟨[],[bkC 8 116 [.is 2 (.any),.own 113 ak],bkC 12 149 [.own 3 Yq2,.dat Yq2,.dat Yq2,.od (.obj 0 Yq5)],bkU 14]⟩ (.mc 12 1 30 (.mc 12 2 30 (.cl pA [] (.tw 55 (.cl pD [] (.jn [] ⟨[],[bkC 8 116 [.is 2 (.any),.own 113 ak],bkC 12 149 [.own 3 Yq2,.dat Yq2,.dat Yq2,.od (.obj 0 Yq5)],bkU 14]⟩ [48,12,50,8,23] (.lp ⟨[kdI 65],[bkC 8 116 [.is 2 (.any),.own 113 ak],bkC 12 149 [.own 3 Yq2,.dat Yq2,.dat Yq2,.od (.obj 0 Yq5)],bkU 14]⟩ (.tw 66 (.cl gE [5,0] (.two 73 (.cl gA [] (.tw 77 (.cl fi [] .nil) .nil)) .nil)) .nil)) .nil)) .nil))))) (.pl (.pl .nil))))))
def LU:Spec:=⟨52,⟨[(0,.dat (.sl (.sl Yq2))),(1,.dat (.sl Yq2)),(2,.dat (.sl Yq2))],[]⟩,[⟨[(0,.nilp)],[]⟩,⟨[(0,.ptr 0 0)],[bkN 116 [.dat Yq2,.own 113 ak]]⟩],fun x=>mV x.1 x.2.1 x.2.2⟩
def KB:OkSpec Tryz.prog:=⟨LU,ae func52 M9 (by kernel_rfl) (by kernel_rfl),call52⟩

def lP (xa:Int):Option Int :=
 some (IntKind.wrap .i64 ((BitVec.ofInt (IntKind.bits .i64) (IntKind.wrap .i64 (IntKind.wrap .u64 ((IntKind.wrap .u64 ((IntKind.wrap .u64 ((IntKind.wrap .u64 ((BitVec.ofInt (IntKind.bits .u64) (IntKind.wrap .u64 ((Int.fdiv (IntKind.wrap .u64 ((IntKind.wrap .u64 ((BitVec.ofInt (IntKind.bits .u64) (Int.fdiv (IntKind.wrap .u64 ((IntKind.wrap .u64 ((BitVec.ofInt (IntKind.bits .u64) (Int.fdiv xa (2 ^ (min (Int.toNat 1) (IntKind.bits .u64)))) &&& BitVec.ofInt (IntKind.bits .u64) 6148914691236517205).toNat:Int)) + (IntKind.wrap .u64 ((BitVec.ofInt (IntKind.bits .u64) xa &&& BitVec.ofInt (IntKind.bits .u64) 6148914691236517205).toNat:Int)))) (2 ^ (min (Int.toNat 2) (IntKind.bits .u64)))) &&& BitVec.ofInt (IntKind.bits .u64) 3689348814741910323).toNat:Int)) + (IntKind.wrap .u64 ((BitVec.ofInt (IntKind.bits .u64) (IntKind.wrap .u64 ((IntKind.wrap .u64 ((BitVec.ofInt (IntKind.bits .u64) (Int.fdiv xa (2 ^ (min (Int.toNat 1) (IntKind.bits .u64)))) &&& BitVec.ofInt (IntKind.bits .u64) 6148914691236517205).toNat:Int)) + (IntKind.wrap .u64 ((BitVec.ofInt (IntKind.bits .u64) xa &&& BitVec.ofInt (IntKind.bits .u64) 6148914691236517205).toNat:Int)))) &&& BitVec.ofInt (IntKind.bits .u64) 3689348814741910323).toNat:Int)))) (2 ^ (min (Int.toNat 4) (IntKind.bits .u64)))) + (IntKind.wrap .u64 ((IntKind.wrap .u64 ((BitVec.ofInt (IntKind.bits .u64) (Int.fdiv (IntKind.wrap .u64 ((IntKind.wrap .u64 ((BitVec.ofInt (IntKind.bits .u64) (Int.fdiv xa (2 ^ (min (Int.toNat 1) (IntKind.bits .u64)))) &&& BitVec.ofInt (IntKind.bits .u64) 6148914691236517205).toNat:Int)) + (IntKind.wrap .u64 ((BitVec.ofInt (IntKind.bits .u64) xa &&& BitVec.ofInt (IntKind.bits .u64) 6148914691236517205).toNat:Int)))) (2 ^ (min (Int.toNat 2) (IntKind.bits .u64)))) &&& BitVec.ofInt (IntKind.bits .u64) 3689348814741910323).toNat:Int)) + (IntKind.wrap .u64 ((BitVec.ofInt (IntKind.bits .u64) (IntKind.wrap .u64 ((IntKind.wrap .u64 ((BitVec.ofInt (IntKind.bits .u64) (Int.fdiv xa (2 ^ (min (Int.toNat 1) (IntKind.bits .u64)))) &&& BitVec.ofInt (IntKind.bits .u64) 6148914691236517205).toNat:Int)) + (IntKind.wrap .u64 ((BitVec.ofInt (IntKind.bits .u64) xa &&& BitVec.ofInt (IntKind.bits .u64) 6148914691236517205).toNat:Int)))) &&& BitVec.ofInt (IntKind.bits .u64) 3689348814741910323).toNat:Int)))))) &&& BitVec.ofInt (IntKind.bits .u64) 1085102592571150095).toNat:Int)) + (Int.fdiv (IntKind.wrap .u64 ((BitVec.ofInt (IntKind.bits .u64) (IntKind.wrap .u64 ((Int.fdiv (IntKind.wrap .u64 ((IntKind.wrap .u64 ((BitVec.ofInt (IntKind.bits .u64) (Int.fdiv (IntKind.wrap .u64 ((IntKind.wrap .u64 ((BitVec.ofInt (IntKind.bits .u64) (Int.fdiv xa (2 ^ (min (Int.toNat 1) (IntKind.bits .u64)))) &&& BitVec.ofInt (IntKind.bits .u64) 6148914691236517205).toNat:Int)) + (IntKind.wrap .u64 ((BitVec.ofInt (IntKind.bits .u64) xa &&& BitVec.ofInt (IntKind.bits .u64) 6148914691236517205).toNat:Int)))) (2 ^ (min (Int.toNat 2) (IntKind.bits .u64)))) &&& BitVec.ofInt (IntKind.bits .u64) 3689348814741910323).toNat:Int)) + (IntKind.wrap .u64 ((BitVec.ofInt (IntKind.bits .u64) (IntKind.wrap .u64 ((IntKind.wrap .u64 ((BitVec.ofInt (IntKind.bits .u64) (Int.fdiv xa (2 ^ (min (Int.toNat 1) (IntKind.bits .u64)))) &&& BitVec.ofInt (IntKind.bits .u64) 6148914691236517205).toNat:Int)) + (IntKind.wrap .u64 ((BitVec.ofInt (IntKind.bits .u64) xa &&& BitVec.ofInt (IntKind.bits .u64) 6148914691236517205).toNat:Int)))) &&& BitVec.ofInt (IntKind.bits .u64) 3689348814741910323).toNat:Int)))) (2 ^ (min (Int.toNat 4) (IntKind.bits .u64)))) + (IntKind.wrap .u64 ((IntKind.wrap .u64 ((BitVec.ofInt (IntKind.bits .u64) (Int.fdiv (IntKind.wrap .u64 ((IntKind.wrap .u64 ((BitVec.ofInt (IntKind.bits .u64) (Int.fdiv xa (2 ^ (min (Int.toNat 1) (IntKind.bits .u64)))) &&& BitVec.ofInt (IntKind.bits .u64) 6148914691236517205).toNat:Int)) + (IntKind.wrap .u64 ((BitVec.ofInt (IntKind.bits .u64) xa &&& BitVec.ofInt (IntKind.bits .u64) 6148914691236517205).toNat:Int)))) (2 ^ (min (Int.toNat 2) (IntKind.bits .u64)))) &&& BitVec.ofInt (IntKind.bits .u64) 3689348814741910323).toNat:Int)) + (IntKind.wrap .u64 ((BitVec.ofInt (IntKind.bits .u64) (IntKind.wrap .u64 ((IntKind.wrap .u64 ((BitVec.ofInt (IntKind.bits .u64) (Int.fdiv xa (2 ^ (min (Int.toNat 1) (IntKind.bits .u64)))) &&& BitVec.ofInt (IntKind.bits .u64) 6148914691236517205).toNat:Int)) + (IntKind.wrap .u64 ((BitVec.ofInt (IntKind.bits .u64) xa &&& BitVec.ofInt (IntKind.bits .u64) 6148914691236517205).toNat:Int)))) &&& BitVec.ofInt (IntKind.bits .u64) 3689348814741910323).toNat:Int)))))) &&& BitVec.ofInt (IntKind.bits .u64) 1085102592571150095).toNat:Int)) (2 ^ (min (Int.toNat 8) (IntKind.bits .u64)))))) + (Int.fdiv (IntKind.wrap .u64 ((IntKind.wrap .u64 ((BitVec.ofInt (IntKind.bits .u64) (IntKind.wrap .u64 ((Int.fdiv (IntKind.wrap .u64 ((IntKind.wrap .u64 ((BitVec.ofInt (IntKind.bits .u64) (Int.fdiv (IntKind.wrap .u64 ((IntKind.wrap .u64 ((BitVec.ofInt (IntKind.bits .u64) (Int.fdiv xa (2 ^ (min (Int.toNat 1) (IntKind.bits .u64)))) &&& BitVec.ofInt (IntKind.bits .u64) 6148914691236517205).toNat:Int)) + (IntKind.wrap .u64 ((BitVec.ofInt (IntKind.bits .u64) xa &&& BitVec.ofInt (IntKind.bits .u64) 6148914691236517205).toNat:Int)))) (2 ^ (min (Int.toNat 2) (IntKind.bits .u64)))) &&& BitVec.ofInt (IntKind.bits .u64) 3689348814741910323).toNat:Int)) + (IntKind.wrap .u64 ((BitVec.ofInt (IntKind.bits .u64) (IntKind.wrap .u64 ((IntKind.wrap .u64 ((BitVec.ofInt (IntKind.bits .u64) (Int.fdiv xa (2 ^ (min (Int.toNat 1) (IntKind.bits .u64)))) &&& BitVec.ofInt (IntKind.bits .u64) 6148914691236517205).toNat:Int)) + (IntKind.wrap .u64 ((BitVec.ofInt (IntKind.bits .u64) xa &&& BitVec.ofInt (IntKind.bits .u64) 6148914691236517205).toNat:Int)))) &&& BitVec.ofInt (IntKind.bits .u64) 3689348814741910323).toNat:Int)))) (2 ^ (min (Int.toNat 4) (IntKind.bits .u64)))) + (IntKind.wrap .u64 ((IntKind.wrap .u64 ((BitVec.ofInt (IntKind.bits .u64) (Int.fdiv (IntKind.wrap .u64 ((IntKind.wrap .u64 ((BitVec.ofInt (IntKind.bits .u64) (Int.fdiv xa (2 ^ (min (Int.toNat 1) (IntKind.bits .u64)))) &&& BitVec.ofInt (IntKind.bits .u64) 6148914691236517205).toNat:Int)) + (IntKind.wrap .u64 ((BitVec.ofInt (IntKind.bits .u64) xa &&& BitVec.ofInt (IntKind.bits .u64) 6148914691236517205).toNat:Int)))) (2 ^ (min (Int.toNat 2) (IntKind.bits .u64)))) &&& BitVec.ofInt (IntKind.bits .u64) 3689348814741910323).toNat:Int)) + (IntKind.wrap .u64 ((BitVec.ofInt (IntKind.bits .u64) (IntKind.wrap .u64 ((IntKind.wrap .u64 ((BitVec.ofInt (IntKind.bits .u64) (Int.fdiv xa (2 ^ (min (Int.toNat 1) (IntKind.bits .u64)))) &&& BitVec.ofInt (IntKind.bits .u64) 6148914691236517205).toNat:Int)) + (IntKind.wrap .u64 ((BitVec.ofInt (IntKind.bits .u64) xa &&& BitVec.ofInt (IntKind.bits .u64) 6148914691236517205).toNat:Int)))) &&& BitVec.ofInt (IntKind.bits .u64) 3689348814741910323).toNat:Int)))))) &&& BitVec.ofInt (IntKind.bits .u64) 1085102592571150095).toNat:Int)) + (Int.fdiv (IntKind.wrap .u64 ((BitVec.ofInt (IntKind.bits .u64) (IntKind.wrap .u64 ((Int.fdiv (IntKind.wrap .u64 ((IntKind.wrap .u64 ((BitVec.ofInt (IntKind.bits .u64) (Int.fdiv (IntKind.wrap .u64 ((IntKind.wrap .u64 ((BitVec.ofInt (IntKind.bits .u64) (Int.fdiv xa (2 ^ (min (Int.toNat 1) (IntKind.bits .u64)))) &&& BitVec.ofInt (IntKind.bits .u64) 6148914691236517205).toNat:Int)) + (IntKind.wrap .u64 ((BitVec.ofInt (IntKind.bits .u64) xa &&& BitVec.ofInt (IntKind.bits .u64) 6148914691236517205).toNat:Int)))) (2 ^ (min (Int.toNat 2) (IntKind.bits .u64)))) &&& BitVec.ofInt (IntKind.bits .u64) 3689348814741910323).toNat:Int)) + (IntKind.wrap .u64 ((BitVec.ofInt (IntKind.bits .u64) (IntKind.wrap .u64 ((IntKind.wrap .u64 ((BitVec.ofInt (IntKind.bits .u64) (Int.fdiv xa (2 ^ (min (Int.toNat 1) (IntKind.bits .u64)))) &&& BitVec.ofInt (IntKind.bits .u64) 6148914691236517205).toNat:Int)) + (IntKind.wrap .u64 ((BitVec.ofInt (IntKind.bits .u64) xa &&& BitVec.ofInt (IntKind.bits .u64) 6148914691236517205).toNat:Int)))) &&& BitVec.ofInt (IntKind.bits .u64) 3689348814741910323).toNat:Int)))) (2 ^ (min (Int.toNat 4) (IntKind.bits .u64)))) + (IntKind.wrap .u64 ((IntKind.wrap .u64 ((BitVec.ofInt (IntKind.bits .u64) (Int.fdiv (IntKind.wrap .u64 ((IntKind.wrap .u64 ((BitVec.ofInt (IntKind.bits .u64) (Int.fdiv xa (2 ^ (min (Int.toNat 1) (IntKind.bits .u64)))) &&& BitVec.ofInt (IntKind.bits .u64) 6148914691236517205).toNat:Int)) + (IntKind.wrap .u64 ((BitVec.ofInt (IntKind.bits .u64) xa &&& BitVec.ofInt (IntKind.bits .u64) 6148914691236517205).toNat:Int)))) (2 ^ (min (Int.toNat 2) (IntKind.bits .u64)))) &&& BitVec.ofInt (IntKind.bits .u64) 3689348814741910323).toNat:Int)) + (IntKind.wrap .u64 ((BitVec.ofInt (IntKind.bits .u64) (IntKind.wrap .u64 ((IntKind.wrap .u64 ((BitVec.ofInt (IntKind.bits .u64) (Int.fdiv xa (2 ^ (min (Int.toNat 1) (IntKind.bits .u64)))) &&& BitVec.ofInt (IntKind.bits .u64) 6148914691236517205).toNat:Int)) + (IntKind.wrap .u64 ((BitVec.ofInt (IntKind.bits .u64) xa &&& BitVec.ofInt (IntKind.bits .u64) 6148914691236517205).toNat:Int)))) &&& BitVec.ofInt (IntKind.bits .u64) 3689348814741910323).toNat:Int)))))) &&& BitVec.ofInt (IntKind.bits .u64) 1085102592571150095).toNat:Int)) (2 ^ (min (Int.toNat 8) (IntKind.bits .u64)))))) (2 ^ (min (Int.toNat 16) (IntKind.bits .u64)))))) + (Int.fdiv (IntKind.wrap .u64 ((IntKind.wrap .u64 ((IntKind.wrap .u64 ((BitVec.ofInt (IntKind.bits .u64) (IntKind.wrap .u64 ((Int.fdiv (IntKind.wrap .u64 ((IntKind.wrap .u64 ((BitVec.ofInt (IntKind.bits .u64) (Int.fdiv (IntKind.wrap .u64 ((IntKind.wrap .u64 ((BitVec.ofInt (IntKind.bits .u64) (Int.fdiv xa (2 ^ (min (Int.toNat 1) (IntKind.bits .u64)))) &&& BitVec.ofInt (IntKind.bits .u64) 6148914691236517205).toNat:Int)) + (IntKind.wrap .u64 ((BitVec.ofInt (IntKind.bits .u64) xa &&& BitVec.ofInt (IntKind.bits .u64) 6148914691236517205).toNat:Int)))) (2 ^ (min (Int.toNat 2) (IntKind.bits .u64)))) &&& BitVec.ofInt (IntKind.bits .u64) 3689348814741910323).toNat:Int)) + (IntKind.wrap .u64 ((BitVec.ofInt (IntKind.bits .u64) (IntKind.wrap .u64 ((IntKind.wrap .u64 ((BitVec.ofInt (IntKind.bits .u64) (Int.fdiv xa (2 ^ (min (Int.toNat 1) (IntKind.bits .u64)))) &&& BitVec.ofInt (IntKind.bits .u64) 6148914691236517205).toNat:Int)) + (IntKind.wrap .u64 ((BitVec.ofInt (IntKind.bits .u64) xa &&& BitVec.ofInt (IntKind.bits .u64) 6148914691236517205).toNat:Int)))) &&& BitVec.ofInt (IntKind.bits .u64) 3689348814741910323).toNat:Int)))) (2 ^ (min (Int.toNat 4) (IntKind.bits .u64)))) + (IntKind.wrap .u64 ((IntKind.wrap .u64 ((BitVec.ofInt (IntKind.bits .u64) (Int.fdiv (IntKind.wrap .u64 ((IntKind.wrap .u64 ((BitVec.ofInt (IntKind.bits .u64) (Int.fdiv xa (2 ^ (min (Int.toNat 1) (IntKind.bits .u64)))) &&& BitVec.ofInt (IntKind.bits .u64) 6148914691236517205).toNat:Int)) + (IntKind.wrap .u64 ((BitVec.ofInt (IntKind.bits .u64) xa &&& BitVec.ofInt (IntKind.bits .u64) 6148914691236517205).toNat:Int)))) (2 ^ (min (Int.toNat 2) (IntKind.bits .u64)))) &&& BitVec.ofInt (IntKind.bits .u64) 3689348814741910323).toNat:Int)) + (IntKind.wrap .u64 ((BitVec.ofInt (IntKind.bits .u64) (IntKind.wrap .u64 ((IntKind.wrap .u64 ((BitVec.ofInt (IntKind.bits .u64) (Int.fdiv xa (2 ^ (min (Int.toNat 1) (IntKind.bits .u64)))) &&& BitVec.ofInt (IntKind.bits .u64) 6148914691236517205).toNat:Int)) + (IntKind.wrap .u64 ((BitVec.ofInt (IntKind.bits .u64) xa &&& BitVec.ofInt (IntKind.bits .u64) 6148914691236517205).toNat:Int)))) &&& BitVec.ofInt (IntKind.bits .u64) 3689348814741910323).toNat:Int)))))) &&& BitVec.ofInt (IntKind.bits .u64) 1085102592571150095).toNat:Int)) + (Int.fdiv (IntKind.wrap .u64 ((BitVec.ofInt (IntKind.bits .u64) (IntKind.wrap .u64 ((Int.fdiv (IntKind.wrap .u64 ((IntKind.wrap .u64 ((BitVec.ofInt (IntKind.bits .u64) (Int.fdiv (IntKind.wrap .u64 ((IntKind.wrap .u64 ((BitVec.ofInt (IntKind.bits .u64) (Int.fdiv xa (2 ^ (min (Int.toNat 1) (IntKind.bits .u64)))) &&& BitVec.ofInt (IntKind.bits .u64) 6148914691236517205).toNat:Int)) + (IntKind.wrap .u64 ((BitVec.ofInt (IntKind.bits .u64) xa &&& BitVec.ofInt (IntKind.bits .u64) 6148914691236517205).toNat:Int)))) (2 ^ (min (Int.toNat 2) (IntKind.bits .u64)))) &&& BitVec.ofInt (IntKind.bits .u64) 3689348814741910323).toNat:Int)) + (IntKind.wrap .u64 ((BitVec.ofInt (IntKind.bits .u64) (IntKind.wrap .u64 ((IntKind.wrap .u64 ((BitVec.ofInt (IntKind.bits .u64) (Int.fdiv xa (2 ^ (min (Int.toNat 1) (IntKind.bits .u64)))) &&& BitVec.ofInt (IntKind.bits .u64) 6148914691236517205).toNat:Int)) + (IntKind.wrap .u64 ((BitVec.ofInt (IntKind.bits .u64) xa &&& BitVec.ofInt (IntKind.bits .u64) 6148914691236517205).toNat:Int)))) &&& BitVec.ofInt (IntKind.bits .u64) 3689348814741910323).toNat:Int)))) (2 ^ (min (Int.toNat 4) (IntKind.bits .u64)))) + (IntKind.wrap .u64 ((IntKind.wrap .u64 ((BitVec.ofInt (IntKind.bits .u64) (Int.fdiv (IntKind.wrap .u64 ((IntKind.wrap .u64 ((BitVec.ofInt (IntKind.bits .u64) (Int.fdiv xa (2 ^ (min (Int.toNat 1) (IntKind.bits .u64)))) &&& BitVec.ofInt (IntKind.bits .u64) 6148914691236517205).toNat:Int)) + (IntKind.wrap .u64 ((BitVec.ofInt (IntKind.bits .u64) xa &&& BitVec.ofInt (IntKind.bits .u64) 6148914691236517205).toNat:Int)))) (2 ^ (min (Int.toNat 2) (IntKind.bits .u64)))) &&& BitVec.ofInt (IntKind.bits .u64) 3689348814741910323).toNat:Int)) + (IntKind.wrap .u64 ((BitVec.ofInt (IntKind.bits .u64) (IntKind.wrap .u64 ((IntKind.wrap .u64 ((BitVec.ofInt (IntKind.bits .u64) (Int.fdiv xa (2 ^ (min (Int.toNat 1) (IntKind.bits .u64)))) &&& BitVec.ofInt (IntKind.bits .u64) 6148914691236517205).toNat:Int)) + (IntKind.wrap .u64 ((BitVec.ofInt (IntKind.bits .u64) xa &&& BitVec.ofInt (IntKind.bits .u64) 6148914691236517205).toNat:Int)))) &&& BitVec.ofInt (IntKind.bits .u64) 3689348814741910323).toNat:Int)))))) &&& BitVec.ofInt (IntKind.bits .u64) 1085102592571150095).toNat:Int)) (2 ^ (min (Int.toNat 8) (IntKind.bits .u64)))))) + (Int.fdiv (IntKind.wrap .u64 ((IntKind.wrap .u64 ((BitVec.ofInt (IntKind.bits .u64) (IntKind.wrap .u64 ((Int.fdiv (IntKind.wrap .u64 ((IntKind.wrap .u64 ((BitVec.ofInt (IntKind.bits .u64) (Int.fdiv (IntKind.wrap .u64 ((IntKind.wrap .u64 ((BitVec.ofInt (IntKind.bits .u64) (Int.fdiv xa (2 ^ (min (Int.toNat 1) (IntKind.bits .u64)))) &&& BitVec.ofInt (IntKind.bits .u64) 6148914691236517205).toNat:Int)) + (IntKind.wrap .u64 ((BitVec.ofInt (IntKind.bits .u64) xa &&& BitVec.ofInt (IntKind.bits .u64) 6148914691236517205).toNat:Int)))) (2 ^ (min (Int.toNat 2) (IntKind.bits .u64)))) &&& BitVec.ofInt (IntKind.bits .u64) 3689348814741910323).toNat:Int)) + (IntKind.wrap .u64 ((BitVec.ofInt (IntKind.bits .u64) (IntKind.wrap .u64 ((IntKind.wrap .u64 ((BitVec.ofInt (IntKind.bits .u64) (Int.fdiv xa (2 ^ (min (Int.toNat 1) (IntKind.bits .u64)))) &&& BitVec.ofInt (IntKind.bits .u64) 6148914691236517205).toNat:Int)) + (IntKind.wrap .u64 ((BitVec.ofInt (IntKind.bits .u64) xa &&& BitVec.ofInt (IntKind.bits .u64) 6148914691236517205).toNat:Int)))) &&& BitVec.ofInt (IntKind.bits .u64) 3689348814741910323).toNat:Int)))) (2 ^ (min (Int.toNat 4) (IntKind.bits .u64)))) + (IntKind.wrap .u64 ((IntKind.wrap .u64 ((BitVec.ofInt (IntKind.bits .u64) (Int.fdiv (IntKind.wrap .u64 ((IntKind.wrap .u64 ((BitVec.ofInt (IntKind.bits .u64) (Int.fdiv xa (2 ^ (min (Int.toNat 1) (IntKind.bits .u64)))) &&& BitVec.ofInt (IntKind.bits .u64) 6148914691236517205).toNat:Int)) + (IntKind.wrap .u64 ((BitVec.ofInt (IntKind.bits .u64) xa &&& BitVec.ofInt (IntKind.bits .u64) 6148914691236517205).toNat:Int)))) (2 ^ (min (Int.toNat 2) (IntKind.bits .u64)))) &&& BitVec.ofInt (IntKind.bits .u64) 3689348814741910323).toNat:Int)) + (IntKind.wrap .u64 ((BitVec.ofInt (IntKind.bits .u64) (IntKind.wrap .u64 ((IntKind.wrap .u64 ((BitVec.ofInt (IntKind.bits .u64) (Int.fdiv xa (2 ^ (min (Int.toNat 1) (IntKind.bits .u64)))) &&& BitVec.ofInt (IntKind.bits .u64) 6148914691236517205).toNat:Int)) + (IntKind.wrap .u64 ((BitVec.ofInt (IntKind.bits .u64) xa &&& BitVec.ofInt (IntKind.bits .u64) 6148914691236517205).toNat:Int)))) &&& BitVec.ofInt (IntKind.bits .u64) 3689348814741910323).toNat:Int)))))) &&& BitVec.ofInt (IntKind.bits .u64) 1085102592571150095).toNat:Int)) + (Int.fdiv (IntKind.wrap .u64 ((BitVec.ofInt (IntKind.bits .u64) (IntKind.wrap .u64 ((Int.fdiv (IntKind.wrap .u64 ((IntKind.wrap .u64 ((BitVec.ofInt (IntKind.bits .u64) (Int.fdiv (IntKind.wrap .u64 ((IntKind.wrap .u64 ((BitVec.ofInt (IntKind.bits .u64) (Int.fdiv xa (2 ^ (min (Int.toNat 1) (IntKind.bits .u64)))) &&& BitVec.ofInt (IntKind.bits .u64) 6148914691236517205).toNat:Int)) + (IntKind.wrap .u64 ((BitVec.ofInt (IntKind.bits .u64) xa &&& BitVec.ofInt (IntKind.bits .u64) 6148914691236517205).toNat:Int)))) (2 ^ (min (Int.toNat 2) (IntKind.bits .u64)))) &&& BitVec.ofInt (IntKind.bits .u64) 3689348814741910323).toNat:Int)) + (IntKind.wrap .u64 ((BitVec.ofInt (IntKind.bits .u64) (IntKind.wrap .u64 ((IntKind.wrap .u64 ((BitVec.ofInt (IntKind.bits .u64) (Int.fdiv xa (2 ^ (min (Int.toNat 1) (IntKind.bits .u64)))) &&& BitVec.ofInt (IntKind.bits .u64) 6148914691236517205).toNat:Int)) + (IntKind.wrap .u64 ((BitVec.ofInt (IntKind.bits .u64) xa &&& BitVec.ofInt (IntKind.bits .u64) 6148914691236517205).toNat:Int)))) &&& BitVec.ofInt (IntKind.bits .u64) 3689348814741910323).toNat:Int)))) (2 ^ (min (Int.toNat 4) (IntKind.bits .u64)))) + (IntKind.wrap .u64 ((IntKind.wrap .u64 ((BitVec.ofInt (IntKind.bits .u64) (Int.fdiv (IntKind.wrap .u64 ((IntKind.wrap .u64 ((BitVec.ofInt (IntKind.bits .u64) (Int.fdiv xa (2 ^ (min (Int.toNat 1) (IntKind.bits .u64)))) &&& BitVec.ofInt (IntKind.bits .u64) 6148914691236517205).toNat:Int)) + (IntKind.wrap .u64 ((BitVec.ofInt (IntKind.bits .u64) xa &&& BitVec.ofInt (IntKind.bits .u64) 6148914691236517205).toNat:Int)))) (2 ^ (min (Int.toNat 2) (IntKind.bits .u64)))) &&& BitVec.ofInt (IntKind.bits .u64) 3689348814741910323).toNat:Int)) + (IntKind.wrap .u64 ((BitVec.ofInt (IntKind.bits .u64) (IntKind.wrap .u64 ((IntKind.wrap .u64 ((BitVec.ofInt (IntKind.bits .u64) (Int.fdiv xa (2 ^ (min (Int.toNat 1) (IntKind.bits .u64)))) &&& BitVec.ofInt (IntKind.bits .u64) 6148914691236517205).toNat:Int)) + (IntKind.wrap .u64 ((BitVec.ofInt (IntKind.bits .u64) xa &&& BitVec.ofInt (IntKind.bits .u64) 6148914691236517205).toNat:Int)))) &&& BitVec.ofInt (IntKind.bits .u64) 3689348814741910323).toNat:Int)))))) &&& BitVec.ofInt (IntKind.bits .u64) 1085102592571150095).toNat:Int)) (2 ^ (min (Int.toNat 8) (IntKind.bits .u64)))))) (2 ^ (min (Int.toNat 16) (IntKind.bits .u64)))))) (2 ^ (min (Int.toNat 32) (IntKind.bits .u64))))))) &&& BitVec.ofInt (IntKind.bits .i64) 127).toNat:Int))
def LW:Hn Tryz.prog := .nil
def K4:Spec:=⟨73,⟨[(0,.dat ak)],[]⟩,[⟨[kdI 0],[]⟩],fun x=>lP x⟩
def Ku:OkSpec Tryz.prog:=⟨K4,ae func73 LW (by kernel_rfl) (by kernel_rfl),call73⟩
def jH (y1:bA):bP→Option (bP⊕Int):=fun (i2,i3)=>cond (decide (i3 < (y1.2.length:Int))) ((aa y1.2 i3).bind fun x4=>(lP x4).bind fun i5=>some (.inl ((IntKind.wrap .i64 (i2 + i5),IntKind.wrap .i64 (i3 + 1))))) (some (.inr (i2)))
def eh (xa:Tq7):Option Int :=
 cond (xa.isNone) (some (0)) (xa.bind fun y1=>(loop (jH y1) (0,0)).bind fun i2=>some (i2))
def H5:Hn Tryz.prog := .tw 7 .nil (.jn [] ⟨[kdI 3],[]⟩ [] (.lp ⟨[kdI 3,kdI 13],[]⟩ (.tw 14 (.cl Ku [] .nil) .nil)) .nil)
def H6:Spec:=⟨45,⟨[(0,.dat Yq6)],[]⟩,[⟨[kdI 0],[]⟩],fun x=>eh x⟩
def zG:OkSpec Tryz.prog:=⟨H6,ae func45 H5 (by kernel_rfl) (by kernel_rfl),call45⟩
def j5 (p1:(Option gH)) (l2:(List (List Int))) (z3:List Tq7):(Int×(List Tq7))→Option ((Int×(List Tq7))⊕(List Tq7)):=fun (i4,l5)=>cond (decide (i4 < (z3.length:Int))) ((mh p1 i4).bind fun (l6,l7)=>cond (decide (0 < (l6.length:Int))) ((aa l5 i4).bind fun x8=>(mV l2 l6 l7).bind fun o=>match o with | .inl _=>(aa l5 i4).bind fun _=>(aE i4 i4).bind fun _=>(aa (l5.set i4.toNat none) i4).bind fun x9=>(aa (l5.set i4.toNat none) i4).bind fun _=>(aE i4 i4).bind fun _=>(eh x9).bind fun i10=>(bf 2 i10).bind fun _=>some (.inl ((IntKind.wrap .i64 (i4 + 1),(l5.set i4.toNat none).set i4.toNat x9))) | .inr (i11,l12)=>(aa l5 i4).bind fun _=>(aE i4 i4).bind fun _=>(aa (l5.set i4.toNat (some (i11,l12))) i4).bind fun x13=>(aa (l5.set i4.toNat (some (i11,l12))) i4).bind fun _=>(aE i4 i4).bind fun _=>(eh x13).bind fun i14=>(bf 2 i14).bind fun _=>some (.inl ((IntKind.wrap .i64 (i4 + 1),(l5.set i4.toNat (some (i11,l12))).set i4.toNat x13)))) (some (.inl ((IntKind.wrap .i64 (i4 + 1),l5))))) (some (.inr (l5)))
def kh (xa:Tq1):Option ((Option (Int×(List Tq7)))) :=
 (kr xa).bind fun p1=>(qa p1).bind fun i2=>cond (decide (i2=0)) (some ((some (i2,[])))) ((bf 2 i2).bind fun _=>(kw xa).bind fun p3=>(m4 p3 i2).bind fun l4=>(mk (xa.2.2.2.1.length:Int) (xa.2.2.2.1.length:Int) none:Option (List Tq7)).bind fun z5=>(loop (j5 p1 l4 z5) (0,z5)).bind fun l6=>some ((some (i2,l6))))
def Hr:Hn Tryz.prog := .cl NC [] (.cl Mj [] (.tw 21 (.perb 2 3 (.cons Yq2 (.one (.sl Yq6))) .nil) (.cl oQ3 [] (.mix [([0,2,3,4,5],1)] [] [6,7] [] (.cl KM [] (.cl J7 [] (.ot (.box 116 (.cons (.dat Yq2) (.one (.row 113 (.dat ak))))) (.per 4 5 (.jn [] ⟨[],[bkO 6 (.row 86 (.box 116 (.cons (.dat Yq2) (.one (.row 113 (.dat ak))))))]⟩ [6,0] (.lp ⟨[kdI 48],[bkO 6 (.row 86 (.box 116 (.cons (.dat Yq2) (.one (.row 113 (.dat ak))))))]⟩ (.tw 49 (.cl L5 [] (.tw 59 (.opp [4] 6 64 (.mix [([0,1,2,3,4,5,6,7],8)] [9] [10] [12,10] (.per 10 11 (.per 12 13 (.c2 KB [] (.cls 6 16 (.opn 6 75 (.cl zG [19] (.cl oQ3 [] (.cls 6 18 .nil))))) (.cls 6 20 (.opn 6 75 (.cl zG [23] (.cl oQ3 [] (.cls 6 22 .nil)))))))))) .nil)) .nil)) (.per 6 9 (.perb 2 8 (.cons Yq2 (.one (.sl Yq6))) .nil)))))))))))
def Ib:Spec:=⟨24,⟨[(0,.dat Yq1),(1,.nilp)],[]⟩,[⟨[(0,.dat (.ptr (.cons Yq2 (.one (.sl Yq6)))))],[]⟩],fun x=>kh x⟩
def HY:OkSpec Tryz.prog:=⟨Ib,ae func24 Hr (by kernel_rfl) (by kernel_rfl),call24⟩

def qm (xa:(Option (Int×(List Tq7)))):Option Int :=
 cond (xa.isNone) (some (0)) (xa.bind fun y11=>some (y11.1))
def Hk:Hn Tryz.prog := .tw 4 .nil .nil
def Hv:Spec:=⟨25,⟨[(0,.dat (.ptr (.cons Yq2 (.one (.sl Yq6)))))],[]⟩,[⟨[kdI 0],[]⟩],fun x=>qm x⟩
def HI:OkSpec Tryz.prog:=⟨Hv,ae func25 Hk (by kernel_rfl) (by kernel_rfl),call25⟩

def fE (xa:Int):Option Bool :=
 some ((decide (0≤xa))&&(decide (xa≤2147483647)))
def I0:Hn Tryz.prog := .gp 2 .nil
def IL:Spec:=⟨90,⟨[kdI 0],[]⟩,[⟨[kdB 0],[]⟩],fun x=>fE x⟩
def zB:OkSpec Tryz.prog:=⟨IL,ae func90 I0 (by kernel_rfl) (by kernel_rfl),call90⟩
def j9 (xa:(List Int)):bA→Option (bA⊕(List Int)):=fun (i1,l2)=>cond (decide (i1 < (xa.length:Int))) ((aa xa i1).bind fun x3=>(fE x3).bind fun t4=>cond (t4) ((app l2 ([x3]:List Int)).bind fun z5=>some (.inl ((IntKind.wrap .i64 (i1 + 1),z5)))) (some (.inl ((IntKind.wrap .i64 (i1 + 1),l2))))) (some (.inr (l2)))
def ii (xa:(List Int)):Option (List Int) :=
 (loop (j9 xa) (0,[])).bind fun l1=>(srt l1).bind fun l2=>(fh l2).bind fun l3=>some (l3)
def I6:Hn Tryz.prog := .jn [] ⟨[],[bkC 0 120 [.own 3 Yq2]]⟩ [0] (.lp ⟨[kdI 10],[bkC 0 120 [.own 3 Yq2]]⟩ (.tw 11 (.cl zB [] (.tw 15 .nil .nil)) .nil)) (.cl ol [] (.cl nt [] .nil))
def HT:Spec:=⟨88,⟨[(0,.dat (.sl Yq2))],[]⟩,[⟨[(0,.ptr 0 0)],[bkN 120 [.own 3 Yq2]]⟩],fun x=>ii x⟩
def zw:OkSpec Tryz.prog:=⟨HT,ae func88 I6 (by kernel_rfl) (by kernel_rfl),call88⟩

def m7 (xa:Int):Option ((Int⊕(Int×Int×aF))) :=
 cond (decide (xa < 0)) (some (.inl 2)) (cond (decide (1048576 < xa)) (some (.inl 5)) ((ii ([])).bind fun l26=>some (.inr (0,xa,some l26))))
def HQ:Hn Tryz.prog := .tw 5 .nil (.tw 7 .nil (.cl zw [] (.pl .nil)))
def I7:Spec:=⟨53,⟨[kdI 0],[]⟩,[⟨[(0,.tup [.nilp,.dat Yq2])],[]⟩,⟨[(0,.tup [.ptr 0 0,.dat Yq2])],[bkN 88 [.dat Yq2,.od (.box 120 (.one (.row 3 (.dat Yq2)))),.nilp]]⟩],fun x=>m7 x⟩
def I4:OkSpec Tryz.prog:=⟨I7,ae func53 HQ (by kernel_rfl) (by kernel_rfl),call53⟩

def en (xa:Int):Option ((Unit⊕(Int×aF))) :=
 (m7 xa).bind fun o=>match o with | .inl i22=>some (.inl ()) | .inr (i26,i27,l28)=>some (.inr (i27,l28))
def HS:Hn Tryz.prog := .c2 I4 [] .nil (.pl (.pl .nil))
def HE:Spec:=⟨27,⟨[kdI 0],[]⟩,[⟨[(0,.nilp)],[]⟩,⟨[(0,.ptr 0 0)],[bkN 88 [.dat Yq2,.od (.box 120 (.one (.row 3 (.dat Yq2)))),.nilp]]⟩],fun x=>en x⟩
def lj:OkSpec Tryz.prog:=⟨HE,ae func27 HS (by kernel_rfl) (by kernel_rfl),call27⟩

def ej (xa:(Option Tq2)):Option Int :=
 cond (xa.isNone) (some (0)) (xa.bind fun y11=>some (y11.1))
def GT:Hn Tryz.prog := .tw 4 .nil .nil
def G3:Spec:=⟨16,⟨[(0,.dat jj)],[]⟩,[⟨[kdI 0],[]⟩],fun x=>ej x⟩
def oS:OkSpec Tryz.prog:=⟨G3,ae func16 GT (by kernel_rfl) (by kernel_rfl),call16⟩

def dd (xa:(Option Tq2)):Option Bool :=
 (cond (!xa.isNone) (xa.bind fun y36=>some (!y36.2.2.isNone)) (some (false))).bind fun t34=>some (t34)
def IG:Hn Tryz.prog := .gj 5 ⟨[kdB 11],[]⟩ [] (.two 5 .nil .nil) .nil
def HN:Spec:=⟨42,⟨[(0,.dat jj)],[]⟩,[⟨[kdB 0],[]⟩],fun x=>dd x⟩
def iV:OkSpec Tryz.prog:=⟨HN,ae func42 IG (by kernel_rfl) (by kernel_rfl),call42⟩

def me (xb:Int):Option Bool :=
 (cond (decide (xb < 0)) (some (true)) ((ej ((none:(Option Tq2)))).bind fun i36=>some (decide (i36≤xb)))).bind fun t32=>cond (t32) (some (false)) ((dd ((none:(Option Tq2)))).bind fun t43=>cond (t43) (none) (none))
def Ih:Hn Tryz.prog := .gj 4 ⟨[kdB 13],[]⟩ [] (.two 8 .nil (.cl oS [] .nil)) (.tw 13 .nil (.cl iV [] (.tw 15 .nil .nil)))
def G7:Spec:=⟨30,⟨[(0,.nilp),kdI 1],[]⟩,[⟨[kdB 0],[]⟩],fun x=>me x⟩
def tJ:OkSpec Tryz.prog:=⟨G7,ae func30 Ih (by kernel_rfl) (by kernel_rfl),call30⟩
def Ay (xc:Int):Int→Option (Int⊕Unit):=fun i1=>(ej ((none:(Option Tq2)))).bind fun i2=>cond (decide (i1 < (if i2 < xc then i2 else xc))) ((me i1).bind fun t3=>some (.inl (IntKind.wrap .i64 (i1 + 1)))) (some (.inr ((()))))
def uF (xb:Int) (xc:Int):Option Unit :=
 (loop (Ay xc) (if xb < 0 then 0 else xb)).bind fun ()=>some (())
def IH:Hn Tryz.prog := .jn [] ⟨[],[]⟩ [] (.lp ⟨[kdI 6],[]⟩ (.cl oS [] (.tw 14 (.cl tJ [] .nil) .nil))) .nil
def IU:Spec:=⟨28,⟨[(0,.nilp),kdI 1,kdI 2],[]⟩,[⟨[],[]⟩],fun x=>uF x.1 x.2⟩
def Iu:OkSpec Tryz.prog:=⟨IU,ae func28 IH (by kernel_rfl) (by kernel_rfl),call28⟩

def jE (qa0:Int) (qa1:aF) (qa2:Tq7):Option ((Bool×aF×Tq7)) :=
 some ((false,qa1,qa2))
def G8:Hn Tryz.prog := .mix [] [0,1,2,3,4,5,6,7,8,9,10,11,12,13,14,15,16] [] [] .nil
def H3:Spec:=⟨29,⟨[(0,.ptr 0 0),(1,.nilp)],[bkN 88 [.is 1 (.dat Yq2),.od (.box 120 (.one (.row 3 (.dat Yq2)))),.od (.box 116 (.cons (.dat Yq2) (.one (.row 113 (.dat ak)))))],bkM]⟩,[⟨[kdB 0],[bkC 0 88 [.is 1 (.any),.od (.box 120 (.one (.row 3 (.dat Yq2)))),.od (.box 116 (.cons (.dat Yq2) (.one (.row 113 (.dat ak)))))],bkU 1]⟩],fun x=>jE x.1 x.2.1 x.2.2⟩
def oN:OkSpec Tryz.prog:=⟨H3,ae func29 G8 (by kernel_rfl) (by kernel_rfl),call29⟩

def mI (xa:Int):Option Bool :=
 some (!decide (xa=xa))
def H0:Hn Tryz.prog := .nil
def Hw:Spec:=⟨162,⟨[kdI 0],[]⟩,[⟨[kdB 0],[]⟩],fun x=>mI x⟩
def zF:OkSpec Tryz.prog:=⟨Hw,ae func162 H0 (by kernel_rfl) (by kernel_rfl),call162⟩

def mK (xa:Int) (xb:Int):Option Bool :=
 (mI xa).bind fun t27=>(cond (t27) ((mI xb).bind fun t42=>some (!t42)) (some (false))).bind fun t38=>some (t38||(decide (xa < xb)))
def IE:Hn Tryz.prog := .cl zF [] (.gj 3 ⟨[kdB 11],[]⟩ [] (.two 7 (.cl zF [] .nil) .nil) (.wt 12 (.gp 3 .nil)))
def Hi:Spec:=⟨130,⟨[kdI 0,kdI 1],[]⟩,[⟨[kdB 0],[]⟩],fun x=>mK x.1 x.2⟩
def GZ:OkSpec Tryz.prog:=⟨Hi,ae func130 IE (by kernel_rfl) (by kernel_rfl),call130⟩

def mi (xa:Int):Option Bool :=
 some (!decide (xa=xa))
def Iv:Hn Tryz.prog := .nil
def Ii:Spec:=⟨148,⟨[kdI 0],[]⟩,[⟨[kdB 0],[]⟩],fun x=>mi x⟩
def zj:OkSpec Tryz.prog:=⟨Ii,ae func148 Iv (by kernel_rfl) (by kernel_rfl),call148⟩
def pU (xa:(List Int)) (xb:Int):bP→Option (bP⊕Int):=fun (i1,i2)=>cond (decide (i1 < i2)) ((aa xa (IntKind.wrap .i64 (Int.fdiv (IntKind.wrap .u64 (IntKind.wrap .i64 (i1 + i2))) (2 ^ (min (Int.toNat 1) (IntKind.bits .u64)))))).bind fun x3=>(mK x3 xb).bind fun t4=>cond (t4) (some (.inl ((IntKind.wrap .i64 ((IntKind.wrap .i64 (Int.fdiv (IntKind.wrap .u64 (IntKind.wrap .i64 (i1 + i2))) (2 ^ (min (Int.toNat 1) (IntKind.bits .u64))))) + 1),i2)))) (some (.inl ((i1,IntKind.wrap .i64 (Int.fdiv (IntKind.wrap .u64 (IntKind.wrap .i64 (i1 + i2))) (2 ^ (min (Int.toNat 1) (IntKind.bits .u64))))))))) (some (.inr (i1)))
def lM (xa:(List Int)) (xb:Int):Option bq :=
 (loop (pU xa xb) ((0,(xa.length:Int)))).bind fun i1=>(cond (decide (i1 < (xa.length:Int))) ((aa xa i1).bind fun x2=>(cond (decide (x2=xb)) (some (true)) ((aa xa i1).bind fun x3=>(mi x3).bind fun t4=>(cond (t4) ((mi xb).bind fun t5=>some (t5)) (some (false))).bind fun t6=>some (t6))).bind fun t7=>some (t7)) (some (false))).bind fun t8=>some ((i1,t8))
def GX:Hn Tryz.prog := .jn [] ⟨[kdI 7],[]⟩ [] (.lp ⟨[kdI 7,kdI 8],[]⟩ (.tw 15 (.cl GZ [] (.tw 27 .nil .nil)) .nil)) (.gj 17 ⟨[kdB 53],[]⟩ [] (.two 35 (.wt 42 (.gj 9 ⟨[kdB 52],[]⟩ [] (.two 42 .nil (.cl zj [] (.wt 48 (.gj 2 ⟨[kdB 51],[]⟩ [] (.two 48 (.cl zj [] .nil) .nil) .nil)))) .nil)) .nil) .nil)
def He:Spec:=⟨104,⟨[(0,.dat (.sl Yq2)),kdI 1],[]⟩,[⟨[(0,.tup [.dat Yq2,.dat .bool])],[]⟩],fun x=>lM x.1 x.2⟩
def Hb:OkSpec Tryz.prog:=⟨He,ae func104 GX (by kernel_rfl) (by kernel_rfl),call104⟩

def bR (xa:aF) (xb:Int):Option Int :=
 cond (xa.isNone) (some (0)) (xa.bind fun y21=>(lM y21 xb).bind fun (i33,t34)=>some (i33))
def Hs:Hn Tryz.prog := .tw 8 .nil (.cl Hb [] .nil)
def G5:Spec:=⟨72,⟨[(0,.dat (.ptr (.one (.sl Yq2)))),kdI 1],[]⟩,[⟨[kdI 0],[]⟩],fun x=>bR x.1 x.2⟩
def cY:OkSpec Tryz.prog:=⟨G5,ae func72 Hs (by kernel_rfl) (by kernel_rfl),call72⟩

def gR (xa:aF):Option Int :=
 cond (xa.isNone) (some (0)) (xa.bind fun y14=>some (y14.length:Int))
def I5:Hn Tryz.prog := .tw 4 .nil .nil
def G4:Spec:=⟨46,⟨[(0,.dat (.ptr (.one (.sl Yq2))))],[]⟩,[⟨[kdI 0],[]⟩],fun x=>gR x⟩
def zm:OkSpec Tryz.prog:=⟨G4,ae func46 I5 (by kernel_rfl) (by kernel_rfl),call46⟩

def bS (xa:aF) (xb:Int):Option bq :=
 (cond (decide (xb < 0)) (some (true)) ((gR xa).bind fun i49=>some (decide (i49≤xb)))).bind fun t45=>cond (t45) (some ((0,false))) (xa.bind fun y54=>(aa y54 xb).bind fun x64=>some ((x64,true)))
def IQ:Hn Tryz.prog := .gj 4 ⟨[kdB 13],[]⟩ [] (.two 8 .nil (.cl zm [] .nil)) (.tw 13 .nil .nil)
def IK:Spec:=⟨71,⟨[(0,.dat (.ptr (.one (.sl Yq2)))),kdI 1],[]⟩,[⟨[(0,.tup [.dat Yq2,.dat .bool])],[]⟩],fun x=>bS x.1 x.2⟩
def dz:OkSpec Tryz.prog:=⟨IK,ae func71 IQ (by kernel_rfl) (by kernel_rfl),call71⟩

def fD (xa:aF) (xb:Int):Option Bool :=
 (bR xa xb).bind fun i19=>(bS xa i19).bind fun (i25,t26)=>some (t26&&(decide (i25=xb)))
def HD:Hn Tryz.prog := .cl cY [] (.cl dz [] (.gp 3 .nil))
def G6:Spec:=⟨44,⟨[(0,.dat (.ptr (.one (.sl Yq2)))),kdI 1],[]⟩,[⟨[kdB 0],[]⟩],fun x=>fD x.1 x.2⟩
def zo:OkSpec Tryz.prog:=⟨G6,ae func44 HD (by kernel_rfl) (by kernel_rfl),call44⟩

def lR (xb:Int) (qa0:(List Int)):Option ((Bool×(List Int))) :=
 (fE xb).bind fun t1=>(cond (!t1) (some (true)) ((fD (some qa0) xb).bind fun t2=>some (t2))).bind fun t3=>cond (t3) (some ((false,qa0))) (((((bR (some qa0) xb).bind fun i4=>(da qa0 i4 ([xb]:List Int)).bind fun l5=>some (l5)).bind fun x6=>((bR (some qa0) xb).bind fun i7=>(da qa0 i7 ([xb]:List Int)).bind fun l8=>some (l8)).bind fun y9=>agr x6 y9 (some x6)).bind fun x10=>(((bR (some qa0) xb).bind fun i11=>((da qa0 i11 ([xb]:List Int)).bind fun l12=>some (l12)).bind fun x13=>((da qa0 i11 ([xb]:List Int)).bind fun l14=>some (l14)).bind fun y15=>agr x13 y15 (some x13)).bind fun x16=>(((bR (some qa0) xb).bind fun i17=>(da qa0 i17 ([xb]:List Int)).bind fun l18=>some (l18)).bind fun x19=>((bR (some qa0) xb).bind fun i20=>(da qa0 i20 ([xb]:List Int)).bind fun l21=>some (l21)).bind fun y22=>agr x19 y22 (some x19)).bind fun y23=>agr x16 y23 (some x16)).bind fun y24=>agr x10 y24 (some x10):Option (List Int)).bind fun l25=>some ((true,l25)))
def HF:Hn Tryz.prog := .cl zB [] (.wt 12 (.gj 3 ⟨[kdB 16],[]⟩ [] (.two 12 .nil (.cl zo [1,0] .nil)) (.tw 16 .nil (.tr (.still [0,1,2,3,5,6,8] (.alt 4 (.alt 7 (.alt 9 (.alt 10 (.still [11,12] (.alt 13 (.leaf []) .done)) .done) .done) (.alt 9 (.alt 7 (.alt 10 (.still [11,12] (.alt 13 (.leaf []) .done)) .done) .done) .done)) (.alt 7 (.alt 4 (.alt 9 (.alt 10 (.still [11,12] (.alt 13 (.leaf []) .done)) .done) .done) (.alt 9 (.alt 4 (.alt 10 (.still [11,12] (.alt 13 (.leaf []) .done)) .done) .done) .done)) (.alt 9 (.alt 4 (.alt 7 (.alt 10 (.still [11,12] (.alt 13 (.leaf []) .done)) .done) .done) (.alt 7 (.alt 4 (.alt 10 (.still [11,12] (.alt 13 (.leaf []) .done)) .done) .done) .done)) .done)))) ⟨[],[bkC 0 120 [.own 3 Yq2]]⟩ [1,0] (.two 0 (.two 0 (.cl cY [1,0] (.cl ix [] .nil)) (.cl cY [1,0] (.cl ix [] .nil))) (.two 0 (.cl cY [1,0] (.two 0 (.cl ix [] .nil) (.cl ix [] .nil))) (.two 0 (.cl cY [1,0] (.cl ix [] .nil)) (.cl cY [1,0] (.cl ix [] .nil))))) .nil))))
def Hc:Spec:=⟨58,⟨[(0,.ptr 0 0),kdI 1],[bkN 120 [.own 3 Yq2]]⟩,[⟨[kdB 0],[bkC 0 120 [.own 3 Yq2]]⟩],fun x=>lR x.1 x.2⟩
def Hd:OkSpec Tryz.prog:=⟨Hc,ae func58 HF (by kernel_rfl) (by kernel_rfl),call58⟩

def fx (qa0:(List Int)):Option (List Int) :=
 some (qa0)
def HR:Hn Tryz.prog := .nil
def HB:Spec:=⟨56,⟨[(0,.ptr 0 0)],[bkN 120 [.own 3 Yq2]]⟩,[⟨[(0,.fn 89 [.ptr 1 0])],[bkC 0 120 [.own 3 Yq2],bkN 85 [.ptr 0 0]]⟩],fun x=>fx x⟩
def pf:OkSpec Tryz.prog:=⟨HB,ae func56 HR (by kernel_rfl) (by kernel_rfl),call56⟩
def Ax (l1:(List Int)):bq→Option (bq⊕Unit):=fun (i2,t3)=>cond (t3) ((fA i2).bind fun t4=>(bR (some l1) (IntKind.wrap .i64 (i2 + 1))).bind fun i5=>(bS (some l1) i5).bind fun (i6,t7)=>some (.inl (i6,t7))) (some (.inr ((()))))
def pV (i1:Int) (l2:(List Int)):(Int×Bool×(List Int))→Option ((Int×Bool×(List Int))⊕(List Int)):=fun (i3,t4,l5)=>cond (t4) ((cN i3 i1 l5).bind fun (t6,l7)=>(bR (some l2) (IntKind.wrap .i64 (i3 + 1))).bind fun i8=>(bS (some l2) i8).bind fun (i9,t10)=>some (.inl (i9,t10,l7))) (some (.inr (l5)))
def jD (qa0:Int) (qa1:aF) (qa2:Tq7):Option (Tq7) :=
 (ew qa0).bind fun o=>match o with | .inl i3=>(qa1).bind fun y4=>(fx y4).bind fun l5=>(bS (some l5) 0).bind fun (i6,t7)=>(loop (Ax l5) (i6,t7)).bind fun ()=>some (none) | .inr (i8,i9,l10)=>(qa1).bind fun y11=>(fx y11).bind fun l12=>(bS (some l12) 0).bind fun (i13,t14)=>(loop (pV i9 l12) (i13,t14,l10)).bind fun l15=>some (some (i9,l15))
def Iw:Hn Tryz.prog := .mix [([0,1,2,3],4),([],5),([6,7,8,9,10],11)] [] [] [0] (.c2 pH [] (.wt 17 (.opb 2 3 (.cl pf [] (.rg ⟨89,_,func89,call89⟩ (.cl dz [17,2] (.jn [] ⟨[],[⟨(some 21),0,[],false,false,none,true⟩]⟩ [21,4] (.lp ⟨[kdI 3,kdB 4],[⟨(some 21),0,[],false,false,none,true⟩]⟩ (.tw 10 (.yl 2 (.cl jg [] (.mix [([0,1,2,3],4),([],5)] [6,7,8,9,10] [] [] (.cl cY [17,2] (.cl dz [17,2] .nil))))) .nil)) .nil)))))) (.wt 17 (.opb 2 3 (.cl pf [] (.rg ⟨89,_,func89,call89⟩ (.cl dz [21,2] (.jn [(9,0)] ⟨[],[⟨(some 25),0,[],false,false,none,true⟩,bkC 9 116 [.is 2 (.any),.own 113 ak],bkU 26]⟩ [25,10,9,4] (.lp ⟨[kdI 3,kdB 4],[⟨(some 25),0,[],false,false,none,true⟩,bkC 9 116 [.is 2 (.any),.own 113 ak],bkU 26]⟩ (.tw 10 (.yl 2 (.cl gA [] (.mix [([0,1,2,3],4),([],5)] [6,7,8,9,10] [] [] (.cl cY [21,2] (.cl dz [21,2] .nil))))) .nil)) .nil)))))))
def HJ:Spec:=⟨54,⟨[(0,.ptr 0 0)],[bkN 88 [.is 1 (.dat Yq2),.od (.box 120 (.one (.row 3 (.dat Yq2)))),.od (.box 116 (.cons (.dat Yq2) (.one (.row 113 (.dat ak)))))],bkM]⟩,[⟨[],[bkC 0 88 [.is 1 (.any),.nilp,.od (.box 116 (.cons (.dat Yq2) (.one (.row 113 (.dat ak)))))],bkU 1]⟩],fun x=>jD x.1 x.2.1 x.2.2⟩
def zu:OkSpec Tryz.prog:=⟨HJ,ae func54 Iw (by kernel_rfl) (by kernel_rfl),call54⟩

def cG (xb:Int) (qa0:Int) (qa1:aF) (qa2:Tq7):Option ((Bool×aF×Tq7)) :=
 (cond (decide (xb < 0)) (some (true)) ((ej (some (qa0,qa1,qa2))).bind fun i3=>some (decide (i3≤xb)))).bind fun t4=>cond (t4) (some ((false,qa1,qa2))) ((dd (some (qa0,qa1,qa2))).bind fun t5=>cond (t5) ((qa2).bind fun y6=>(cN xb y6.1 y6.2).bind fun (t7,l8)=>some ((t7,qa1,some (y6.1,l8)))) ((qa1).bind fun y9=>(lR xb y9).bind fun (t10,l11)=>(gR (some l11)).bind fun i12=>cond (decide (8 < i12)) ((jD qa0 (some l11) qa2).bind fun l13=>some ((t10,none,l13))) (some ((t10,some l11,qa2)))))
def H4:Hn Tryz.prog := .gj 4 ⟨[kdB 13],[]⟩ [] (.two 8 .nil (.cl oS [2,4,0] .nil)) (.tw 13 .nil (.cl iV [2,4,0] (.tw 15 (.wt 20 (.opb 4 5 (.wt 1000010 (.mc 4 0 7 (.cl gA [] .nil))))) (.wt 26 (.opb 2 3 (.cl Hd [] (.cl zm [13,2] (.tw 33 (.cl zu [] .nil) .nil))))))))
def IM:Spec:=⟨30,⟨[(0,.ptr 0 0),kdI 1],[bkN 88 [.is 1 (.dat Yq2),.od (.box 120 (.one (.row 3 (.dat Yq2)))),.od (.box 116 (.cons (.dat Yq2) (.one (.row 113 (.dat ak)))))],bkM]⟩,[⟨[kdB 0],[bkC 0 88 [.is 1 (.any),.od (.box 120 (.one (.row 3 (.dat Yq2)))),.od (.box 116 (.cons (.dat Yq2) (.one (.row 113 (.dat ak)))))],bkU 1]⟩],fun x=>cG x.1 x.2.1 x.2.2.1 x.2.2.2⟩
def eY:OkSpec Tryz.prog:=⟨IM,ae func30 H4 (by kernel_rfl) (by kernel_rfl),call30⟩

def mN (xa:(Option (Int×(List Tq7)))) (xb:Int):Option (Tq7) :=
 (cond (xa.isNone||(decide (xb < 0))) (some (true)) (xa.bind fun y68=>some (decide ((y68.2.length:Int)≤xb)))).bind fun t66=>cond (t66) (some (none)) (xa.bind fun y79=>(aa y79.2 xb).bind fun x89=>some (x89))
def Ha:Hn Tryz.prog := .gp 2 (.wt 11 (.gj 7 ⟨[kdB 19],[]⟩ [] (.two 11 .nil .nil) (.tw 19 .nil .nil)))
def Jb:Spec:=⟨59,⟨[(0,.dat (.ptr (.cons Yq2 (.one (.sl Yq6))))),kdI 1],[]⟩,[⟨[(0,.dat Yq6)],[]⟩],fun x=>mN x.1 x.2⟩
def HO:OkSpec Tryz.prog:=⟨Jb,ae func59 Ha (by kernel_rfl) (by kernel_rfl),call59⟩

def gY (xa:Tq7):Option Unit :=
 some (())
def IC:Hn Tryz.prog := .nil
def Im:Spec:=⟨92,⟨[(0,.is 0 (.dat Yq6))],[bkM]⟩,[⟨[(0,.fn 122 [.ptr 0 0])],[bkN 86 [.is 1 (.any)],bkU 0]⟩],fun x=>gY x⟩
def zn:OkSpec Tryz.prog:=⟨Im,ae func92 IC (by kernel_rfl) (by kernel_rfl),call92⟩
def gN (y1:bA):bP→Option (bP⊕(bP⊕Int)):=fun (i2,i3)=>cond (decide (i3=0)) (cond (decide ((IntKind.wrap .i64 (i2 + 1))=(y1.2.length:Int))) (some (.inr ((.inr ((-1)))))) ((aa y1.2 (IntKind.wrap .i64 (i2 + 1))).bind fun x4=>some (.inl ((IntKind.wrap .i64 (i2 + 1),x4))))) (some (.inr ((.inl (i2,i3)))))
def cH (xa:Tq7) (xb:Int):Option Int :=
 (ef xa (if xb < 0 then 0 else xb)).bind fun t1=>cond (!t1) (some ((-1))) (xa.bind fun y2=>(aa y2.2 (IntKind.wrap .i64 (Int.tdiv (if xb < 0 then 0 else xb) 64))).bind fun x3=>(ge0 (Int.tmod (if xb < 0 then 0 else xb) 64)).bind fun u4=>(ge0 (Int.tmod (if xb < 0 then 0 else xb) 64)).bind fun u5=>(loop (gN y2) ((IntKind.wrap .i64 (Int.tdiv (if xb < 0 then 0 else xb) 64),IntKind.wrap .u64 ((Int.fdiv x3 (2 ^ (min (Int.toNat (Int.tmod (if xb < 0 then 0 else xb) 64)) (IntKind.bits .u64)))) * 2 ^ (min (Int.toNat (Int.tmod (if xb < 0 then 0 else xb) 64)) (IntKind.bits .u64)))))).bind fun o=>match o with | .inr r=>some r | .inl (i6,i7)=>(tzF i7).bind fun i8=>some (IntKind.wrap .i64 ((IntKind.wrap .i64 (i6 * 64)) + i8)))
def H7:Hn Tryz.prog := .ms 0 (.cl pB [] (.tw 12 .nil (.jx [] ⟨[kdI 5,(6,.dat ak)],[]⟩ [] (.lp ⟨[kdI 5,(6,.dat ak)],[]⟩ (.tw 29 (.tw 38 .nil .nil) .nil)) (.cl IB [] .nil))))
def Hz:Spec:=⟨123,⟨[(0,.dat Yq6),kdI 1],[]⟩,[⟨[kdI 0],[]⟩],fun x=>cH x.1 x.2⟩
def oY:OkSpec Tryz.prog:=⟨Hz,ae func123 H7 (by kernel_rfl) (by kernel_rfl),call123⟩
def p9 (xa:Tq7):bA→Option (bA⊕(List Int)):=fun (i1,l2)=>cond (decide (0≤i1)) ((app l2 ([i1]:List Int)).bind fun z3=>(cH xa (IntKind.wrap .i64 (i1 + 1))).bind fun i4=>some (.inl (i4,z3))) (some (.inr (l2)))
def gP (xa:Tq7):Option (List Int) :=
 (gY xa).bind fun _=>(cH xa 0).bind fun i1=>(loop (p9 xa) (i1,[])).bind fun l2=>some (l2)
def Hy:Hn Tryz.prog := .ms 5 (.cl zn [] (.rg ⟨122,_,func122,call122⟩ (.cl oY [] (.jn [] ⟨[],[bkC 0 48 [.own 3 Yq2],⟨(some 5),0,[],false,false,none,true⟩]⟩ [5,0] (.lp ⟨[kdI 3],[bkC 0 48 [.own 3 Yq2],⟨(some 5),0,[],false,false,none,true⟩]⟩ (.tw 7 (.yl 2 (.cl oY [] .nil)) .nil)) .nil))))
def IV:Spec:=⟨60,⟨[(0,.dat Yq6)],[]⟩,[⟨[(0,.own 3 Yq2)],[]⟩],fun x=>gP x⟩
def Ia:OkSpec Tryz.prog:=⟨IV,ae func60 Hy (by kernel_rfl) (by kernel_rfl),call60⟩

def fy (xa:(Option (Int×(List Tq7)))) (xb:Int):Option (List Int) :=
 (mN xa xb).bind fun p26=>(gP p26).bind fun l34=>some (l34)
def Ht:Hn Tryz.prog := .cl HO [] (.cl Ia [] .nil)
def Je:Spec:=⟨31,⟨[(0,.dat (.ptr (.cons Yq2 (.one (.sl Yq6))))),kdI 1],[]⟩,[⟨[(0,.own 3 Yq2)],[]⟩],fun x=>fy x.1 x.2⟩
def oZ:OkSpec Tryz.prog:=⟨Je,ae func31 Ht (by kernel_rfl) (by kernel_rfl),call31⟩
def jU (xa:Tq3):ba→Option (ba⊕(List Int)):=fun (l1,i2)=>cond (decide (i2 < (xa.length:Int))) ((aa xa i2).bind fun x3=>(app l1 ([x3.1]:List Int)).bind fun z4=>some (.inl ((z4,IntKind.wrap .i64 (i2 + 1))))) (some (.inr (l1)))
def fI (xa:Tq3):Option (List Int) :=
 (loop (jU xa) ([],0)).bind fun l1=>(srt l1).bind fun l2=>(fh l2).bind fun l3=>some (l3)
def Hm:Hn Tryz.prog := .jn [] ⟨[(3,.own 3 Yq2)],[]⟩ [0] (.lp ⟨[(3,.own 3 Yq2),kdI 9],[]⟩ (.tw 10 .nil .nil)) (.cl ol [] (.cl nt [] .nil))
def G0:Spec:=⟨32,⟨[(0,.dat Yq9)],[]⟩,[⟨[(0,.own 3 Yq2)],[]⟩],fun x=>fI x⟩
def pa:OkSpec Tryz.prog:=⟨G0,ae func32 Hm (by kernel_rfl) (by kernel_rfl),call32⟩
def pY (qb1:(List Int)):(Bool×Int×(List Int))→Option ((Bool×Int×(List Int))⊕(Bool×(List Int))):=fun (t2,i3,l4)=>cond (decide (i3 < (qb1.length:Int))) ((aa qb1 i3).bind fun x5=>(aa l4 i3).bind fun x6=>cond (!decide ((IntKind.wrap .u64 ((BitVec.ofInt (IntKind.bits .u64) x5 &&& ~~~BitVec.ofInt (IntKind.bits .u64) x6).toNat:Int))=0)) ((aa l4 i3).bind fun x7=>(aa l4 i3).bind fun x8=>(some (l4.set i3.toNat (IntKind.wrap .u64 ((BitVec.ofInt (IntKind.bits .u64) x7 ||| BitVec.ofInt (IntKind.bits .u64) x5).toNat:Int)))).bind fun z9=>some (.inl ((true,IntKind.wrap .i64 (i3 + 1),z9)))) (some (.inl ((t2,IntKind.wrap .i64 (i3 + 1),l4))))) (some (.inr (((t2,l4)))))
def ee (qa0:Int) (qa1:(List Int)) (qb0:Int) (qb1:(List Int)):Option ((Bool×(List Int)×(List Int))) :=
 cond (!decide (qa0=qb0)) (some ((false,qa1,qb1))) ((loop (pY qb1) (false,0,qa1)).bind fun (t2,l3)=>some ((t2,l3,qb1)))
def I2:Hn Tryz.prog := .mix [] [0,1,2,3,4,5,6,7,8,9,10,11,12,13,14,15,16] [] [] (.tw 24 .nil (.jn [] ⟨[kdB 5],[bkC 0 116 [.is 1 (.any),.own 113 ak],bkU 2]⟩ [4,0] (.lp ⟨[kdB 5,kdI 30],[bkC 0 116 [.is 1 (.any),.own 113 ak],bkU 2]⟩ (.tw 31 (.tw 44 .nil .nil) .nil)) .nil))
def HV:Spec:=⟨55,⟨[(0,.ptr 0 0),(1,.ptr 1 0)],[bkN 116 [.is 2 (.dat Yq2),.own 113 ak],bkN 116 [.is 3 (.dat Yq2),.own 113 ak],bkM,bkM]⟩,[⟨[kdB 0],[bkC 0 116 [.is 2 (.any),.own 113 ak],bkC 1 116 [.is 3 (.any),.own 113 ak],bkU 2,bkU 3]⟩],fun x=>ee x.1 x.2.1 x.2.2.1 x.2.2.2⟩
def Iq:OkSpec Tryz.prog:=⟨HV,ae func55 I2 (by kernel_rfl) (by kernel_rfl),call55⟩
end
section
open Go.RowKit _root_.Go.Proofs.Tryz
def jz (qa0:Int) (l1:(List Int)):(Int×Bool×aF×Tq7×Bool)→Option ((Int×Bool×aF×Tq7×Bool)⊕(aF×Tq7×Bool)):=fun (i2,t3,l4,l5,t6)=>cond (t3) ((cG i2 qa0 l4 l5).bind fun (t7,l8,l9)=>cond (t7) ((bR (some l1) (IntKind.wrap .i64 (i2 + 1))).bind fun i10=>(bS (some l1) i10).bind fun (i11,t12)=>some (.inl (i11,t12,l8,l9,true))) ((bR (some l1) (IntKind.wrap .i64 (i2 + 1))).bind fun i13=>(bS (some l1) i13).bind fun (i14,t15)=>some (.inl (i14,t15,l8,l9,t6)))) (some (.inr (((l4,l5,t6)))))
def ed (qa0:Int) (qa1:aF) (qa2:Tq7) (qb0:Int) (qb1:aF) (qb2:Tq7):Option ((Bool×aF×Tq7×aF×Tq7)) :=
 cond (!decide (qa0=qb0)) (some ((false,qa1,qa2,qb1,qb2))) ((dd (some (qb0,qb1,qb2))).bind fun t3=>cond (t3) (((dd (some (qa0,qa1,qa2))).bind fun t4=>cond (!t4) ((jD qa0 qa1 qa2).bind fun l5=>some ((none,l5))) (some ((qa1,qa2))):Option ((aF×Tq7))).bind fun (l6,l7)=>(l7).bind fun y8=>(qb2).bind fun y9=>(ee y8.1 y8.2 y9.1 y9.2).bind fun (t10,l11,l12)=>some ((t10,l6,some (y8.1,l11),qb1,some (y9.1,l12)))) ((qb1).bind fun y13=>(fx y13).bind fun l14=>(bS (some l14) 0).bind fun (i15,t16)=>(loop (jz qa0 l14) (i15,t16,qa1,qa2,false)).bind fun (l17,l18,t19)=>some ((t19,l17,l18,some l14,qb2))))
def Il:Hn Tryz.prog := .mix [] [0,1,2,3,4,5,6,7,8,9,10,11,12,13,14,15,16] [] [] (.tw 23 .nil (.cl iV [9,11,1] (.tw 25 (.sq [] ⟨[],[bkC 0 88 [.is 1 (.any),.od (.box 120 (.one (.row 3 (.dat Yq2)))),.od (.box 116 (.cons (.dat Yq2) (.one (.row 113 (.dat ak)))))],bkU 2]⟩ [0,4,6] (.cl iV [4,6,0] (.tw 28 (.cl zu [] .nil) .nil)) (.mix [] [0,1,2,3,4,5,6,7] [8,9] [] (.wt 38 (.opb 18 19 (.wt 38 (.opb 11 12 (.wt 1000027 (.mc 18 0 21 (.mc 11 0 24 (.cl Iq [] .nil)))))))))) (.wt 43 (.opb 9 10 (.cl pf [] (.rg ⟨89,_,func89,call89⟩ (.cl dz [26,9] (.jn [] ⟨[],[bkC 0 88 [.is 3 (.any),.od (.box 120 (.one (.row 3 (.dat Yq2)))),.od (.box 116 (.cons (.dat Yq2) (.one (.row 113 (.dat ak)))))],bkC 16 4 [.dat .bool],⟨(some 30),0,[],false,false,none,true⟩,bkU 2]⟩ [30,16,0,4,6] (.lp ⟨[kdI 3,kdB 4],[bkC 0 88 [.is 3 (.any),.od (.box 120 (.one (.row 3 (.dat Yq2)))),.od (.box 116 (.cons (.dat Yq2) (.one (.row 113 (.dat ak)))))],bkC 16 4 [.dat .bool],⟨(some 30),0,[],false,false,none,true⟩,bkU 2]⟩ (.tw 10 (.yl 2 (.cl eY [] (.tw 48 (.mix [([0,1,2,3],4),([],5)] [6,7,8,9,10] [] [] (.cl cY [26,9] (.cl dz [26,9] .nil))) (.mix [([0,1,2,3],4),([],5)] [6,7,8,9,10] [] [] (.cl cY [26,9] (.cl dz [26,9] .nil)))))) .nil)) .nil)))))))))
def Hj:Spec:=⟨29,⟨[(0,.ptr 0 0),(1,.ptr 1 0)],[bkN 88 [.is 2 (.dat Yq2),.od (.box 120 (.one (.row 3 (.dat Yq2)))),.od (.box 116 (.cons (.dat Yq2) (.one (.row 113 (.dat ak)))))],bkN 88 [.is 3 (.dat Yq2),.od (.box 120 (.one (.row 3 (.dat Yq2)))),.od (.box 116 (.cons (.dat Yq2) (.one (.row 113 (.dat ak)))))],bkM,bkM]⟩,[⟨[kdB 0],[bkC 0 88 [.is 2 (.any),.od (.box 120 (.one (.row 3 (.dat Yq2)))),.od (.box 116 (.cons (.dat Yq2) (.one (.row 113 (.dat ak)))))],bkC 1 88 [.is 3 (.any),.od (.box 120 (.one (.row 3 (.dat Yq2)))),.od (.box 116 (.cons (.dat Yq2) (.one (.row 113 (.dat ak)))))],bkU 2,bkU 3]⟩],fun x=>ed x.1 x.2.1 x.2.2.1 x.2.2.2.1 x.2.2.2.2.1 x.2.2.2.2.2⟩
def pm:OkSpec Tryz.prog:=⟨Hj,ae func29 Il (by kernel_rfl) (by kernel_rfl),call29⟩
def pW (xc:Int) (qa0:Int):Tq2→Option (Tq2⊕(aF×Tq7)):=fun (i1,l2,l3)=>(ej (some (qa0,l2,l3))).bind fun i4=>cond (decide (i1 < (if i4 < xc then i4 else xc))) ((cG i1 qa0 l2 l3).bind fun (t5,l6,l7)=>some (.inl ((IntKind.wrap .i64 (i1 + 1),l6,l7)))) (some (.inr (((l2,l3)))))
def lO (xb:Int) (xc:Int) (qa0:Int) (qa1:aF) (qa2:Tq7):Option ((aF×Tq7)) :=
 (loop (pW xc qa0) (if xb < 0 then 0 else xb,qa1,qa2)).bind fun (l3,l4)=>some ((l3,l4))
def IP:Hn Tryz.prog := .jn [] ⟨[],[bkC 0 88 [.is 1 (.any),.od (.box 120 (.one (.row 3 (.dat Yq2)))),.od (.box 116 (.cons (.dat Yq2) (.one (.row 113 (.dat ak)))))],bkU 1]⟩ [0,2,4] (.lp ⟨[kdI 6],[bkC 0 88 [.is 1 (.any),.od (.box 120 (.one (.row 3 (.dat Yq2)))),.od (.box 116 (.cons (.dat Yq2) (.one (.row 113 (.dat ak)))))],bkU 1]⟩ (.cl oS [7,9,0] (.tw 14 (.cl eY [] .nil) .nil))) .nil
def If:Spec:=⟨28,⟨[(0,.ptr 0 0),kdI 1,kdI 2],[bkN 88 [.is 1 (.dat Yq2),.od (.box 120 (.one (.row 3 (.dat Yq2)))),.od (.box 116 (.cons (.dat Yq2) (.one (.row 113 (.dat ak)))))],bkM]⟩,[⟨[],[bkC 0 88 [.is 1 (.any),.od (.box 120 (.one (.row 3 (.dat Yq2)))),.od (.box 116 (.cons (.dat Yq2) (.one (.row 113 (.dat ak)))))],bkU 1]⟩],fun x=>lO x.1 x.2.1 x.2.2.1 x.2.2.2.1 x.2.2.2.2⟩
def II:OkSpec Tryz.prog:=⟨If,ae func28 IP (by kernel_rfl) (by kernel_rfl),call28⟩
def AP (xa:Tq1) (i1:Int) (z2:List (Option Tq2)):(Int×aJ)→Option ((Int×aJ)⊕aJ):=fun (i3,l4)=>cond (decide (i3 < (z2.length:Int))) ((aa l4 i3).bind fun x5=>(en (IntKind.wrap .i64 (i1 + xa.1))).bind fun o=>match o with | .inl _=>(aa l4 i3).bind fun _=>(aE i3 i3).bind fun _=>cond (decide (i3 < xa.1)) ((aa (l4.set i3.toNat none) i3).bind fun x6=>(aa (l4.set i3.toNat none) i3).bind fun _=>(aE i3 i3).bind fun _=>(x6).bind fun y7=>(jE y7.1 y7.2.1 y7.2.2).bind fun (t8,l9,l10)=>(aa ((l4.set i3.toNat none).set i3.toNat (some (y7.1,l9,l10))) i3).bind fun x11=>(aa ((l4.set i3.toNat none).set i3.toNat (some (y7.1,l9,l10))) i3).bind fun _=>(aE i3 i3).bind fun _=>(x11).bind fun y12=>(cG (IntKind.wrap .i64 (i1 + i3)) y12.1 y12.2.1 y12.2.2).bind fun (t13,l14,l15)=>some (.inl ((IntKind.wrap .i64 (i3 + 1),((l4.set i3.toNat none).set i3.toNat (some (y7.1,l9,l10))).set i3.toNat (some (y12.1,l14,l15)))))) (some (.inl ((IntKind.wrap .i64 (i3 + 1),l4.set i3.toNat none)))) | .inr (i16,l17)=>(aa l4 i3).bind fun _=>(aE i3 i3).bind fun _=>cond (decide (i3 < xa.1)) ((aa (l4.set i3.toNat (some (i16,l17,none))) i3).bind fun x18=>(aa (l4.set i3.toNat (some (i16,l17,none))) i3).bind fun _=>(aE i3 i3).bind fun _=>(x18).bind fun y19=>(jE y19.1 y19.2.1 y19.2.2).bind fun (t20,l21,l22)=>(aa ((l4.set i3.toNat (some (i16,l17,none))).set i3.toNat (some (y19.1,l21,l22))) i3).bind fun x23=>(aa ((l4.set i3.toNat (some (i16,l17,none))).set i3.toNat (some (y19.1,l21,l22))) i3).bind fun _=>(aE i3 i3).bind fun _=>(x23).bind fun y24=>(cG (IntKind.wrap .i64 (i1 + i3)) y24.1 y24.2.1 y24.2.2).bind fun (t25,l26,l27)=>some (.inl ((IntKind.wrap .i64 (i3 + 1),((l4.set i3.toNat (some (i16,l17,none))).set i3.toNat (some (y19.1,l21,l22))).set i3.toNat (some (y24.1,l26,l27)))))) (some (.inl ((IntKind.wrap .i64 (i3 + 1),l4.set i3.toNat (some (i16,l17,none))))))) (some (.inr (l4)))
def AS (l1:(List Int)):Int→Option (Int⊕Unit):=fun i2=>cond (decide (i2 < (l1.length:Int))) ((aa l1 i2).bind fun x3=>(me x3).bind fun t4=>some (.inl (IntKind.wrap .i64 (i2 + 1)))) (some (.inr ((()))))
def AW (l1:(List Int)):(Int×aJ)→Option ((Int×aJ)⊕aJ):=fun (i2,l3)=>cond (decide (i2 < (l1.length:Int))) ((aa l1 i2).bind fun x4=>(aa l3 x4).bind fun x5=>(aa l3 x4).bind fun _=>(aE x4 x4).bind fun _=>(x5).bind fun y6=>(jE y6.1 y6.2.1 y6.2.2).bind fun (t7,l8,l9)=>some (.inl ((IntKind.wrap .i64 (i2 + 1),l3.set x4.toNat (some (y6.1,l8,l9)))))) (some (.inr (l3)))
def AQ (i1:Int) (l2:(List Int)):Tq2→Option (Tq2⊕(aF×Tq7)):=fun (i3,l4,l5)=>cond (decide (i3 < (l2.length:Int))) ((aa l2 i3).bind fun x6=>(cG x6 i1 l4 l5).bind fun (t7,l8,l9)=>some (.inl ((IntKind.wrap .i64 (i3 + 1),l8,l9)))) (some (.inr (((l4,l5)))))
def AU (i1:Int) (l2:(List Int)):(Int×aJ×aF×Tq7)→Option ((Int×aJ×aF×Tq7)⊕aJ):=fun (i3,l4,l5,l6)=>cond (decide (i3 < (l2.length:Int))) ((aa l2 i3).bind fun x7=>(aa l4 x7).bind fun x8=>(aa l4 x7).bind fun _=>(aE x7 x7).bind fun _=>(x8).bind fun y9=>(ed y9.1 y9.2.1 y9.2.2 i1 l5 l6).bind fun (t10,l11,l12,l13,l14)=>some (.inl ((IntKind.wrap .i64 (i3 + 1),l4.set x7.toNat (some (y9.1,l11,l12)),l13,l14)))) (some (.inr (l4)))
def AV (xa:Tq1) (p1:(Option (Int×(List Tq7)))) (i2:Int):(Int×aJ)→Option ((Int×aJ)⊕aJ):=fun (i3,l4)=>cond (decide (i3 < (xa.2.2.2.1.length:Int))) ((aa xa.2.2.2.1 i3).bind fun x5=>(en (IntKind.wrap .i64 (i2 + xa.1))).bind fun o=>match o with | .inl _=>(fy p1 i3).bind fun l6=>(loop (AS l6) 0).bind fun ()=>(fI x5).bind fun l7=>(loop (AW l7) (0,l4)).bind fun l8=>some (.inl ((IntKind.wrap .i64 (i3 + 1),l8))) | .inr (i9,l10)=>(fy p1 i3).bind fun l11=>(loop (AQ i9 l11) (0,l10,none)).bind fun (l12,l13)=>(fI x5).bind fun l14=>(loop (AU i9 l14) (0,l4,l12,l13)).bind fun l15=>some (.inl ((IntKind.wrap .i64 (i3 + 1),l15)))) (some (.inr (l4)))
def gX (xa:Tq1) (i1:Int) (i2:Int) (z3:List (Option Tq2)):(Int×aF×Tq7×aJ)→Option ((Int×aF×Tq7×aJ)⊕aJ):=fun (i4,l5,l6,l7)=>cond (decide (i4 < (z3.length:Int))) ((aa l7 i4).bind fun x8=>(en (IntKind.wrap .i64 (i1 + xa.1))).bind fun o=>match o with | .inl _=>(aa l7 i4).bind fun _=>(aE i4 i4).bind fun _=>cond (decide (i4 < xa.1)) ((aa (l7.set i4.toNat none) i4).bind fun x9=>(aa (l7.set i4.toNat none) i4).bind fun _=>(aE i4 i4).bind fun _=>(x9).bind fun y10=>(ed y10.1 y10.2.1 y10.2.2 i2 l5 l6).bind fun (t11,l12,l13,l14,l15)=>(aa ((l7.set i4.toNat none).set i4.toNat (some (y10.1,l12,l13))) i4).bind fun x16=>(aa ((l7.set i4.toNat none).set i4.toNat (some (y10.1,l12,l13))) i4).bind fun _=>(aE i4 i4).bind fun _=>(x16).bind fun y17=>(cG (IntKind.wrap .i64 (i1 + i4)) y17.1 y17.2.1 y17.2.2).bind fun (t18,l19,l20)=>some (.inl ((IntKind.wrap .i64 (i4 + 1),l14,l15,((l7.set i4.toNat none).set i4.toNat (some (y10.1,l12,l13))).set i4.toNat (some (y17.1,l19,l20)))))) (some (.inl ((IntKind.wrap .i64 (i4 + 1),l5,l6,l7.set i4.toNat none)))) | .inr (i21,l22)=>(aa l7 i4).bind fun _=>(aE i4 i4).bind fun _=>cond (decide (i4 < xa.1)) ((aa (l7.set i4.toNat (some (i21,l22,none))) i4).bind fun x23=>(aa (l7.set i4.toNat (some (i21,l22,none))) i4).bind fun _=>(aE i4 i4).bind fun _=>(x23).bind fun y24=>(ed y24.1 y24.2.1 y24.2.2 i2 l5 l6).bind fun (t25,l26,l27,l28,l29)=>(aa ((l7.set i4.toNat (some (i21,l22,none))).set i4.toNat (some (y24.1,l26,l27))) i4).bind fun x30=>(aa ((l7.set i4.toNat (some (i21,l22,none))).set i4.toNat (some (y24.1,l26,l27))) i4).bind fun _=>(aE i4 i4).bind fun _=>(x30).bind fun y31=>(cG (IntKind.wrap .i64 (i1 + i4)) y31.1 y31.2.1 y31.2.2).bind fun (t32,l33,l34)=>some (.inl ((IntKind.wrap .i64 (i4 + 1),l28,l29,((l7.set i4.toNat (some (i21,l22,none))).set i4.toNat (some (y24.1,l26,l27))).set i4.toNat (some (y31.1,l33,l34)))))) (some (.inl ((IntKind.wrap .i64 (i4 + 1),l5,l6,l7.set i4.toNat (some (i21,l22,none))))))) (some (.inr (l7)))
def AX (l1:(List Int)):Int→Option (Int⊕Unit):=fun i2=>cond (decide (i2 < (l1.length:Int))) ((aa l1 i2).bind fun x3=>(me x3).bind fun t4=>some (.inl (IntKind.wrap .i64 (i2 + 1)))) (some (.inr ((()))))
def AT (l1:(List Int)):(Int×aJ)→Option ((Int×aJ)⊕aJ):=fun (i2,l3)=>cond (decide (i2 < (l1.length:Int))) ((aa l1 i2).bind fun x4=>(aa l3 x4).bind fun x5=>(aa l3 x4).bind fun _=>(aE x4 x4).bind fun _=>(x5).bind fun y6=>(jE y6.1 y6.2.1 y6.2.2).bind fun (t7,l8,l9)=>some (.inl ((IntKind.wrap .i64 (i2 + 1),l3.set x4.toNat (some (y6.1,l8,l9)))))) (some (.inr (l3)))
def jV (i1:Int) (l2:(List Int)):Tq2→Option (Tq2⊕(aF×Tq7)):=fun (i3,l4,l5)=>cond (decide (i3 < (l2.length:Int))) ((aa l2 i3).bind fun x6=>(cG x6 i1 l4 l5).bind fun (t7,l8,l9)=>some (.inl ((IntKind.wrap .i64 (i3 + 1),l8,l9)))) (some (.inr (((l4,l5)))))
def jX (i1:Int) (l2:(List Int)):(Int×aJ×aF×Tq7)→Option ((Int×aJ×aF×Tq7)⊕aJ):=fun (i3,l4,l5,l6)=>cond (decide (i3 < (l2.length:Int))) ((aa l2 i3).bind fun x7=>(aa l4 x7).bind fun x8=>(aa l4 x7).bind fun _=>(aE x7 x7).bind fun _=>(x8).bind fun y9=>(ed y9.1 y9.2.1 y9.2.2 i1 l5 l6).bind fun (t10,l11,l12,l13,l14)=>some (.inl ((IntKind.wrap .i64 (i3 + 1),l4.set x7.toNat (some (y9.1,l11,l12)),l13,l14)))) (some (.inr (l4)))
def jS (xa:Tq1) (p1:(Option (Int×(List Tq7)))) (i2:Int):(Int×aJ)→Option ((Int×aJ)⊕aJ):=fun (i3,l4)=>cond (decide (i3 < (xa.2.2.2.1.length:Int))) ((aa xa.2.2.2.1 i3).bind fun x5=>(en (IntKind.wrap .i64 (i2 + xa.1))).bind fun o=>match o with | .inl _=>(fy p1 i3).bind fun l6=>(loop (AX l6) 0).bind fun ()=>(fI x5).bind fun l7=>(loop (AT l7) (0,l4)).bind fun l8=>some (.inl ((IntKind.wrap .i64 (i3 + 1),l8))) | .inr (i9,l10)=>(fy p1 i3).bind fun l11=>(loop (jV i9 l11) (0,l10,none)).bind fun (l12,l13)=>(fI x5).bind fun l14=>(loop (jX i9 l14) (0,l4,l12,l13)).bind fun l15=>some (.inl ((IntKind.wrap .i64 (i3 + 1),l15)))) (some (.inr (l4)))
def de (xa:Tq1):Option (aJ) :=
 (kh xa).bind fun p1=>(qm p1).bind fun i2=>cond (decide (i2=0)) (some ([])) ((bf 2 xa.2.1).bind fun _=>(en (IntKind.wrap .i64 (i2 + xa.1))).bind fun o=>match o with | .inl _=>(uF 0 i2).bind fun _=>(mk xa.2.1 xa.2.1 none:Option aJ).bind fun z3=>(loop (AP xa i2 z3) (0,z3)).bind fun l4=>(loop (AV xa p1 i2) (0,l4)).bind fun l5=>some (l5) | .inr (i6,l7)=>(lO 0 i2 i6 l7 none).bind fun (l8,l9)=>(mk xa.2.1 xa.2.1 none:Option aJ).bind fun z10=>(loop (gX xa i2 i6 z10) (0,l8,l9,z10)).bind fun l11=>(loop (jS xa p1 i2) (0,l11)).bind fun l12=>some (l12))
def HG:Hn Tryz.prog := .cl HY [] (.cl HI [] (.tw 24 .nil (.cl oQ3 [] (.c2 lj [] (.cl Iu [] (.ot (.box 88 (.cons (.dat Yq2) (.cons (.box 120 (.one (.row 3 (.dat Yq2)))) (.one (.box 116 (.cons (.dat Yq2) (.one (.row 113 (.dat ak))))))))) (.jn [] ⟨[],[bkO 2 (.row 50 (.box 88 (.cons (.dat Yq2) (.cons (.box 120 (.one (.row 3 (.dat Yq2)))) (.one (.box 116 (.cons (.dat Yq2) (.one (.row 113 (.dat ak))))))))))]⟩ [2] (.lp ⟨[kdI 43],[bkO 2 (.row 50 (.box 88 (.cons (.dat Yq2) (.cons (.box 120 (.one (.row 3 (.dat Yq2)))) (.one (.box 116 (.cons (.dat Yq2) (.one (.row 113 (.dat ak))))))))))]⟩ (.tw 44 (.opn 2 47 (.c2 lj [] (.cls 2 7 (.tw 54 (.opn 2 56 (.wt 59 (.opb 10 8 (.wt 1000014 (.mc 10 0 11 (.cl oN [] (.cls 2 9 (.opn 2 62 (.wt 67 (.opb 27 25 (.wt 1000031 (.mc 27 0 28 (.cl eY [] (.cls 2 26 .nil)))))))))))))) .nil)) (.cls 2 11 (.tw 54 (.opn 2 56 (.wt 59 (.opb 14 12 (.wt 1000018 (.mc 14 0 15 (.cl oN [] (.cls 2 13 (.opn 2 62 (.wt 67 (.opb 31 29 (.wt 1000035 (.mc 31 0 32 (.cl eY [] (.cls 2 30 .nil)))))))))))))) .nil)))) .nil)) (.jn [] ⟨[],[bkO 2 (.row 50 (.box 88 (.cons (.dat Yq2) (.cons (.box 120 (.one (.row 3 (.dat Yq2)))) (.one (.box 116 (.cons (.dat Yq2) (.one (.row 113 (.dat ak))))))))))]⟩ [0,2] (.lp ⟨[kdI 73],[bkO 2 (.row 50 (.box 88 (.cons (.dat Yq2) (.cons (.box 120 (.one (.row 3 (.dat Yq2)))) (.one (.box 116 (.cons (.dat Yq2) (.one (.row 113 (.dat ak))))))))))]⟩ (.tw 74 (.c2 lj [] (.cl oZ [] (.jn [] ⟨[],[]⟩ [] (.lp ⟨[kdI 84],[]⟩ (.tw 85 (.cl tJ [] .nil) .nil)) (.cl pa [] (.jn [] ⟨[],[bkO 2 (.row 50 (.box 88 (.cons (.dat Yq2) (.cons (.box 120 (.one (.row 3 (.dat Yq2)))) (.one (.box 116 (.cons (.dat Yq2) (.one (.row 113 (.dat ak))))))))))]⟩ [2,6,9] (.lp ⟨[kdI 95],[bkO 2 (.row 50 (.box 88 (.cons (.dat Yq2) (.cons (.box 120 (.one (.row 3 (.dat Yq2)))) (.one (.box 116 (.cons (.dat Yq2) (.one (.row 113 (.dat ak))))))))))]⟩ (.tw 96 (.opn 2 100 (.wt 103 (.opb 15 13 (.wt 1000019 (.mc 15 0 16 (.cl oN [] (.cls 2 14 .nil))))))) .nil)) .nil)))) (.cl oZ [] (.jn [(9,0)] ⟨[],[bkC 9 88 [.is 1 (.any),.od (.box 120 (.one (.row 3 (.dat Yq2)))),.od (.box 116 (.cons (.dat Yq2) (.one (.row 113 (.dat ak)))))],bkU 15]⟩ [9,10] (.lp ⟨[kdI 84],[bkC 9 88 [.is 1 (.any),.od (.box 120 (.one (.row 3 (.dat Yq2)))),.od (.box 116 (.cons (.dat Yq2) (.one (.row 113 (.dat ak)))))],bkU 15]⟩ (.tw 85 (.cl eY [] .nil) .nil)) (.cl pa [] (.jn [] ⟨[],[bkO 2 (.row 50 (.box 88 (.cons (.dat Yq2) (.cons (.box 120 (.one (.row 3 (.dat Yq2)))) (.one (.box 116 (.cons (.dat Yq2) (.one (.row 113 (.dat ak))))))))))]⟩ [2,6,9,16,18,13] (.lp ⟨[kdI 95],[bkO 2 (.row 50 (.box 88 (.cons (.dat Yq2) (.cons (.box 120 (.one (.row 3 (.dat Yq2)))) (.one (.box 116 (.cons (.dat Yq2) (.one (.row 113 (.dat ak)))))))))),bkC 9 88 [.is 2 (.any),.od (.box 120 (.one (.row 3 (.dat Yq2)))),.od (.box 116 (.cons (.dat Yq2) (.one (.row 113 (.dat ak)))))],bkU 15]⟩ (.tw 96 (.opn 2 100 (.wt 103 (.opb 30 23 (.wt 1000034 (.mc 30 0 31 (.cl pm [] (.cls 2 29 .nil))))))) .nil)) .nil))))) .nil)) .nil)))) (.mc 2 0 5 (.cl II [] (.ot (.box 88 (.cons (.dat Yq2) (.cons (.box 120 (.one (.row 3 (.dat Yq2)))) (.one (.box 116 (.cons (.dat Yq2) (.one (.row 113 (.dat ak))))))))) (.jn [] ⟨[],[bkO 17 (.row 50 (.box 88 (.cons (.dat Yq2) (.cons (.box 120 (.one (.row 3 (.dat Yq2)))) (.one (.box 116 (.cons (.dat Yq2) (.one (.row 113 (.dat ak))))))))))]⟩ [17,2,12,14] (.lp ⟨[kdI 43],[bkC 2 88 [.is 2 (.any),.od (.box 120 (.one (.row 3 (.dat Yq2)))),.od (.box 116 (.cons (.dat Yq2) (.one (.row 113 (.dat ak)))))],bkO 17 (.row 50 (.box 88 (.cons (.dat Yq2) (.cons (.box 120 (.one (.row 3 (.dat Yq2)))) (.one (.box 116 (.cons (.dat Yq2) (.one (.row 113 (.dat ak)))))))))),bkU 6]⟩ (.tw 44 (.opn 17 47 (.c2 lj [] (.cls 17 27 (.tw 54 (.opn 17 56 (.wt 59 (.opb 30 28 (.wt 1000034 (.mc 30 0 31 (.cl pm [] (.cls 17 29 (.opn 17 62 (.wt 67 (.opb 57 55 (.wt 1000061 (.mc 57 0 58 (.cl eY [] (.cls 17 56 .nil)))))))))))))) .nil)) (.cls 17 31 (.tw 54 (.opn 17 56 (.wt 59 (.opb 34 32 (.wt 1000038 (.mc 34 0 35 (.cl pm [] (.cls 17 33 (.opn 17 62 (.wt 67 (.opb 61 59 (.wt 1000065 (.mc 61 0 62 (.cl eY [] (.cls 17 60 .nil)))))))))))))) .nil)))) .nil)) (.jn [] ⟨[],[bkO 17 (.row 50 (.box 88 (.cons (.dat Yq2) (.cons (.box 120 (.one (.row 3 (.dat Yq2)))) (.one (.box 116 (.cons (.dat Yq2) (.one (.row 113 (.dat ak))))))))))]⟩ [0,17] (.lp ⟨[kdI 73],[bkO 17 (.row 50 (.box 88 (.cons (.dat Yq2) (.cons (.box 120 (.one (.row 3 (.dat Yq2)))) (.one (.box 116 (.cons (.dat Yq2) (.one (.row 113 (.dat ak))))))))))]⟩ (.tw 74 (.c2 lj [] (.cl oZ [] (.jn [] ⟨[],[]⟩ [] (.lp ⟨[kdI 84],[]⟩ (.tw 85 (.cl tJ [] .nil) .nil)) (.cl pa [] (.jn [] ⟨[],[bkO 17 (.row 50 (.box 88 (.cons (.dat Yq2) (.cons (.box 120 (.one (.row 3 (.dat Yq2)))) (.one (.box 116 (.cons (.dat Yq2) (.one (.row 113 (.dat ak))))))))))]⟩ [17,21,24] (.lp ⟨[kdI 95],[bkO 17 (.row 50 (.box 88 (.cons (.dat Yq2) (.cons (.box 120 (.one (.row 3 (.dat Yq2)))) (.one (.box 116 (.cons (.dat Yq2) (.one (.row 113 (.dat ak))))))))))]⟩ (.tw 96 (.opn 17 100 (.wt 103 (.opb 30 28 (.wt 1000034 (.mc 30 0 31 (.cl oN [] (.cls 17 29 .nil))))))) .nil)) .nil)))) (.cl oZ [] (.jn [(24,0)] ⟨[],[bkC 24 88 [.is 1 (.any),.od (.box 120 (.one (.row 3 (.dat Yq2)))),.od (.box 116 (.cons (.dat Yq2) (.one (.row 113 (.dat ak)))))],bkU 30]⟩ [24,25] (.lp ⟨[kdI 84],[bkC 24 88 [.is 1 (.any),.od (.box 120 (.one (.row 3 (.dat Yq2)))),.od (.box 116 (.cons (.dat Yq2) (.one (.row 113 (.dat ak)))))],bkU 30]⟩ (.tw 85 (.cl eY [] .nil) .nil)) (.cl pa [] (.jn [] ⟨[],[bkO 17 (.row 50 (.box 88 (.cons (.dat Yq2) (.cons (.box 120 (.one (.row 3 (.dat Yq2)))) (.one (.box 116 (.cons (.dat Yq2) (.one (.row 113 (.dat ak))))))))))]⟩ [17,21,24,31,33,28] (.lp ⟨[kdI 95],[bkO 17 (.row 50 (.box 88 (.cons (.dat Yq2) (.cons (.box 120 (.one (.row 3 (.dat Yq2)))) (.one (.box 116 (.cons (.dat Yq2) (.one (.row 113 (.dat ak)))))))))),bkC 24 88 [.is 2 (.any),.od (.box 120 (.one (.row 3 (.dat Yq2)))),.od (.box 116 (.cons (.dat Yq2) (.one (.row 113 (.dat ak)))))],bkU 30]⟩ (.tw 96 (.opn 17 100 (.wt 103 (.opb 45 38 (.wt 1000049 (.mc 45 0 46 (.cl pm [] (.cls 17 44 .nil))))))) .nil)) .nil))))) .nil)) .nil)))))))))
def Hx:Spec:=⟨8,⟨[(0,.dat Yq1),(1,.nilp)],[]⟩,[⟨[(0,.od (.row 50 (.box 88 (.cons (.dat Yq2) (.cons (.box 120 (.one (.row 3 (.dat Yq2)))) (.one (.box 116 (.cons (.dat Yq2) (.one (.row 113 (.dat ak)))))))))))],[]⟩],fun x=>de x⟩
def tS:OkSpec Tryz.prog:=⟨Hx,ae func8 HG (by kernel_rfl) (by kernel_rfl),call8⟩

def qk (xa:(Option Tq2)):Option Unit :=
 some (())
def HW:Hn Tryz.prog := .nil
def IZ:Spec:=⟨41,⟨[(0,.is 0 (.dat jj))],[bkM]⟩,[⟨[(0,.fn 68 [.ptr 0 0])],[bkN 50 [.is 1 (.any)],bkU 0]⟩],fun x=>qk x⟩
def Iz:OkSpec Tryz.prog:=⟨IZ,ae func41 HW (by kernel_rfl) (by kernel_rfl),call41⟩

def qh (xa:aF):Option Unit :=
 some (())
def HU:Hn Tryz.prog := .nil
def Ij:Spec:=⟨56,⟨[(0,.is 0 (.dat (.ptr (.one (.sl Yq2)))))],[bkM]⟩,[⟨[(0,.fn 89 [.ptr 0 0])],[bkN 85 [.is 1 (.any)],bkU 0]⟩],fun x=>qh x⟩
def IX:OkSpec Tryz.prog:=⟨Ij,ae func56 HU (by kernel_rfl) (by kernel_rfl),call56⟩

def qg (xa:(Option Tq2)):Option ((Tq7⊕aF)) :=
 (dd xa).bind fun t1=>cond (t1) (xa.bind fun y2=>(gY y2.2.2).bind fun _=>some (.inl y2.2.2)) (cond (xa.isNone) ((ii ([])).bind fun l3=>(fx l3).bind fun l4=>some (.inr (some l4))) (xa.bind fun y5=>(qh y5.2.1).bind fun _=>some (.inr y5.2.1)))
def Io:Hn Tryz.prog := .cl iV [] (.tw 4 (.ms 8 (.cl zn [] .nil)) (.tw 11 (.cl zw [] (.cl pf [] (.per 8 9 (.perb 0 10 (.one (.sl Yq2)) (.pl .nil))))) (.ms 17 (.cl IX [] (.pl .nil)))))
def Ix:Spec:=⟨69,⟨[(0,.dat jj)],[]⟩,[⟨[(0,.fn 122 [.ptr 0 0])],[bkN 86 [.dat Yq6]]⟩,⟨[(0,.fn 89 [.ptr 0 0])],[bkN 85 [.dat (.ptr (.one (.sl Yq2)))]]⟩],fun x=>qg x⟩
def HH:OkSpec Tryz.prog:=⟨Ix,ae func69 Io (by kernel_rfl) (by kernel_rfl),call69⟩
def lY (p1:Tq7):bA→Option (bA⊕(List Int)):=fun (i2,l3)=>cond (decide (0≤i2)) ((app l3 ([i2]:List Int)).bind fun z4=>(cH p1 (IntKind.wrap .i64 (i2 + 1))).bind fun i5=>some (.inl (i5,z4))) (some (.inr (l3)))
def jJ (p1:aF):(Int×Bool×(List Int))→Option ((Int×Bool×(List Int))⊕(List Int)):=fun (i2,t3,l4)=>cond (t3) ((app l4 ([i2]:List Int)).bind fun z5=>(bR p1 (IntKind.wrap .i64 (i2 + 1))).bind fun i6=>(bS p1 i6).bind fun (i7,t8)=>some (.inl (i7,t8,z5))) (some (.inr (l4)))
def gT (xa:(Option Tq2)):Option (List Int) :=
 (qk xa).bind fun _=>(qg xa).bind fun o=>match o with | .inl p1=>(cH p1 0).bind fun i2=>(loop (lY p1) (i2,[])).bind fun l3=>some (l3) | .inr p4=>(bS p4 0).bind fun (i5,t6)=>(loop (jJ p4) (i5,t6,[])).bind fun l7=>some (l7)
def Id:Hn Tryz.prog := .ms 5 (.cl Iz [] (.rg ⟨68,_,func68,call68⟩ (.c2 HH [] (.rg ⟨122,_,func122,call122⟩ (.cl oY [] (.jn [] ⟨[],[bkC 0 48 [.own 3 Yq2],⟨(some 5),0,[],false,false,none,true⟩,⟨(some 10),0,[],false,false,none,true⟩]⟩ [10,5,0] (.lp ⟨[kdI 3],[bkC 0 48 [.own 3 Yq2],⟨(some 5),0,[],false,false,none,true⟩,⟨(some 10),0,[],false,false,none,true⟩]⟩ (.tw 7 (.yl 2 (.pl (.yl 2 (.cl oY [] .nil)))) .nil)) .nil))) (.rg ⟨89,_,func89,call89⟩ (.cl dz [] (.jn [] ⟨[],[bkC 0 48 [.own 3 Yq2],⟨(some 5),0,[],false,false,none,true⟩,⟨(some 10),0,[],false,false,none,true⟩]⟩ [10,5,0] (.lp ⟨[kdI 3,kdB 4],[bkC 0 48 [.own 3 Yq2],⟨(some 5),0,[],false,false,none,true⟩,⟨(some 10),0,[],false,false,none,true⟩]⟩ (.tw 10 (.yl 2 (.pl (.yl 2 (.mix [([0,1,2,3],4),([],5)] [6,7,8,9,10] [] [] (.cl cY [] (.cl dz [] .nil)))))) .nil)) .nil))))))
def HK:Spec:=⟨18,⟨[(0,.dat jj)],[]⟩,[⟨[(0,.own 3 Yq2)],[]⟩],fun x=>gT x⟩
def tP:OkSpec Tryz.prog:=⟨HK,ae func18 Id (by kernel_rfl) (by kernel_rfl),call18⟩
def mC (xa:(List Int)) (xb:(List Int)):Int→Option (Int⊕(Unit⊕Bool)):=fun i1=>cond (decide (i1 < (xa.length:Int))) ((aa xa i1).bind fun x2=>(aa xb i1).bind fun x3=>cond (!decide (x2=x3)) (some (.inr ((.inr (false))))) (some (.inl (IntKind.wrap .i64 (i1 + 1))))) (some (.inr ((.inl ()))))
def kl (xa:(List Int)) (xb:(List Int)):Option Bool :=
 cond (!decide ((xa.length:Int)=(xb.length:Int))) (some (false)) ((loop (mC xa xb) 0).bind fun o=>match o with | .inr r=>some r | .inl ()=>some (true))
def HP:Hn Tryz.prog := .tw 10 .nil (.jx [] ⟨[],[]⟩ [] (.lp ⟨[kdI 5],[]⟩ (.tw 14 (.mix [] [0,1,2,3,4,5,6,7,8] [] [] (.tw 25 .nil .nil)) .nil)) .nil)
def IF:Spec:=⟨17,⟨[(0,.dat (.sl Yq2)),(1,.dat (.sl Yq2))],[]⟩,[⟨[kdB 0],[]⟩],fun x=>kl x.1 x.2⟩
def zr:OkSpec Tryz.prog:=⟨IF,ae func17 HP (by kernel_rfl) (by kernel_rfl),call17⟩

def ku (xa:Tq1):Option Int :=
 (dg xa).bind fun p21=>(db p21).bind fun i29=>cond (decide (i29=0)) (some (0)) (some (IntKind.wrap .i64 (i29 + xa.1)))
def Ig:Hn Tryz.prog := .cl uD [] (.cl lA [] (.tw 8 .nil .nil))
def IY:Spec:=⟨14,⟨[(0,.dat Yq1)],[]⟩,[⟨[kdI 0],[]⟩],fun x=>ku x⟩
def IW:OkSpec Tryz.prog:=⟨IY,ae func14 Ig (by kernel_rfl) (by kernel_rfl),call14⟩

def g8  : Option Bool :=
 (de ((1,2,[],([([(1,false)]:List bq)]:List Tq3),([(0,false)]:List bq),[],([([],(3,0,0,[],[],[]))]:List ((List Tq5)×Tq8))))).bind fun l1=>(cond (decide ((l1.length:Int)=2)) ((aa l1 0).bind fun x2=>(gT x2).bind fun l3=>(kl l3 ([0,1]:List Int)).bind fun t4=>some (t4)) (some (false))).bind fun t5=>(cond (t5) ((aa l1 1).bind fun x6=>(gT x6).bind fun l7=>(kl l7 ([0]:List Int)).bind fun t8=>some (t8)) (some (false))).bind fun t9=>(cond (t9) ((ku ((1,2,[],([([(1,false)]:List bq)]:List Tq3),([(0,false)]:List bq),[],([([],(3,0,0,[],[],[]))]:List ((List Tq5)×Tq8))))).bind fun i10=>some (decide (i10=2))) (some (false))).bind fun t11=>some (t11)
def Bc:Hn Tryz.prog := .per 0 1 (.cl tS [2,4,6] (.per 11 12 (.gj 6 ⟨[kdB 26],[]⟩ [] (.two 19 (.cl tP [] (.cl zr [13,15] .nil)) .nil) (.wt 27 (.gj 6 ⟨[kdB 34],[]⟩ [] (.two 27 (.cl tP [] (.cl zr [13,15] .nil)) .nil) (.wt 35 (.gj 3 ⟨[kdB 39],[]⟩ [] (.two 35 (.cl IW [2,4,6] .nil) .nil) .nil)))))))
def uO:Spec:=⟨7,⟨[],[]⟩,[⟨[kdB 0],[]⟩],fun x=>g8⟩
theorem A4:cK Tryz.prog uO:=ae func7 Bc (by kernel_rfl) (by kernel_rfl)
def qr:OkSpec Tryz.prog:=⟨uO,A4,call7⟩

def mF (xa:(Option Tq2)) (xb:Int):Option Bool :=
 (dd xa).bind fun t60=>cond (t60) (xa.bind fun y65=>(bX y65.2.2 xb).bind fun t76=>some (t76)) ((cond (!xa.isNone) (xa.bind fun y98=>(fD y98.2.1 xb).bind fun t1=>some (t1)) (some (false))).bind fun t96=>some (t96))
def IO:Hn Tryz.prog := .cl iV [] (.tw 6 (.cl gE [] .nil) (.gj 6 ⟨[kdB 22],[]⟩ [] (.two 15 (.cl zo [] .nil) .nil) .nil))
def GV:Spec:=⟨20,⟨[(0,.dat jj),kdI 1],[]⟩,[⟨[kdB 0],[]⟩],fun x=>mF x.1 x.2⟩
def HX:OkSpec Tryz.prog:=⟨GV,ae func20 IO (by kernel_rfl) (by kernel_rfl),call20⟩
def jI (l1:aJ) (i2:Int) (l3:(List Int)):Int→Option (Int⊕(Unit⊕(Int⊕(Unit⊕Bool)))):=fun i4=>cond (decide (i4 < (l3.length:Int))) ((aa l1 i2).bind fun x5=>(aa l3 i4).bind fun x6=>(mF x5 x6).bind fun t7=>cond (!t7) (some (.inr ((.inr (.inr ((.inr (false)))))))) (some (.inl (IntKind.wrap .i64 (i4 + 1))))) (some (.inr ((.inl ()))))
def gM (l1:aJ) (l2:aJ):Int→Option (Int⊕(Unit⊕Bool)):=fun i3=>cond (decide (i3 < (l1.length:Int))) ((aa l1 i3).bind fun x4=>(gT x4).bind fun l5=>(loop (jI l2 i3 l5) 0).bind fun o=>match o with | .inr r=>some r | .inl ()=>some (.inl (IntKind.wrap .i64 (i3 + 1)))) (some (.inr ((.inl ()))))
def qf (xa:Tq1) (xb:Int) (xc:Int) (xd:Int):Option Bool :=
 (fG xa).bind fun t1=>(cond (((((!t1)||(decide (20 < xa.2.1)))||(decide (xb < 0)))||(decide ((xa.2.2.2.2.2.2.length:Int)≤xb)))||(decide (xc < 0))) (some (true)) ((aa xa.2.2.2.2.2.2 xb).bind fun x2=>some (decide ((x2.1.length:Int)≤xc)))).bind fun t3=>(cond (t3) (some (true)) ((aa xa.2.2.2.2.2.2 xb).bind fun x4=>(aa x4.1 xc).bind fun x5=>some (!decide (x5.1=0)))).bind fun t6=>cond ((t6||(decide (xd < 0)))||(decide ((xa.2.2.2.1.length:Int)≤xd))) ((g8).bind fun t7=>some (t7)) ((app (([]:List ((List Tq5)×Tq8))) xa.2.2.2.2.2.2).bind fun z8=>(aa xa.2.2.2.2.2.2 xb).bind fun x9=>(app (([]:List Tq5)) x9.1).bind fun z10=>(aa z8 xb).bind fun _=>(aa z8 xb).bind fun x11=>(aE xb xb).bind fun _=>(aa z8 xb).bind fun _=>(aE xb xb).bind fun _=>(aa z10 xc).bind fun x12=>(some (z10.set xc.toNat (4,0,xd,0,false))).bind fun z13=>(de xa).bind fun l14=>(de ((xa.1,xa.2.1,xa.2.2.1,xa.2.2.2.1,xa.2.2.2.2.1,xa.2.2.2.2.2.1,z8.set xb.toNat ((z13,(x11.2.1,x11.2.2.1,x11.2.2.2.1,x11.2.2.2.2.1,x11.2.2.2.2.2.1,x11.2.2.2.2.2.2)))))).bind fun l15=>cond (!decide ((l14.length:Int)=(l15.length:Int))) ((aa xa.2.2.2.2.2.2 xb).bind fun x16=>(aa x16.1 xc).bind fun x17=>(cond (!((decide (x17.1=0))&&((decide (x17.2.1=0))&&((decide (x17.2.2.1=0))&&((decide (x17.2.2.2.1=0))&&(x17.2.2.2.2 == false)))))) ((g8).bind fun t18=>some (t18)) (some (false))).bind fun t19=>some (t19)) ((loop (gM l14 l15) 0).bind fun o=>match o with | .inr r=>some r | .inl ()=>(g8).bind fun t20=>some (t20)))
def AN:Hn Tryz.prog := .cl oQ2 [] (.gp 3 (.wt 23 (.gp 2 (.wt 27 (.gp 5 (.wt 34 (.gp 2 (.wt 38 (.gj 9 ⟨[kdB 48],[]⟩ [] (.two 38 .nil .nil) (.wt 49 (.gj 11 ⟨[kdB 61],[]⟩ [] (.two 49 .nil .nil) (.wt 62 (.gp 2 (.wt 66 (.gp 5 (.tw 72 (.cl qr [] .nil) (.cls 7 8 (.mix [([0,1,2,4,5,6,7,8,9],3),([],10)] [11,12] [13] [] (.wt 92 (.opn 7 1000001 (.per 13 17 (.cls 7 16 (.mix [([0,2],1)] [] [3,4,5] [] (.cl tS [] (.per 19 20 (.per 7 18 (.cl tS [] (.per 21 22 (.tw 111 (.gj 1 ⟨[kdB 125],[]⟩ [] (.two 123 (.cl qr [] .nil) .nil) .nil) (.jx [] ⟨[],[]⟩ [2,0] (.lp ⟨[kdI 12],[]⟩ (.tw 129 (.cl tP [] (.jx [] ⟨[],[]⟩ [] (.lp ⟨[kdI 14],[]⟩ (.tw 140 (.mix [] [0,1,2,3,4,5,6,7] [8,9] [] (.cl HX [] (.tw 152 .nil .nil))) .nil)) .nil)) .nil)) (.cl qr [] .nil)))))))))))))))))))))))))))))))
def uG:Spec:=⟨5,⟨[(0,.dat Yq1),kdI 1,kdI 2,kdI 3],[]⟩,[⟨[kdB 0],[]⟩],fun x=>qf x.1 x.2.1 x.2.2.1 x.2.2.2⟩
theorem AC:cK Tryz.prog uG:=ae func5 AN (by kernel_rfl) (by kernel_rfl)
end
section
open Go.RowKit _root_.Go.Proofs.Tryz
def uM (xa:(Option Tq2)):Option Int :=
 (dd xa).bind fun t43=>cond (t43) (xa.bind fun y48=>(eh y48.2.2).bind fun i59=>some (i59)) (cond (xa.isNone) (some (0)) (xa.bind fun y64=>(gR y64.2.1).bind fun i75=>some (i75)))
def mw (xa:Tq3) (xb:Int):Int→Option (Int⊕(Unit⊕Int)):=fun i1=>cond (decide (i1 < (xa.length:Int))) ((aa xa i1).bind fun x2=>(cond (decide (x2.1 < 0)) (some (true)) ((aa xa i1).bind fun x3=>some (decide (xb≤x3.1)))).bind fun t4=>cond (t4) (some (.inr ((.inr (7))))) (some (.inl (IntKind.wrap .i64 (i1 + 1))))) (some (.inr ((.inl ()))))
def mU (xa:Tq3) (xb:Int):Option Int :=
 cond (decide (16 < (xa.length:Int))) (some (6)) ((loop (mw xa xb) 0).bind fun o=>match o with | .inr r=>some r | .inl ()=>some (0))
def qj (xa:Tq3) (xb:Tq3):Int→Option (Int⊕(Unit⊕Bool)):=fun i1=>cond (decide (i1 < (xa.length:Int))) ((aa xa i1).bind fun x2=>(aa xb i1).bind fun x3=>cond (!(x2.2 == x3.2)) (some (.inr ((.inr (false))))) (some (.inl (IntKind.wrap .i64 (i1 + 1))))) (some (.inr ((.inl ()))))
def kd (xa:Tq3) (xb:Tq3):Option Bool :=
 cond (!decide ((xa.length:Int)=(xb.length:Int))) (some (false)) ((loop (qj xa xb) 0).bind fun o=>match o with | .inr r=>some r | .inl ()=>some (true))
def mA (xa:bH):Int→Option (Int⊕(Unit⊕Int)):=fun i1=>cond (decide (i1 < (xa.2.1.length:Int))) ((aa xa.2.1 i1).bind fun x2=>cond ((((decide (x2.1 < 0))||(decide (xa.1≤x2.1)))||(decide (x2.2 < 0)))||(decide (xa.1≤x2.2))) (some (.inr ((.inr (7))))) (some (.inl (IntKind.wrap .i64 (i1 + 1))))) (some (.inr ((.inl ()))))
def mq (xa:bH):Int→Option (Int⊕(Unit⊕Int)):=fun i1=>cond (decide (i1 < (xa.2.2.1.length:Int))) ((aa xa.2.2.1 i1).bind fun x2=>(mU x2 xa.1).bind fun i3=>cond (!decide (i3=0)) (some (.inr ((.inr (i3))))) (some (.inl (IntKind.wrap .i64 (i1 + 1))))) (some (.inr ((.inl ()))))
def mY (xa:bH):Option Int :=
 cond (decide (xa.1 < 0)) (some (7)) (cond (((decide (16 < xa.1))||(decide (16 < (xa.2.1.length:Int))))||(decide (16 < (xa.2.2.1.length:Int)))) (some (6)) ((loop (mA xa) 0).bind fun o=>match o with | .inr r=>some r | .inl ()=>(loop (mq xa) 0).bind fun o=>match o with | .inr r=>some r | .inl ()=>(mU xa.2.2.2 xa.1).bind fun i1=>some (i1)))
def ie (xa:Int):Option Bool :=
 some ((((decide (xa=1))||(decide (xa=2)))||(decide (xa=3)))||(decide (xa=5)))
def ig (xa:Int):Option Bool :=
 some ((decide (1≤xa))&&(decide (xa≤4)))
def j6 (xa:Int):Option Bool :=
 some ((decide (xa=2))||(decide (xa=3)))
def ic (xa:Tq5):Option Bool :=
 (cond ((decide (0≤xa.1))&&(decide (xa.1≤5))) ((ie xa.1).bind fun t97=>some (t97||(decide (xa.2.1=0)))) (some (false))).bind fun t93=>(cond (t93) ((ig xa.1).bind fun t1=>some (t1||(decide (xa.2.2.1=0)))) (some (false))).bind fun t2=>(cond (t2) ((j6 xa.1).bind fun t3=>some (t3||((decide (xa.2.2.2.1=0))&&(!xa.2.2.2.2)))) (some (false))).bind fun t4=>some (t4)
def lS (xb:Tq3) (xc:Tq3) (xd:Int) (xe:Int):aR→Option (aR⊕(List Tq5)):=fun (l1,i2)=>cond (decide (i2 < (xb.length:Int))) ((aa xb i2).bind fun x3=>(aa xc i2).bind fun x4=>(app l1 (([(x3.1,x4.1,xd,IntKind.wrap .i64 (xe + i2),false)]:List Tq5))).bind fun z5=>(aa xc i2).bind fun x6=>cond (x6.2) ((aa xc i2).bind fun x7=>(aa xb i2).bind fun x8=>(app z5 (([(x7.1,x8.1,xd,IntKind.wrap .i64 (xe + i2),true)]:List Tq5))).bind fun z9=>some (.inl ((z9,IntKind.wrap .i64 (i2 + 1))))) (some (.inl ((z5,IntKind.wrap .i64 (i2 + 1)))))) (some (.inr (l1)))
def gO (xb:Tq3) (xc:Tq3) (xd:Int) (xe:Int) (qxa:(List Tq5)):Option ((List Tq5)) :=
 (loop (lS xb xc xd xe) (qxa,0)).bind fun l1=>some (l1)
def ia (xa:Tq3) (xb:Tq3) (xc:Int) (xd:Int):Option (aR) :=
 (kd xa xb).bind fun t34=>cond (!t34) (some (([],8))) ((gO xa xb xc xd (([]:List Tq5))).bind fun l45=>some ((l45,0)))
def qn (xa:Tq3) (xc:Bool):(Tq3×Int)→Option ((Tq3×Int)⊕Tq3):=fun (l1,i2)=>cond (decide (i2 < (xa.length:Int))) ((aa xa i2).bind fun x3=>(aa xa i2).bind fun x4=>cond (x4.2) ((app l1 (([(x3.1,true)]:List bq))).bind fun z5=>some (.inl ((z5,IntKind.wrap .i64 (i2 + 1))))) ((app l1 (([(x3.1,xc)]:List bq))).bind fun z6=>some (.inl ((z6,IntKind.wrap .i64 (i2 + 1)))))) (some (.inr (l1)))
def qJ (xa:Tq3) (xb:Int) (xc:Bool):Option (Tq3) :=
 (loop (qn xa xc) ((([(xb,false)]:List bq),0))).bind fun l1=>some (l1)
def qB (xa:Tq3) (xb:Tq3) (xc:Int) (xd:Bool):Option (aR) :=
 (qJ xa xc xd).bind fun l1=>(kd l1 xb).bind fun t2=>cond (!t2) (some (([],8))) ((aa xb 0).bind fun x3=>(subL xb 1 (xb.length:Int)).bind fun y4=>(gO xa y4 1 1 (([(xc,x3.1,2,0,false)]:List Tq5))).bind fun l5=>some ((l5,0)))
def gS (xa:Tq3) (xd:Bool):Int→Option (Int⊕(Unit⊕aR)):=fun i1=>cond (decide (i1 < (xa.length:Int))) ((cond (xd) ((aa xa i1).bind fun x2=>some (!x2.2)) (some (false))).bind fun t3=>cond (t3) (some (.inr ((.inr (([],8)))))) (some (.inl (IntKind.wrap .i64 (i1 + 1))))) (some (.inr ((.inl ()))))
def qq (xa:Tq3) (xb:Tq3) (xc:Int) (xd:Bool):Option (aR) :=
 (cond (decide ((xa.length:Int)=0)) (some (true)) ((kd xa xb).bind fun t1=>some (!t1))).bind fun t2=>(cond (t2) (some (true)) ((aa xa 0).bind fun x3=>some (x3.2))).bind fun t4=>cond (t4) (some (([],8))) ((loop (gS xa xd) 1).bind fun o=>match o with | .inr r=>some r | .inl ()=>(aa xa 0).bind fun x5=>(aa xb 0).bind fun x6=>(subL xa 1 (xa.length:Int)).bind fun y7=>(subL xb 1 (xb.length:Int)).bind fun y8=>(gO y7 y8 1 1 (([(x5.1,xc,3,0,false),(xc,x6.1,2,0,false)]:List Tq5))).bind fun l9=>some ((l9,0)))
def dL (xa:Tq5) (xb:(List Tq3)) (xc:Int):Option (aR) :=
 (ic (xa.1,xa.2.1,xa.2.2.1,xa.2.2.2.1,xa.2.2.2.2)).bind fun t1=>cond (!t1) (some (([],3))) ((ie xa.1).bind fun t2=>(cond (t2&&((decide (xa.2.1 < 0))||(decide ((xb.length:Int)≤xa.2.1)))) (some (true)) ((ig xa.1).bind fun t3=>some (t3&&((decide (xa.2.2.1 < 0))||(decide ((xb.length:Int)≤xa.2.2.1)))))).bind fun t4=>(cond (t4) (some (true)) ((j6 xa.1).bind fun t5=>some (t5&&((decide (xa.2.2.2.1 < 0))||(decide (xc≤xa.2.2.2.1)))))).bind fun t6=>cond (t6) (some (([],7))) (cond (decide (xa.1=1)) ((aa xb xa.2.2.1).bind fun x7=>(aa xb xa.2.1).bind fun x8=>(ia x7 x8 1 0).bind fun (l9,i10)=>some ((l9,i10))) (cond (decide (xa.1=2)) ((aa xb xa.2.2.1).bind fun x11=>(aa xb xa.2.1).bind fun x12=>(qB x11 x12 xa.2.2.2.1 xa.2.2.2.2).bind fun (l13,i14)=>some ((l13,i14))) (cond (decide (xa.1=3)) ((aa xb xa.2.2.1).bind fun x15=>(aa xb xa.2.1).bind fun x16=>(qq x15 x16 xa.2.2.2.1 xa.2.2.2.2).bind fun (l17,i18)=>some ((l17,i18))) (some (([],0)))))))
def fJ (xa:Tq8):Option Int :=
 cond ((decide (xa.1 < 1))||(decide (4 < xa.1))) (some (3)) (cond (((((decide (xa.1=1))||(decide (xa.1=4)))&&(!decide ((xa.2.2.2.1.length:Int)=1)))||((decide (xa.1=2))&&(decide ((xa.2.2.2.1.length:Int)=0))))||((decide (xa.1=3))&&(!decide ((xa.2.2.2.1.length:Int)=0)))) (some (3)) (cond ((!decide (xa.1=4))&&(((!decide (xa.2.1=0))||(!decide (xa.2.2.1=0)))||(!decide ((xa.2.2.2.2.2.length:Int)=0)))) (some (3)) (cond (((decide (xa.1=1))||(decide (xa.1=3)))&&(!decide ((xa.2.2.2.2.1.length:Int)=0))) (some (3)) (cond (((decide (16 < (xa.2.2.2.1.length:Int)))||(decide (16 < (xa.2.2.2.2.1.length:Int))))||(decide (16 < (xa.2.2.2.2.2.length:Int)))) (some (6)) (some (0))))))
def mo (xa:(List Int)) (xb:Int):Int→Option (Int⊕(Unit⊕Bool)):=fun i1=>cond (decide (i1 < (xa.length:Int))) ((aa xa i1).bind fun x2=>(cond (decide (x2 < 0)) (some (true)) ((aa xa i1).bind fun x3=>some (decide (xb≤x3)))).bind fun t4=>cond (t4) (some (.inr ((.inr (false))))) (some (.inl (IntKind.wrap .i64 (i1 + 1))))) (some (.inr ((.inl ()))))
def dK (xa:(List Int)) (xb:Int):Option Bool :=
 (loop (mo xa xb) 0).bind fun o=>match o with | .inr r=>some r | .inl ()=>some (true)
def jT (xa:Tq3) (xb:(List Int)):(Tq3×Int)→Option ((Tq3×Int)⊕(Tq3⊕(Tq3×Int))):=fun (l1,i2)=>cond (decide (i2 < (xa.length:Int))) ((aa xa i2).bind fun x3=>cond ((decide (x3.1 < 0))||(decide ((xb.length:Int)≤x3.1))) (some (.inr ((.inr (([],7)))))) ((aa xb x3.1).bind fun x4=>(aa xa i2).bind fun x5=>(app l1 (([(x4,x5.2)]:List bq))).bind fun z6=>some (.inl ((z6,IntKind.wrap .i64 (i2 + 1)))))) (some (.inr (.inl l1)))
def mR (xa:Tq3) (xb:(List Int)):Option ((Tq3×Int)) :=
 (loop (jT xa xb) ((([]:List bq),0))).bind fun o=>match o with | .inr r=>some r | .inl l1=>some ((l1,0))
def mD (xa:bH) (xb:(List Int)):aR→Option (aR⊕(List Tq5)):=fun (l1,i2)=>cond (decide (i2 < (xa.2.1.length:Int))) ((aa xa.2.1 i2).bind fun x3=>(aa xb x3.1).bind fun x4=>(aa xa.2.1 i2).bind fun x5=>(aa xb x5.2).bind fun x6=>(app l1 (([(x4,x6,4,i2,false)]:List Tq5))).bind fun z7=>some (.inl ((z7,IntKind.wrap .i64 (i2 + 1))))) (some (.inr (l1)))
def j4 (xa:bH) (xb:(List Int)) (xc:(List Tq3)):aR→Option (aR⊕((List Tq5)⊕aR)):=fun (l1,i2)=>cond (decide (i2 < (xa.2.2.1.length:Int))) ((aa xa.2.2.1 i2).bind fun x3=>(mR x3 xb).bind fun (l4,i5)=>(aa xc i2).bind fun x6=>(ia x6 l4 5 (IntKind.wrap .i64 (16 * i2))).bind fun (l7,i8)=>cond (!decide (i8=0)) (some (.inr ((.inr (([],i8)))))) ((app l1 l7).bind fun z9=>some (.inl ((z9,IntKind.wrap .i64 (i2 + 1)))))) (some (.inr (.inl l1)))
def m5 (xa:bH) (xb:(List Int)) (xc:(List Tq3)) (xd:Tq3):Option (aR) :=
 (mY (xa.1,xa.2.1,xa.2.2.1,xa.2.2.2)).bind fun i1=>cond (!decide (i1=0)) (some (([],i1))) (cond ((!decide ((xb.length:Int)=xa.1))||(!decide ((xc.length:Int)=(xa.2.2.1.length:Int)))) (some (([],2))) ((loop (mD xa xb) ((([]:List Tq5),0))).bind fun l2=>(loop (j4 xa xb xc) (l2,0)).bind fun o=>match o with | .inr r=>some r | .inl l3=>(mR xa.2.2.2 xb).bind fun (l4,i5)=>(ia l4 xd 6 0).bind fun (l6,i7)=>cond (!decide (i7=0)) (some (([],i7))) ((app l3 l6).bind fun z8=>some ((z8,0)))))
def uK (xa:Tq8) (xb:je):((List Tq3)×Int)→Option (((List Tq3)×Int)⊕(List Tq3)):=fun (l1,i2)=>cond (decide (i2 < (xa.2.2.2.2.1.length:Int))) ((aa xa.2.2.2.2.1 i2).bind fun x3=>(aa xb.2.2.1 x3).bind fun x4=>(app l1 (([x4]:List Tq3))).bind fun z5=>some (.inl ((z5,IntKind.wrap .i64 (i2 + 1))))) (some (.inr (l1)))
def ek (xa:Tq8) (xb:je):Option (aR) :=
 (fJ (xa.1,xa.2.1,xa.2.2.1,xa.2.2.2.1,xa.2.2.2.2.1,xa.2.2.2.2.2)).bind fun i1=>cond (!decide (i1=0)) (some (([],i1))) ((dK xa.2.2.2.1 xb.1).bind fun t2=>(cond (!t2) (some (true)) ((dK xa.2.2.2.2.1 (xb.2.2.1.length:Int)).bind fun t3=>some (!t3))).bind fun t4=>(cond (t4) (some (true)) ((dK xa.2.2.2.2.2 xb.2.1).bind fun t5=>some (!t5))).bind fun t6=>cond (t6) (some (([],7))) ((cond (decide (xa.1=4)) ((dK ([xa.2.2.1]:List Int) (xb.2.2.1.length:Int)).bind fun t7=>(cond (!t7) (some (true)) ((dK ([xa.2.1]:List Int) (xb.2.2.2.2.length:Int)).bind fun t8=>some (!t8))).bind fun t9=>some (t9)) (some (false))).bind fun t10=>cond (t10) (some (([],7))) (cond ((decide (xa.1=3))&&(decide ((xb.2.2.1.length:Int)=0))) (some (([],14))) (cond (decide (xa.1=3)) ((aa xb.2.2.1 0).bind fun x11=>(ia x11 xb.2.2.2.1 7 0).bind fun (l12,i13)=>some ((l12,i13))) (cond (decide (xa.1=4)) ((loop (uK xa xb) ((([]:List Tq3),0))).bind fun l14=>(aa xb.2.2.2.2 xa.2.1).bind fun x15=>(aa xb.2.2.1 xa.2.2.1).bind fun x16=>(m5 (x15.1,x15.2.1,x15.2.2.1,x15.2.2.2) xa.2.2.2.2.2 l14 x16).bind fun (l17,i18)=>some ((l17,i18))) (some (([],0))))))))
end
set_option linter.unnecessarySimpa false
set_option linter.unusedSimpArgs false
open Go.RowKit
abbrev St:=Int×Bool
def shp (xa xb:List St):Bool:=decide (xa.map (·.2)=xb.map (·.2))
theorem vj (xa xb:List St) {body:Int→Option (Int⊕(Unit⊕Bool))} (hl:xa.length=xb.length) (hb:∀ (k:Nat) (h:k < xa.length),body (k:Int)=some (if xa[k].2=(xb[k]'(by omega)).2 then .inl ((k + 1:Nat):Int) else .inr (.inr false))) (he:body (xa.length:Int)=some (.inr (.inl ()))) :
   loop body 0=some (if shp xa xb then .inl () else .inr false):=by
 have:=vm (body:=body) (xa.map (·.2)) (xb.map (·.2)) (.inr false) (.inl ()) (by simp [hl]) (fun k h=>by simpa using hb k (by simpa using h)) (by simpa using he)
 rw [this]; unfold shp
 by_cases h:xa.map (·.2)=xb.map (·.2) <;> simp [h]
theorem sL {xa xb:List St} (h:¬ xa.length=xb.length):shp xa xb=false:=by
 unfold shp; simp only [decide_eq_false_iff_not]
 intro e; exact h (by simpa using congrArg List.length e)
theorem kI {xa xb:List St} (h:shp xa xb=true):xa.length=xb.length:=by
 unfold shp at h; simpa using congrArg List.length (of_decide_eq_true h)
theorem iz (xa xb:List St):shp xa xb=shp xb xa:=by unfold shp; simp only [eq_comm]
theorem tc (xa:List St) (n:Int):fM xa n=some (decide ((xa.length:Int)≤n)):=rfl
theorem qU (xa xb:List St) (hn:xa.length≤1073741824):kd xa xb=some (shp xa xb):=by
 unfold kd
 by_cases hl:xa.length=xb.length
 . rw [uC hl,cond_false,vj xa xb hl ?_ ?_]
   . cases shp xa xb <;> rfl
   . intro k h; unfold qj
     have h2:k < xb.length:=by omega
     by_cases q:xa[k].2=xb[k].2 <;> simp [ah h,ah h2,h,q,aq h (by omega),yh]
   . simp [qj]
 . rw [oU hl,cond_true,sL hl]
theorem im (xa xb:List St) (hn:xa.length≤1073741824):dh xa xb=some (shp xa xb):=by
 unfold dh lD
 by_cases hl:xa.length=xb.length
 . rw [uC hl,cond_false,vj xa xb hl ?_ ?_]
   . cases shp xa xb <;> rfl
   . intro k h; unfold pJ qw
     have h2:k < xb.length:=by omega
     by_cases q:xa[k].2=xb[k].2 <;> simp [ah h,ah h2,h,q,aq h (by omega),yh]
   . simp [pJ]
 . rw [oU hl,cond_true,sL hl]; rfl
theorem Co (xa:List St) (n:Int) (m:Bool) (hn:xa.length≤1000000000):nh xa n m=some ((n,false) :: xa.map fun x=>(x.1,x.2||m)):=by
 unfold nh
 have:=rJ xa (fun x:St=>(x.1,x.2||m)) [(n,false)] (by simp; omega) (body:=uP xa m) (fun c i=>rfl)
 rw [this]; rfl
theorem Cq (xa:List St) (n:Int) (m:Bool) (hn:xa.length≤1000000000):qJ xa n m=some ((n,false) :: xa.map fun x=>(x.1,x.2||m)):=by
 unfold qJ
 have:=rJ xa (fun x:St=>(x.1,x.2||m)) [(n,false)] (by simp; omega) (body:=qn xa m) (fun c i=>by
   unfold qn
   cases hg:aa xa i with
   | none=>simp [hg]
   | some x=>cases h2:x.2 <;> simp [hg,h2])
 rw [this]; rfl
theorem vC {α:Type} (xa:List α) (t:α→Bool):(∃ k,xa.findIdx? t=some k∧xa.any t=true)∨(xa.findIdx? t=none∧xa.any t=false):=by
 cases h:xa.findIdx? t with
 | none =>
   refine .inr ⟨rfl,?_⟩
   rw [List.any_eq_false]; intro x hx; have:=List.findIdx?_eq_none_iff.1 h x hx; simp [this]
 | some k =>
   obtain ⟨hk,h1,_⟩:=List.findIdx?_eq_some_iff_getElem.1 h
   exact .inl ⟨k,rfl,List.any_eq_true.2 ⟨_,List.getElem_mem hk,h1⟩⟩
def rin (n:Int) (xa:List St):Bool:=xa.any fun x=>decide (x.1 < 0)||decide (n≤x.1)
def rck (n:Int) (xa:List St):Int:=if 16 < xa.length then 6 else if rin n xa then 7 else 0
def sbs (xb:List Int) (x:St):St:=(xb.getD x.1.toNat 0,x.2)
theorem CP {n:Int} {xa:List St} (h:rin n xa=false) {k:Nat} {x:St} (hx:xa[k]? = some x):0≤x.1∧x.1 < n:=by
 unfold rin at h
 have:=List.any_eq_false.1 h x (List.mem_of_getElem? hx)
 simp at this; omega
theorem oc {xb:List Int} {i:Int} (h:0≤i) (h2:i < (xb.length:Nat)):aa xb i=some (xb.getD i.toNat 0):=by
 unfold aa; rw [if_pos h]
 have:i.toNat < xb.length:=by omega
 simp [this]
theorem uV (xa:List St) (n:Int) (hn:xa.length≤1073741824):kj xa n=some (!rin n xa):=by
 unfold kj pN pO
 rw [cP (body:=lE xa n) xa (fun x=>decide (x.1 < 0)||decide (n≤x.1)) (fun k => .inr (k:Int)) (.inl ()) ?_ ?_]
 . rcases vC xa (fun x=>decide (x.1 < 0)||decide (n≤x.1)) with ⟨k,h1,h2⟩ | ⟨h1,h2⟩
   . rw [h1]; unfold rin; simp [h2]
   . rw [h1]; unfold rin; simp [h2]
 . intro k hk
   unfold lE p8
   simp only [dlt hk,cond_true,ah hk,Option.bind_some,aq hk (by omega:xa.length≤9223372036854775807)]
   cases (decide (xa[k].1 < 0)||decide (n≤xa[k].1)) <;> rfl
 . simp [lE]
theorem qO (xa:List St) (n:Int) (hn:xa.length≤1073741824):eo xa n=some (rck n xa):=by
 unfold eo rck
 rw [uV xa n hn]
 by_cases h:16 < xa.length
 . rw [decide_eq_true (by omega),if_pos h]; rfl
 . rw [decide_eq_false (by omega),if_neg h,cond_false]
   cases rin n xa <;> rfl
theorem vh (xa:List St) (n:Int):mU xa n=some (rck n xa):=by
 unfold mU rck
 by_cases h:16 < xa.length
 . rw [decide_eq_true (by omega),if_pos h]; rfl
 . rw [decide_eq_false (by omega),if_neg h,cond_false]
   rw [fS (body:=mw xa n) xa (fun x=>decide (x.1 < 0)||decide (n≤x.1)) (.inr 7) (.inl ()) ?_ ?_]
   . unfold rin; cases (xa.any fun x=>decide (x.1 < 0)||decide (n≤x.1)) <;> rfl
   . intro k hk
     unfold mw
     by_cases q:xa[k].1 < 0 <;> by_cases q2:n≤xa[k].1 <;> simp [hk,ah hk,aq hk (by omega:xa.length≤9223372036854775807),q,q2]
   . simp [mw]
theorem BD (xa:List St) (hn:xa.length≤1073741824):m8 xa=some xa:=by
 unfold m8 pS
 rw [sI]
 . rw [aM (by simpa using hn)]; simp
 . rintro rfl; rw [aM (by simp)]; rfl
theorem vc (xa:List St) (xb:List Int) (hn:xa.length≤1073741824):ko xa xb=some (if rin xb.length xa then ([],7) else (xa.map (sbs xb),0)):=by
 unfold ko
 rw [uV xa _ hn,Option.bind_some,BD xa hn]
 cases h:rin xb.length xa with
 | true=>simp
 | false =>
   simp only [Bool.not_false,Bool.not_true,cond_false,Option.bind_some,Bool.false_eq_true,if_false]
   have hl:=aQ (body:=ka xb xa) (fun k:Nat=>((xa.take k).map (sbs xb)++xa.drop k,(k:Int))) xa.length (b:=xa.map (sbs xb)) ?_ ?_
   . simp only [List.take_zero,List.map_nil,List.nil_append,List.drop_zero] at hl
     have hl':loop (ka xb xa) (xa,0)=some (xa.map (sbs xb)):=hl
     rw [hl']; rfl
   . intro k hk
     have hg:aa ((xa.take k).map (sbs xb)++xa.drop k) (k:Int)=some xa[k]:=by
       rw [ah (by simp; omega)]
       rw [List.getElem_append_right (by simp; omega)]
       simp [List.getElem_drop,Nat.min_eq_left (Nat.le_of_lt hk)]
     have hr:=CP h (k:=k) (x:=xa[k]) (by simp [hk])
     unfold ka
     dsimp only
     rw [hg]
     simp only [Option.bind_some,oc hr.1 hr.2,Int.ofNat_lt.2 hk,decide_true,cond_true,aq hk (by omega:xa.length≤9223372036854775807),Int.toNat_natCast]
     congr 3
     rw [List.take_succ_eq_append_getElem hk,List.drop_eq_getElem_cons hk,List.set_append_right _ _ (by simp; omega)]
     rw [List.length_map,List.length_take,Nat.min_eq_left (Nat.le_of_lt hk),Nat.sub_self,List.set_cons_zero,List.map_append,List.append_assoc]
     rfl
   . simp [ka]
theorem qP (xa:List St) (xb:List Int) (hn:xa.length≤1073741824):mR xa xb=some (if rin xb.length xa then ([],7) else (xa.map (sbs xb),0)):=by
 unfold mR
 have hl:=iu (body:=jT xa xb)
   (fun k=>∃ x,xa[k]? = some x∧(x.1 < 0∨(xb.length:Int)≤x.1)) (fun k:Nat=>((xa.take k).map (sbs xb),(k:Int))) xa.length (fun _ => .inr ([],7)) (.inl (xa.map (sbs xb))) ?_ ?_ ?_
 . simp only [List.take_zero,List.map_nil] at hl
   rcases hl with ⟨k,h1,⟨x,h2,h2'⟩,_,h3⟩ | ⟨h1,h3⟩
   . have:rin xb.length xa=true:=List.any_eq_true.2 ⟨x,List.mem_of_getElem? h2,by simpa using h2'⟩
     rw [this]; erw [h3]; rfl
   . have:rin xb.length xa=false:=by
       cases hh:rin xb.length xa with
       | false=>rfl
       | true =>
         obtain ⟨x,h4,h5⟩:=List.any_eq_true.1 hh
         obtain ⟨k,h6,rfl⟩:=List.getElem_of_mem h4
         exact absurd ⟨xa[k],by simp [h6],by simpa using h5⟩ (h1 k h6)
     rw [this]; erw [h3]; rfl
 . intro k hk hp
   have hx:¬ (xa[k].1 < 0∨(xb.length:Int)≤xa[k].1):=fun h=>hp ⟨_,by simp [hk],h⟩
   have h1:((decide (xa[k].1 < 0))||(decide (((xb.length:Nat):Int)≤xa[k].1)))=false:=by simp; omega
   have ha:=aM (a:=(xa.take k).map (sbs xb)) (b:=[sbs xb xa[k]]) (by simp; omega)
   have h5:aa xb xa[k].1=some (xb.getD xa[k].1.toNat 0):=oc (by omega) (by omega)
   unfold jT
   dsimp only
   simp only [Option.bind_some,ah hk,h1,cond_false,h5,Int.ofNat_lt.2 hk,decide_true,cond_true,aq hk (by omega:xa.length≤9223372036854775807)]
   rw [show app ((xa.take k).map (sbs xb)) [(xb.getD xa[k].1.toNat 0,xa[k].2)]=_ from ha,List.take_succ_eq_append_getElem hk,List.map_append]
   rfl
 . rintro k hk ⟨x,h1,h2⟩
   have hx:xa[k]=x:=by rw [List.getElem?_eq_getElem hk] at h1; exact Option.some.inj h1
   have h1:((decide (xa[k].1 < 0))||(decide (((xb.length:Nat):Int)≤xa[k].1)))=true:=by rw [hx]; simpa using h2
   unfold jT
   dsimp only
   simp only [Option.bind_some,ah hk,h1,cond_true,Int.ofNat_lt.2 hk,decide_true]
 . simp [jT]
abbrev Nd:=Int×Int×Int×Int×Bool
def jd (kind f:Int) (x y:St):List Nd:=(x.1,y.1,kind,f,false) :: if y.2 then [(y.1,x.1,kind,f,true)] else []
def rel (kind f:Int):List St→List St→List Nd
 | x :: xs,y :: ys=>jd kind f x y++rel kind (f + 1) xs ys
 | _,_=>[]
theorem wu (kind:Int) (x y:St):∀ (xs ys:List St) (f:Int),xs.length=ys.length→rel kind f (xs++[x]) (ys++[y])=rel kind f xs ys++jd kind (f + xs.length) x y
 | [],[],f,_=>by simp [rel]
 | [],_ :: _,f,h=>by simp at h
 | _ :: _,[],f,h=>by simp at h
 | a :: xs,b :: ys,f,h=>by
   simp only [List.cons_append,rel,wu kind x y xs ys (f + 1) (by simpa using h),List.append_assoc,List.length_cons]
   rw [show f + 1 + (xs.length:Int)=f + ((xs.length + 1:Nat):Int) by omega]
theorem cw (kind:Int) (xs ys:List St) (f:Int):(rel kind f xs ys).length≤2 * xs.length:=by
 induction xs generalizing ys f with
 | nil=>simp [rel]
 | cons a xs ih=>cases ys with
   | nil=>simp [rel]
   | cons b ys =>
     have:=ih ys (f + 1)
     cases hb:b.2 <;> simp [rel,jd,hb] <;> omega
theorem ip (xa xb:List St) (kind f:Int) (hl:xa.length=xb.length) (hn:xa.length≤30) (hf : -9223372036854775808≤f) (hf2:f≤1099511627776) (c:List Nd) (hc:c.length≤10) :
   gO xa xb kind f c=some (c++rel kind f xa xb):=by
 unfold gO
 have h:=vF (body:=lS xa xb kind f) xa (fun k=>c++rel kind f (xa.take k) (xb.take k)) (c++rel kind f xa xb) ?_ ?_
 . simp only [List.take_zero,rel,List.append_nil] at h
   rw [h]; rfl
 . intro k h
   have h2:k < xb.length:=by omega
   have hlen:=cw kind (xa.take k) (xb.take k) f
   simp only [List.length_take] at hlen
   have hw:IntKind.wrap .i64 (f + (k:Int))=f + k:=w64 (by omega) (by omega)
   unfold lS
   rw [aO h,aO h2,wu _ _ _ _ _ _ (by simp; omega)]
   have e:(xa.take k).length=k:=by simp; omega
   rw [e]
   cases hb:xb[k].2 with
   | true =>
     simp [ah h,ah h2,h,hb,aq h (by omega),hw,jd]
     rw [aM (by simp; omega)]
     simp
     rw [aM (by simp; omega)]
     simp
   | false =>
     simp [ah h,ah h2,h,hb,aq h (by omega),hw,jd]
     rw [aM (by simp; omega)]
     simp
 . have e:xb.take xa.length=xb:=by rw [hl,List.take_length]
   simp [lS,e]
theorem qD (xa xb:List St) (kind f:Int):jW xa xb kind f=gO xa xb kind f []:=rfl
theorem ni (xa xb:List St) (kind f:Int) (hn:xa.length≤30) (hf : -9223372036854775808≤f) (hf2:f≤1099511627776):fH xa xb kind f=some (if shp xa xb then (rel kind f xa xb,0) else ([],8)):=by
 unfold fH
 rw [im _ _ (by omega),Option.bind_some]
 cases hs:shp xa xb with
 | false=>rfl
 | true=>rw [Bool.not_true,cond_false,qD,ip xa xb kind f (kI hs) hn hf hf2 [] (by simp)]; simp
theorem io (xa xb:List St) (kind f:Int) (hn:xa.length≤30) (hf : -9223372036854775808≤f) (hf2:f≤1099511627776):ia xa xb kind f=some (if shp xa xb then (rel kind f xa xb,0) else ([],8)):=by
 unfold ia
 rw [qU _ _ (by omega),Option.bind_some]
 cases hs:shp xa xb with
 | false=>rfl
 | true=>rw [Bool.not_true,cond_false,ip xa xb kind f (kI hs) hn hf hf2 [] (by simp)]; simp
def lo (n:Int) (m:Bool) (xa xb:List St):List Nd×Int :=
 if shp ((n,false) :: xa.map fun x=>(x.1,x.2||m)) xb then ((n,(xb.head?.getD (0,false)).1,2,0,false) :: rel 1 1 xa (xb.drop 1),0) else ([],8)
theorem sR {n:Int} {m:Bool} {xa xb:List St} (h:shp ((n,false) :: xa.map fun x=>(x.1,x.2||m)) xb=true):xb.length=xa.length + 1:=by
 have:=kI h; simp at this; omega
theorem B9 (xa xb:List St) (n:Int) (m:Bool) (hn:xa.length≤30):mX xa xb n m=some (lo n m xa xb):=by
 unfold mX lo
 rw [Co _ _ _ (by omega),Option.bind_some,iz]
 by_cases hb:xb.length≤1000
 . rw [im _ _ (by omega),Option.bind_some]
   cases hs:shp xb ((n,false) :: xa.map fun x=>(x.1,x.2||m)) with
   | false=>rfl
   | true =>
     have hl:=sR (by rw [iz]; exact hs)
     cases xb with
     | nil=>simp at hl
     | cons y ys =>
       have hl2:xa.length=ys.length:=by simpa using hl.symm
       rw [Bool.not_true,cond_false,show aa (y :: ys) 0=some y from rfl,Option.bind_some,gz (by simp),Option.bind_some,qD,ip _ _ _ _ (by simpa using hl2) hn (by omega) (by omega) _ (by simp)]
       have:=cw 1 xa ys 1
       simp only [List.nil_append,Option.bind_some,List.drop_succ_cons,List.drop_zero]
       rw [aM (by simp; omega)]
       simp
 . have hs:shp xb ((n,false) :: xa.map fun x=>(x.1,x.2||m))=false:=sL (by simp; omega)
   unfold dh lD
   rw [oU (by simp; omega),cond_true,hs]; rfl
theorem Cd (xa xb:List St) (n:Int) (m:Bool) (hn:xa.length≤30):qB xa xb n m=some (lo n m xa xb):=by
 unfold qB lo
 rw [Cq _ _ _ (by omega),Option.bind_some,qU _ _ (by simp; omega),Option.bind_some]
 cases hs:shp ((n,false) :: xa.map fun x=>(x.1,x.2||m)) xb with
 | false=>rfl
 | true =>
   have hl:=sR hs
   cases xb with
   | nil=>simp at hl
   | cons y ys =>
     have hl2:xa.length=ys.length:=by simpa using hl.symm
     rw [Bool.not_true,cond_false,show aa (y :: ys) 0=some y from rfl,Option.bind_some,gz (by simp),Option.bind_some,ip _ _ _ _ (by simpa using hl2) hn (by omega) (by omega) _ (by simp)]
     simp
def ag (n:Int) (m:Bool) (xa xb:List St):List Nd×Int :=
 match xa,xb with
 | x :: xs,y :: ys=>if x.2||!shp (x :: xs) (y :: ys)||(m&&xs.any (fun z=>!z.2)) then ([],8) else ((x.1,n,3,0,false) :: (n,y.1,2,0,false) :: rel 1 1 xs ys,0)
 | _,_=>([],8)
theorem FZ (xa xb:List St) (m:Bool) (hn:xa.length≤30):lQ xa xb m=some (match xa with | []=>false | x :: xs=>!(x.2||!shp xa xb||(m&&xs.any (fun z=>!z.2)))):=by
 unfold lQ
 cases xa with
 | nil=>rfl
 | cons x xs =>
   have e0:decide ((((x :: xs).length:Nat):Int)=0)=false:=by simp; omega
   rw [e0,cond_false,show aa (x :: xs) 0=some x from rfl,Option.bind_some,Option.bind_some]
   cases hx:x.2 with
   | true=>simp [hx]
   | false =>
     rw [cond_false,im _ _ (by omega),Option.bind_some,Option.bind_some]
     cases hs:shp (x :: xs) xb with
     | false=>simp
     | true =>
       rw [Bool.not_true,cond_false,gz (by simp),Option.bind_some]
       unfold pL pM
       rw [cP (List.drop 1 (x :: xs)) (fun z:St=>!z.2) (fun k => .inr (k:Int)) (.inl ()) ?_ ?_]
       . simp only [List.drop_succ_cons,List.drop_zero]
         cases h:xs.findIdx? (fun z:St=>!z.2) with
         | none =>
           have:xs.any (fun z:St=>!z.2)=false:=by
             rw [List.any_eq_false]; intro z hz; have:=List.findIdx?_eq_none_iff.1 h z hz; simpa using this
           simp [this,hx]
         | some k =>
           obtain ⟨hk,h1,_⟩:=List.findIdx?_eq_some_iff_getElem.1 h
           have:xs.any (fun z:St=>!z.2)=true:=List.any_eq_true.2 ⟨_,List.getElem_mem hk,h1⟩
           simp [this,hx]
       . intro k h
         unfold pK pZ
         simp only [List.drop_succ_cons,List.drop_zero] at h ⊢
         have hn':xs.length≤30:=by simp at hn; omega
         cases hz:xs[k].2 <;> simp [ah h,h,aq h (by omega),hz]
       . simp [pK]
theorem By (xa xb:List St) (n:Int) (m:Bool) (hn:xa.length≤30):mJ xa xb n m=some (ag n m xa xb):=by
 unfold mJ
 rw [FZ _ _ _ hn,Option.bind_some]
 cases xa with
 | nil=>rfl
 | cons x xs =>
   simp only [ag,Bool.not_not]
   by_cases hc:(x.2||!shp (x :: xs) xb||(m&&xs.any (fun z=>!z.2)))=true
   . rw [hc]; cases xb <;> simp_all
   . have hc':(x.2||!shp (x :: xs) xb||(m&&xs.any (fun z=>!z.2)))=false:=by simpa using hc
     have hs:shp (x :: xs) xb=true:=by
       cases q:shp (x :: xs) xb with
       | true=>rfl
       | false=>rw [q] at hc'; simp at hc'
     have hl:=kI hs
     cases xb with
     | nil=>simp at hl
     | cons y ys =>
       simp only [hc',cond_false,if_false,show aa (x :: xs) 0=some x from rfl,show aa (y :: ys) 0=some y from rfl,Option.bind_some,gz (show 1≤(x :: xs).length by simp),gz (show 1≤(y :: ys).length by simp),List.drop_succ_cons,List.drop_zero,Bool.false_eq_true]
       have hl2:xs.length=ys.length:=by simpa using hl
       rw [qD,ip _ _ _ _ hl2 (by simp at hn; omega) (by omega) (by omega) _ (by simp),Option.bind_some]
       have:=cw 1 xs ys 1
       simp at hn
       rw [aM (by simp; omega)]
       simp
theorem BC (xa xb:List St) (n:Int) (m:Bool) (hn:xa.length≤30):qq xa xb n m=some (ag n m xa xb):=by
 unfold qq
 cases xa with
 | nil=>rfl
 | cons x xs =>
   have e0:decide ((((x :: xs).length:Nat):Int)=0)=false:=by simp; omega
   rw [e0,cond_false,qU _ _ (by omega),Option.bind_some,Option.bind_some]
   cases hs:shp (x :: xs) xb with
   | false=>cases xb <;> simp [ag,hs]
   | true =>
     have hl:=kI hs
     cases xb with
     | nil=>simp at hl
     | cons y ys =>
       have hl2:xs.length=ys.length:=by simpa using hl
       simp only [Bool.not_true,cond_false,show aa (x :: xs) 0=some x from rfl,show aa (y :: ys) 0=some y from rfl,Option.bind_some]
       cases hx:x.2 with
       | true=>simp [ag,hx]
       | false =>
         have hn':xs.length≤29:=by simp at hn; omega
         have hloop:loop (gS (x :: xs) m) 1=some (if (m&&xs.any (fun z=>!z.2)) then .inr ([],8) else .inl ()):=by
           have:=DN (body:=gS (x :: xs) m) (fun k=>(m&&(xs[k]?.any (fun z=>!z.2)))=true) (fun k=>((k + 1:Nat):Int)) xs.length (.inr ([],8)) (.inl ()) ?_ ?_ ?_
           . rw [show ((1:Int))=((0 + 1:Nat):Int) from rfl,this]
             congr 1
             by_cases hq:(m&&xs.any (fun z=>!z.2))=true
             . rw [if_pos hq,if_pos]
               simp only [Bool.and_eq_true] at hq
               obtain ⟨z,hz,hz2⟩:=List.any_eq_true.1 hq.2
               obtain ⟨k,hk,rfl⟩:=List.getElem_of_mem hz
               exact ⟨k,hk,by simp [hq.1,hk]; simpa using hz2⟩
             . rw [if_neg hq,if_neg]
               rintro ⟨k,hk,hk2⟩
               apply hq
               simp [hk] at hk2
               rw [hk2.1,Bool.true_and]
               exact List.any_eq_true.2 ⟨_,List.getElem_mem hk,by simpa using hk2.2⟩
           . intro k hk hp
             have h2:k + 1 < (x :: xs).length:=by simp; omega
             simp [hk] at hp
             unfold gS
             rw [dlt h2,cond_true,aq h2 (by simp; omega)]
             cases m with
             | false=>simp
             | true=>simp [zt h2,hp rfl]
           . intro k hk hp
             have h2:k + 1 < (x :: xs).length:=by simp; omega
             simp [hk] at hp
             unfold gS
             rw [dlt h2,cond_true]
             simp [zt h2,hp.1,hp.2]
           . simp [gS]
         rw [hloop]
         by_cases hq:(m&&xs.any (fun z=>!z.2))=true
         . simp [ag,hx,hs,hq]
         . have hq':(m&&xs.any (fun z=>!z.2))=false:=by simpa using hq
           rw [hq']
           simp only [cond_false,Option.bind_some,if_false,gz (show 1≤(x :: xs).length by simp),gz (show 1≤(y :: ys).length by simp),List.drop_succ_cons,List.drop_zero,Bool.false_eq_true]
           rw [ip _ _ _ _ hl2 (by omega) (by omega) (by omega) _ (by simp)]
           simp [ag,hx,hs,hq']
theorem DK (n:Int) (m:Bool) (xa xb:List St) (h:xa.length≤30):(lo n m xa xb).1.length≤100:=by
 unfold lo
 have:=cw 1 xa (xb.drop 1) 1
 simp at this
 split <;> simp; omega
theorem DS (n:Int) (m:Bool) (xa xb:List St) (h:xa.length≤30):(ag n m xa xb).1.length≤100:=by
 unfold ag
 split
 . rename_i x xs y ys
   have:=cw 1 xs ys 1
   simp at h
   split <;> simp; omega
 . simp
abbrev Sg:=Int×List (Int×Int)×List (List St)×List St
def bV (n:Int) (b:Int×Int):Bool:=(((decide (b.1 < 0))||(decide (n≤b.1)))||(decide (b.2 < 0)))||(decide (n≤b.2))
def lc (n:Int) (A:List (List St)):Unit⊕Int:=match A.findIdx? (fun t=>!decide (rck n t=0)) with | some k => .inr (rck n (A.getD k [])) | none => .inl ()
def chk (s:Sg):Int :=
 if s.1 < 0 then 7 else if 16 < s.1∨16 < s.2.1.length∨16 < s.2.2.1.length then 6 else if s.2.1.any (bV s.1) then 7
 else match lc s.1 s.2.2.1 with | .inr e=>e | .inl ()=>rck s.1 s.2.2.2
theorem xJ (a:Int) (b c:Nat):(((decide (16 < a))||(decide (16 < ((b:Nat):Int))))||(decide (16 < ((c:Nat):Int))))=decide (16 < a∨16 < b∨16 < c):=by
 by_cases h1:16 < a <;> by_cases h2:16 < b <;> by_cases h3:16 < c <;> simp [h1,h2,h3] <;> omega
theorem zO {n:Int} {A:List (List St)} {body:Int→Option (Int⊕(Unit⊕Int))} (hn:A.length≤1000) (hb:∀ (k:Nat) (h:k < A.length),body (k:Int)=cond (!decide (rck n A[k]=0)) (some (.inr (.inr (rck n A[k])))) (some (.inl (IntKind.wrap .i64 ((k:Int) + 1))))) (he:body (A.length:Int)=some (.inr (.inl ()))):loop body 0=some (lc n A):=by
 rw [cP A (fun t=>!decide (rck n t=0)) (fun k => .inr (rck n (A.getD k []))) (.inl ()) ?_ he]
 . rfl
 . intro k hk
   rw [hb k hk,aq hk (by omega:A.length≤9223372036854775807)]
   have:A.getD k []=A[k]:=by simp [List.getD,hk]
   rw [this]
   cases (!decide (rck n A[k]=0)) <;> rfl
theorem u9 (s:Sg) (hr:s.2.2.2.length≤1000) (ha:∀ t∈s.2.2.1,t.length≤1000):ep s=some (chk s):=by
 obtain ⟨n,B,A,R⟩:=s
 unfold ep chk
 dsimp only at *
 by_cases h0:n < 0
 . rw [decide_eq_true h0,if_pos h0]; rfl
 . rw [decide_eq_false h0,if_neg h0,cond_false,xJ]
   by_cases h1:16 < n∨16 < B.length∨16 < A.length
   . rw [decide_eq_true h1,if_pos h1]; rfl
   . rw [decide_eq_false h1,if_neg h1,cond_false]
     rw [fS (body:=mL (n,B,A,R)) B (bV n) (.inr 7) (.inl ()) ?_ ?_]
     . cases hb:B.any (bV n) with
       | true=>rfl
       | false =>
         simp only [Bool.false_eq_true,if_false,Option.bind_some]
         rw [zO (body:=mP (n,B,A,R)) (n:=n) (A:=A) (by omega) ?_ ?_]
         . rw [qO R n (by omega)]
           simp only [Option.bind_some]
           cases lc n A <;> rfl
         . intro k hk
           unfold mP
           have:=ha A[k] (List.getElem_mem hk)
           simp only [dlt hk,cond_true,ah hk,Option.bind_some]
           rw [qO _ _ (by omega),Option.bind_some]
         . simp [mP]
     . intro k hk
       unfold mL lT
       simp only [dlt hk,cond_true,ah hk,Option.bind_some,aq hk (by omega:B.length≤9223372036854775807)]
       generalize B[k]=b
       obtain ⟨b1,b2⟩:=b
       have e (x:Int):(!((decide (0≤x))&&(decide (x < n))))=(decide (x < 0)||decide (n≤x)):=by
         by_cases p:x < 0 <;> by_cases q:n≤x <;> simp [p,q] <;> omega
       simp only [e,bV]
       by_cases p1:b1 < 0 <;> by_cases p2:n≤b1 <;> by_cases p3:b2 < 0 <;> by_cases p4:n≤b2 <;> simp [p1,p2,p3,p4]
     . simp [mL]
theorem Bs (s:Sg):mY s=some (chk s):=by
 obtain ⟨n,B,A,R⟩:=s
 unfold mY chk
 dsimp only at *
 by_cases h0:n < 0
 . rw [decide_eq_true h0,if_pos h0]; rfl
 . rw [decide_eq_false h0,if_neg h0,cond_false,xJ]
   by_cases h1:16 < n∨16 < B.length∨16 < A.length
   . rw [decide_eq_true h1,if_pos h1]; rfl
   . rw [decide_eq_false h1,if_neg h1,cond_false]
     rw [fS (body:=mA (n,B,A,R)) B (bV n) (.inr 7) (.inl ()) ?_ ?_]
     . cases hb:B.any (bV n) with
       | true=>rfl
       | false =>
         simp only [Bool.false_eq_true,if_false,Option.bind_some]
         rw [zO (body:=mq (n,B,A,R)) (n:=n) (A:=A) (by omega) ?_ ?_]
         . rw [vh R n]
           simp only [Option.bind_some]
           cases lc n A <;> rfl
         . intro k hk
           unfold mq
           simp only [dlt hk,cond_true,ah hk,Option.bind_some]
           rw [vh _ _,Option.bind_some]
         . simp [mq]
     . intro k hk
       unfold mA
       simp only [dlt hk,cond_true,ah hk,Option.bind_some,aq hk (by omega:B.length≤9223372036854775807)]
       generalize B[k]=b
       show cond (bV n b) _ _=_
       cases bV n b <;> rfl
     . simp [mA]
theorem rK {n:Int} {t:List St} (h:rck n t=0):t.length≤16∧rin n t=false:=by
 unfold rck at h
 by_cases q:16 < t.length
 . rw [if_pos q] at h; cases h
 . rw [if_neg q] at h
   cases hr:rin n t with
   | true=>rw [hr] at h; cases h
   | false=>exact ⟨by omega,rfl⟩
theorem wr {s:Sg} (h:chk s=0):0≤s.1∧s.1≤16∧s.2.1.length≤16∧s.2.2.1.length≤16∧(∀ b∈s.2.1,bV s.1 b=false)∧(∀ t∈s.2.2.1,t.length≤16∧rin s.1 t=false)∧s.2.2.2.length≤16∧rin s.1 s.2.2.2=false:=by
 unfold chk at h
 by_cases h0:s.1 < 0
 . rw [if_pos h0] at h; cases h
 . rw [if_neg h0] at h
   by_cases h1:16 < s.1∨16 < s.2.1.length∨16 < s.2.2.1.length
   . rw [if_pos h1] at h; cases h
   . rw [if_neg h1] at h
     cases hb:s.2.1.any (bV s.1) with
     | true=>rw [hb] at h; cases h
     | false =>
       rw [hb] at h
       simp only [Bool.false_eq_true,if_false] at h
       unfold lc at h
       cases hf:s.2.2.1.findIdx? (fun t=>!decide (rck s.1 t=0)) with
       | some k =>
         rw [hf] at h
         obtain ⟨hk,h2,_⟩:=List.findIdx?_eq_some_iff_getElem.1 hf
         have:s.2.2.1.getD k []=s.2.2.1[k]:=by simp [List.getD,hk]
         simp only [this] at h
         simp [h] at h2
       | none =>
         rw [hf] at h
         have hz:=List.findIdx?_eq_none_iff.1 hf
         refine ⟨by omega,by omega,by omega,by omega,fun b hb2=>?_,fun t ht=>rK (by simpa using hz t ht),(rK h).1,(rK h).2⟩
         have:=List.any_eq_false.1 hb b hb2
         simpa using this
theorem nV (names:List Int) (xs ys:List St):shp xs (ys.map (sbs names))=shp xs ys:=by
 unfold shp; rw [List.map_map]; rfl
theorem wJ (names:List Int) (xs ys:List St):shp (xs.map (sbs names)) ys=shp xs ys:=by
 rw [iz,nV,iz]
def mis (A C:List (List St)) (k:Nat):Bool:=!shp (C.getD k []) (A.getD k [])
def fl (names:List Int) (A C:List (List St)) (j:Nat):List Nd:=rel 5 (16 * (j:Int)) (C.getD j []) ((A.getD j []).map (sbs names))
def fls (names:List Int) (A C:List (List St)):Nat→List Nd
 | 0=>[]
 | k + 1=>fls names A C k++fl names A C k
theorem iJ (names:List Int) (A C:List (List St)) (hc:∀ t∈C,t.length≤20):∀ k,(fls names A C k).length≤40 * k
 | 0=>by simp [fls]
 | k + 1=>by
   have ih:=iJ names A C hc k
   have h1:=cw 5 (C.getD k []) ((A.getD k []).map (sbs names)) (16 * (k:Int))
   have h2:(C.getD k []).length≤20:=by
     by_cases h:k < C.length
     . have:C.getD k []=C[k]:=by simp [List.getD,h]
       rw [this]; exact hc _ (List.getElem_mem h)
     . have:C.getD k []=[]:=by simp [List.getD,List.getElem?_eq_none (Nat.not_lt.1 h)]
       rw [this]; simp
   simp only [fls,List.length_append,fl]
   omega
def bds (names:List Int) (B:List (Int×Int)):Nat→List Nd
 | 0=>[]
 | k + 1=>bds names B k++[(names.getD (B.getD k (0,0)).1.toNat 0,names.getD (B.getD k (0,0)).2.toNat 0,4,(k:Int),false)]
theorem iH (names:List Int) (B:List (Int×Int)):∀ k,(bds names B k).length=k
 | 0=>rfl
 | k + 1=>by simp [bds,iH names B k]
def csp (s:Sg) (names:List Int) (C:List (List St)) (D:List St):List Nd×Int :=
 if chk s≠0 then ([],chk s)
 else if ¬ (names.length:Int)=s.1∨¬ C.length=s.2.2.1.length then ([],2)
 else if (List.range s.2.2.1.length).any (mis s.2.2.1 C) then ([],8)
 else if shp D s.2.2.2 then (bds names s.2.1 s.2.1.length++fls names s.2.2.1 C s.2.2.1.length++rel 6 0 (s.2.2.2.map (sbs names)) D,0) else ([],8)
theorem u7 {names:List Int} {n:Int} {B:List (Int×Int)} {body:(List Nd×Int)→Option ((List Nd×Int)⊕List Nd)} (hB:B.length≤16) (hn:(names.length:Int)=n) (hb:∀ b∈B,bV n b=false)
   (hgo:∀ (l:List Nd) (k:Nat) (h:k < B.length),body (l,(k:Int))=((aa names B[k].1).bind fun x=>(aa names B[k].2).bind fun y=>(app l [(x,y,4,(k:Int),false)]).bind fun z=>some (.inl (z,IntKind.wrap .i64 ((k:Int) + 1))))) (he:∀ l,body (l,(B.length:Int))=some (.inr l)) :
   loop body ([],0)=some (bds names B B.length):=by
 refine aQ (body:=body) (fun k=>(bds names B k,(k:Int))) B.length ?_ (he _)
 intro k hk
 have h1:=hb B[k] (List.getElem_mem hk)
 have e:B.getD k (0,0)=B[k]:=by simp [List.getD,hk]
 unfold bV at h1
 simp at h1
 rw [hgo _ k hk,oc (by omega) (by omega),Option.bind_some,oc (by omega) (by omega),Option.bind_some,aM (by simp [iH]; omega),Option.bind_some,aq hk (by omega)]
 simp only [bds,e]
theorem kP {names:List Int} {n:Int} {t:List St} (hn:(names.length:Int)=n) (h:rin n t=false):rin names.length t=false:=by rw [hn]; exact h
theorem BY (s:Sg) (names:List Int) (C:List (List St)) (D:List St) (hr:s.2.2.2.length≤20) (ha:∀ t∈s.2.2.1,t.length≤20) (hC:∀ t∈C,t.length≤20) (hD:D.length≤20) :
   kv s names C D=some (csp s names C D):=by
 have hck:=u9 s (by omega) (fun t ht=>by have:=ha t ht; omega)
 unfold kv qp csp
 rw [show ep (s.1,s.2.1,s.2.2.1,s.2.2.2)=some (chk s) from hck]
 obtain ⟨n,B,A,R⟩:=s
 dsimp only at *
 by_cases h0:chk (n,B,A,R)=0
 . obtain ⟨n0, n1, hB, hA, hb, hat, hR, hrin⟩ := wr h0
   dsimp only at n0 n1 hB hA hb hat hR hrin
   simp only [h0,Option.bind_some,decide_true,Bool.not_true,cond_false,ne_eq,not_true_eq_false,if_false]
   by_cases h1:¬ (names.length:Int)=n∨¬ C.length=A.length
   . have:((!decide ((((names.length:Nat):Int))=n))||(!decide ((((C.length:Nat):Int))=(((A.length:Nat):Int)))))=true:=by simp; omega
     rw [this,if_pos h1]; rfl
   . have:((!decide ((((names.length:Nat):Int))=n))||(!decide ((((C.length:Nat):Int))=(((A.length:Nat):Int)))))=false:=by simp; omega
     rw [this,if_neg h1,cond_false]
     have hn:(names.length:Int)=n:=by omega
     have hl:C.length=A.length:=by omega
     rw [fS (body:=ml (n,B,A,R) C) (List.range A.length) (mis A C) (.inr 8) (.inl ()) ?_ ?_]
     . cases hm:(List.range A.length).any (mis A C) with
       | true=>rfl
       | false =>
         simp only [Bool.false_eq_true,if_false,Option.bind_some]
         rw [im D R (by omega)]
         cases hs:shp D R with
         | false=>rfl
         | true =>
           simp only [Option.bind_some,Bool.not_true,cond_false,decide_true,if_true]
           rw [u7 (body:=mS (n,B,A,R) names) hB hn hb ?_ ?_]
           . simp only [Option.bind_some]
             have hfl:=aQ (body:=ke (n,B,A,R) names C) (fun k=>(bds names B B.length++fls names A C k,(k:Int))) A.length (b:=bds names B B.length++fls names A C A.length) ?_ ?_
             . have hfl':loop (ke (n,B,A,R) names C) (bds names B B.length,0)=some (bds names B B.length++fls names A C A.length):=by
                 have e0:(bds names B B.length,(0:Int))=(bds names B B.length++fls names A C 0,((0:Nat):Int)):=by simp [fls]
                 rw [e0]; exact hfl
               have q1:=iJ names A C hC A.length
               have q2:=iH names B B.length
               have q3:=cw 6 (R.map (sbs names)) D 0
               rw [List.length_map] at q3
               rw [hfl',Option.bind_some,vc R names (by omega),kP hn hrin]
               simp only [Bool.false_eq_true,if_false,Option.bind_some]
               rw [ni _ _ _ _ (by simp; omega) (by omega) (by omega),wJ,iz,hs]
               simp only [if_true,Option.bind_some]
               rw [aM (by simp only [List.length_append]; omega)]
               rfl
             . intro k hk
               have hkC:k < C.length:=by omega
               have ht:=hat A[k] (List.getElem_mem hk)
               have hc:=hC C[k] (List.getElem_mem hkC)
               have e1:A.getD k []=A[k]:=by simp [List.getD,hk]
               have e2:C.getD k []=C[k]:=by simp [List.getD,hkC]
               have hsh:shp C[k] A[k]=true:=by
                 have:=List.any_eq_false.1 hm k (List.mem_range.2 hk)
                 unfold mis at this
                 rw [e1,e2] at this
                 simpa using this
               have q1:=iJ names A C hC k
               have q2:=iH names B B.length
               have q3:=cw 5 C[k] (A[k].map (sbs names)) (16 * (k:Int))
               unfold ke
               simp only [dlt hk,cond_true,ah hk,Option.bind_some]
               rw [vc _ names (by omega),kP hn ht.2]
               simp only [Bool.false_eq_true,if_false,Option.bind_some,ah hkC]
               rw [w64 (x:=16 * (k:Int)) (by omega) (by omega),ni _ _ _ _ (by omega) (by omega) (by omega),nV,hsh]
               simp only [if_true,Option.bind_some]
               rw [aM (by simp only [List.length_append]; omega),Option.bind_some,aq hk (by omega)]
               simp only [fls,fl,e1,e2,List.append_assoc]
             . simp [ke]
           . intro l k hk
             unfold mS
             simp only [dlt hk,cond_true,ah hk,Option.bind_some]
           . intro l; simp [mS]
     . intro k hk
       simp only [List.length_range] at hk
       have hkC:k < C.length:=by omega
       have e1:A.getD k []=A[k]:=by simp [List.getD,hk]
       have e2:C.getD k []=C[k]:=by simp [List.getD,hkC]
       have hc:=hC C[k] (List.getElem_mem hkC)
       unfold ml
       simp only [dlt hk,cond_true,ah hk,ah hkC,Option.bind_some,List.getElem_range,mis,e1,e2,aq hk (by omega:A.length≤9223372036854775807)]
       rw [im _ _ (by omega),Option.bind_some]
       cases shp C[k] A[k] <;> rfl
     . simp [ml]
 . simp [h0]
theorem B8 (s:Sg) (names:List Int) (C:List (List St)) (D:List St) (hr:s.2.2.2.length≤20) (ha:∀ t∈s.2.2.1,t.length≤20) (hC:∀ t∈C,t.length≤20) (hD:D.length≤20) :
   m5 s names C D=some (csp s names C D):=by
 unfold m5 csp
 rw [show mY (s.1,s.2.1,s.2.2.1,s.2.2.2)=some (chk s) from Bs s]
 obtain ⟨n,B,A,R⟩:=s
 dsimp only at *
 by_cases h0:chk (n,B,A,R)=0
 . obtain ⟨n0,n1,hB,hA,hb,hat,hR,hrin⟩:=wr h0
   dsimp only at n0 n1 hB hA hb hat hR hrin
   simp only [h0,Option.bind_some,decide_true,Bool.not_true,cond_false,ne_eq,not_true_eq_false,if_false]
   by_cases h1:¬ (names.length:Int)=n∨¬ C.length=A.length
   . have:((!decide ((((names.length:Nat):Int))=n))||(!decide ((((C.length:Nat):Int))=(((A.length:Nat):Int)))))=true:=by simp; omega
     rw [this,if_pos h1]; rfl
   . have:((!decide ((((names.length:Nat):Int))=n))||(!decide ((((C.length:Nat):Int))=(((A.length:Nat):Int)))))=false:=by simp; omega
     rw [this,if_neg h1,cond_false]
     have hn:(names.length:Int)=n:=by omega
     have hl:C.length=A.length:=by omega
     rw [u7 (body:=mD (n,B,A,R) names) hB hn hb ?_ ?_]
     . simp only [Option.bind_some]
       have q2:=iH names B B.length
       have hfl:=iu (body:=j4 (n,B,A,R) names C) (fun k=>mis A C k=true) (fun k=>(bds names B B.length++fls names A C k,(k:Int))) A.length (fun _ => .inr ([],8)) (.inl (bds names B B.length++fls names A C A.length)) ?_ ?_ ?_
       . have e0:(bds names B B.length,(0:Int))=(bds names B B.length++fls names A C 0,((0:Nat):Int)):=by simp [fls]
         rw [e0]
         rcases hfl with ⟨k,k1,k2,_,k3⟩ | ⟨k1,k3⟩
         . have:(List.range A.length).any (mis A C)=true:=List.any_eq_true.2 ⟨k,List.mem_range.2 k1,k2⟩
           rw [k3,this]; rfl
         . have:(List.range A.length).any (mis A C)=false:=by
             rw [List.any_eq_false]; intro k hk; exact k1 k (List.mem_range.1 hk)
           rw [k3,this]
           have q1:=iJ names A C hC A.length
           have q3:=cw 6 (R.map (sbs names)) D 0
           rw [List.length_map] at q3
           simp only [Option.bind_some,Bool.false_eq_true,if_false]
           rw [qP R names (by omega),kP hn hrin]
           simp only [Bool.false_eq_true,if_false,Option.bind_some]
           rw [io _ _ _ _ (by simp; omega) (by omega) (by omega),wJ,iz]
           cases hs:shp D R with
           | false=>rfl
           | true =>
             simp only [if_true,Option.bind_some,decide_true,Bool.not_true,cond_false]
             rw [aM (by simp only [List.length_append]; omega)]
             rfl
       . intro k hk hp
         have hkC:k < C.length:=by omega
         have ht:=hat A[k] (List.getElem_mem hk)
         have hc:=hC C[k] (List.getElem_mem hkC)
         have e1:A.getD k []=A[k]:=by simp [List.getD,hk]
         have e2:C.getD k []=C[k]:=by simp [List.getD,hkC]
         have hsh:shp C[k] A[k]=true:=by
           unfold mis at hp
           rw [e1,e2] at hp
           simpa using hp
         have q1:=iJ names A C hC k
         have q3:=cw 5 C[k] (A[k].map (sbs names)) (16 * (k:Int))
         unfold j4
         simp only [dlt hk,cond_true,ah hk,Option.bind_some]
         rw [qP _ names (by omega),kP hn ht.2]
         simp only [Bool.false_eq_true,if_false,Option.bind_some,ah hkC]
         rw [w64 (x:=16 * (k:Int)) (by omega) (by omega),io _ _ _ _ (by omega) (by omega) (by omega),nV,hsh]
         simp only [if_true,Option.bind_some,decide_true,Bool.not_true,cond_false]
         rw [aM (by simp only [List.length_append]; omega),Option.bind_some,aq hk (by omega)]
         simp only [fls,fl,e1,e2,List.append_assoc]
       . intro k hk hp
         have hkC:k < C.length:=by omega
         have ht:=hat A[k] (List.getElem_mem hk)
         have hc:=hC C[k] (List.getElem_mem hkC)
         have e1:A.getD k []=A[k]:=by simp [List.getD,hk]
         have e2:C.getD k []=C[k]:=by simp [List.getD,hkC]
         have hsh:shp C[k] A[k]=false:=by
           unfold mis at hp
           rw [e1,e2] at hp
           simpa using hp
         unfold j4
         simp only [dlt hk,cond_true,ah hk,Option.bind_some]
         rw [qP _ names (by omega),kP hn ht.2]
         simp only [Bool.false_eq_true,if_false,Option.bind_some,ah hkC]
         rw [w64 (x:=16 * (k:Int)) (by omega) (by omega),io _ _ _ _ (by omega) (by omega) (by omega),nV,hsh]
         rfl
       . simp [j4]
     . intro l k hk
       unfold mD
       simp only [dlt hk,cond_true,ah hk,Option.bind_some]
     . intro l; simp [mD]
 . simp [h0]
theorem Fb (s:Sg) (names:List Int) (C:List (List St)) (D:List St) (hs:s.2.1.length≤20∧s.2.2.1.length≤20∧s.2.2.2.length≤20) (hC:∀ t∈C,t.length≤20):(csp s names C D).1.length≤1000000:=by
 have q1:=iJ names s.2.2.1 C hC s.2.2.1.length
 have q2:=iH names s.2.1 s.2.1.length
 have q3:=cw 6 (s.2.2.2.map (sbs names)) D 0
 rw [List.length_map] at q3
 unfold csp
 split
 . simp
 . split
   . simp
   . split
     . simp
     . split
       . simp only [List.length_append]; omega
       . simp
abbrev Stm:=Int×Int×Int×Int×Bool
def aY (k:Int):Bool:=(((decide (k=1))||(decide (k=2)))||(decide (k=3)))||(decide (k=5))
def aZ (k:Int):Bool:=(decide (1≤k))&&(decide (k≤4))
def bN (k:Int):Bool:=(decide (k=2))||(decide (k=3))
def fOk (x:Stm):Bool:=decide (0≤x.1)&&decide (x.1≤5)&&(aY x.1||decide (x.2.1=0))&&(aZ x.1||decide (x.2.2.1=0))&&(bN x.1||(decide (x.2.2.2.1=0)&&!x.2.2.2.2))
theorem six {k:Int} (h:decide (0≤k)&&decide (k≤5)):k=0∨k=1∨k=2∨k=3∨k=4∨k=5:=by simp at h; omega
theorem BG (k:Int):mE k=some (if decide (0≤k)&&decide (k≤5) then (aY k,aZ k,bN k,true) else (false,false,false,false)):=by
 by_cases h:(decide (0≤k)&&decide (k≤5))=true
 . rcases six h with rfl | rfl | rfl | rfl | rfl | rfl <;> rfl
 . rw [if_neg h]
   have h':k < 0∨5 < k:=by simp at h; omega
   have e (j:Int) (h0:0≤j) (h5:j≤5):decide (k=j)=false:=by simp; omega
   unfold mE
   simp only [e 0 (by omega) (by omega),e 1 (by omega) (by omega),e 2 (by omega) (by omega),e 3 (by omega) (by omega),e 4 (by omega) (by omega),e 5 (by omega) (by omega),cond_false,Option.bind_some]
theorem nk (x:Stm):ic x=some (fOk x):=by
 obtain ⟨k,d,s,r,m⟩:=x
 have h1:ie k=some (aY k):=rfl
 have h2:ig k=some (aZ k):=rfl
 have h3:j6 k=some (bN k):=rfl
 unfold ic fOk
 simp only [h1,h2,h3,Option.bind_some]
 cases (decide (0≤k)&&decide (k≤5)) <;> simp
 cases (aY k||decide (d=0)) <;> simp
 cases (aZ k||decide (s=0)) <;> simp
theorem Ez (x:Stm):m6 x=some (if fOk x then (aY x.1,aZ x.1,bN x.1,0) else (false,false,false,3)):=by
 obtain ⟨k,d,s,r,m⟩:=x
 unfold m6
 rw [BG]
 by_cases h:(decide (0≤k)&&decide (k≤5))=true
 . simp only [h,if_true,Option.bind_some,Bool.not_true,cond_false]
   have ho:na (k,d,s,r,m) (aY k,aZ k,bN k)=some (k,if aY k then d else 0,if aZ k then s else 0,if bN k then r else 0,if bN k then m else false):=by
     unfold na
     cases aY k <;> cases aZ k <;> cases bN k <;> rfl
   rw [ho,Option.bind_some]
   unfold fOk
   simp only [h,Bool.true_and]
   cases aY k <;> cases aZ k <;> cases bN k <;> simp
   all_goals (by_cases q1:d=0 <;> by_cases q2:s=0 <;> by_cases q3:r=0 <;> cases m <;> simp [q1,q2,q3])
 . have h':(decide (0≤k)&&decide (k≤5))=false:=by simpa using h
   unfold fOk
   simp [h']
def loc (xb:List (List St)) (d:Int):Bool:=decide (0≤d)&&decide (d < ((xb.length:Nat):Int))
theorem xG (xb:List (List St)) (d:Int):(decide (d < 0)||decide (((xb.length:Nat):Int)≤d)) = !loc xb d:=by
 unfold loc
 by_cases h1:d < 0 <;> by_cases h2:((xb.length:Nat):Int)≤d <;> simp [h1,h2] <;> omega
theorem iR {xb:List (List St)} {d:Int} (h:loc xb d=true) (hb:∀ t∈xb,t.length≤20):∃ t:List St,aa xb d=some t∧t.length≤20:=by
 unfold loc at h
 simp at h
 exact ⟨_,px h.1 h.2,hb _ (List.getElem_mem _)⟩
def Gd (R:Int) (n:Nd):Prop:=(0≤n.1∧n.1 < R)∧(0≤n.2.1∧n.2.1 < R)∧(1≤n.2.2.1∧n.2.2.1≤7)∧(0≤n.2.2.2.1∧n.2.2.2.1≤1000000)
theorem dp {R:Int} {t:List St} (h:rin R t=false) {x:St} (hx:x∈t):0≤x.1∧x.1 < R:=by
 have:=List.any_eq_false.1 h x hx
 simp at this; omega
theorem iS {R:Int} {t:List St} (h:∀ x∈t,0≤x.1∧x.1 < R):rin R t=false:=by
 unfold rin
 rw [List.any_eq_false]
 intro x hx
 have:=h x hx
 simp; omega
theorem fV {R kind:Int} (hk:1≤kind∧kind≤7):∀ (xs ys:List St) (f:Int),0≤f→f + (xs.length:Int)≤1000000→rin R xs=false→rin R ys=false→∀ n∈rel kind f xs ys,Gd R n
 | x :: xs,y :: ys,f,h0,h1,hx,hy,n,hn=>by
   have a1:=dp hx (x:=x) (by simp)
   have a2:=dp hy (x:=y) (by simp)
   simp only [List.length_cons] at h1
   simp only [rel,List.mem_append] at hn
   rcases hn with hn | hn
   . unfold jd at hn
     rcases List.mem_cons.1 hn with rfl | hn
     . exact ⟨a1,a2,hk,h0,by show f≤_; omega⟩
     . split at hn
       . rcases List.mem_cons.1 hn with rfl | hn
         . exact ⟨a2,a1,hk,h0,by show f≤_; omega⟩
         . simp at hn
       . simp at hn
   . exact fV hk xs ys (f + 1) (by omega) (by omega) (iS fun z hz=>dp hx (by simp [hz])) (iS fun z hz=>dp hy (by simp [hz])) n hn
 | [],_,_,_,_,_,_,n,hn=>by simp [rel] at hn
 | _ :: _,[],_,_,_,_,_,n,hn=>by simp [rel] at hn
theorem FE {R r:Int} {m:Bool} {xa xb:List St} (hr:0≤r∧r < R) (hl:xa.length≤30) (hx:rin R xa=false) (hy:rin R xb=false):∀ n∈(lo r m xa xb).1,Gd R n:=by
 intro n hn
 unfold lo at hn
 split at hn
 . rename_i hs
   have:=sR hs
   cases xb with
   | nil=>simp at this
   | cons y ys =>
     rcases List.mem_cons.1 hn with rfl | hn
     . exact ⟨hr,dp hy (x:=y) (by simp),by simp,by simp⟩
     . exact fV (by decide) xa _ 1 (by omega) (by omega) hx (iS fun z hz=>dp hy (List.mem_of_mem_drop hz)) n hn
 . simp at hn
theorem EC {R r:Int} {m:Bool} {xa xb:List St} (hr:0≤r∧r < R) (hl:xa.length≤30) (hx:rin R xa=false) (hy:rin R xb=false):∀ n∈(ag r m xa xb).1,Gd R n:=by
 intro n hn
 unfold ag at hn
 split at hn
 . split at hn
   . simp at hn
   . rename_i x xs y ys _
     simp only [List.length_cons] at hl
     rcases List.mem_cons.1 hn with rfl | hn
     . exact ⟨dp hx (by simp),hr,by simp,by simp⟩
     . rcases List.mem_cons.1 hn with rfl | hn
       . exact ⟨hr,dp hy (by simp),by simp,by simp⟩
       . exact fV (by decide) xs ys 1 (by omega) (by omega) (iS fun z hz=>dp hx (by simp [hz])) (iS fun z hz=>dp hy (by simp [hz])) n hn
 . simp at hn
theorem iA {α:Type} {l:List α} {i:Int} {x:α} (h:aa l i=some x):x∈l:=List.mem_of_getElem? (dj h).2.1
theorem Bq (x:Stm) (xb:List (List St)) (xc:Int) (hb:∀ t∈xb,t.length≤20):∃ l e,hY x xb xc=some (l,e)∧dL x xb xc=some (l,e)∧l.length≤1000∧((∀ t∈xb,rin xc t=false)→∀ n∈l,Gd xc n):=by
 obtain ⟨k,d,s,r,m⟩:=x
 unfold hY dL
 have g1:ie k=some (aY k):=rfl
 have g2:ig k=some (aZ k):=rfl
 have g3:j6 k=some (bN k):=rfl
 have g4 (d:Int):lW d xb=some (loc xb d):=rfl
 simp only [Ez,nk,Option.bind_some,g1,g2,g3,g4,xG]
 cases hf:fOk (k,d,s,r,m) with
 | false=>exact ⟨[],3,rfl,rfl,by simp,by simp⟩
 | true =>
   have hk:k=0∨k=1∨k=2∨k=3∨k=4∨k=5:=by
     unfold fOk at hf
     simp only [Bool.and_eq_true] at hf
     exact six (by simpa using hf.1.1.1)
   have bad:∃ l e,(some (([]:List Nd),(7:Int)):Option (List Nd×Int))=some (l,e)∧(some (([]:List Nd),(7:Int)):Option (List Nd×Int))=some (l,e)∧l.length≤1000∧((∀ t∈xb,rin xc t=false)→∀ n∈l,Gd xc n):=⟨[],7,rfl,rfl,by simp,by simp⟩
   have good:∃ l e,(some (([]:List Nd),(0:Int)):Option (List Nd×Int))=some (l,e)∧(some (([]:List Nd),(0:Int)):Option (List Nd×Int))=some (l,e)∧l.length≤1000∧((∀ t∈xb,rin xc t=false)→∀ n∈l,Gd xc n):=⟨[],0,rfl,rfl,by simp,by simp⟩
   rcases hk with rfl | rfl | rfl | rfl | rfl | rfl
   . simpa [aY,aZ,bN] using good
   . have e1:aY 1=true:=rfl
     have e2:aZ 1=true:=rfl
     have e3:bN 1=false:=rfl
     cases h1:loc xb d with
     | false=>simpa [e1,e2,e3,h1] using bad
     | true =>
       cases h2:loc xb s with
       | false=>simpa [e1,e2,e3,h1,h2] using bad
       | true =>
         obtain ⟨t1,a1,b1⟩:=iR h1 hb
         obtain ⟨t2,a2,b2⟩:=iR h2 hb
         simp [e1,e2,e3,h1,h2,a1,a2]
         rw [ni _ _ _ _ (by omega) (by omega) (by omega),io _ _ _ _ (by omega) (by omega) (by omega)]
         have hr:=cw 1 t2 t1 0
         by_cases q:shp t2 t1=true
         . exact ⟨rel 1 0 t2 t1,0,by simp [q],by simp [q],by omega,fun hg=>by simpa using fV (kind:=1) (by decide) t2 t1 0 (by omega) (by omega) (hg _ (iA a2)) (hg _ (iA a1))⟩
         . exact ⟨[],8,by simp [q],by simp [q],by simp,by simp⟩
   all_goals try
     (have e1:aY 4=false:=rfl
      have e2:aZ 4=true:=rfl
      have e3:bN 4=false:=rfl
      cases h2:loc xb s with
      | false=>simpa [e1,e2,e3,h2] using bad
      | true=>simpa [e1,e2,e3,h2] using good)
   all_goals try
     (have e1:aY 5=true:=rfl
      have e2:aZ 5=false:=rfl
      have e3:bN 5=false:=rfl
      cases h2:loc xb d with
      | false=>simpa [e1,e2,e3,h2] using bad
      | true=>simpa [e1,e2,e3,h2] using good)
   . have e1:aY 2=true:=rfl
     have e2:aZ 2=true:=rfl
     have e3:bN 2=true:=rfl
     cases h1:loc xb d with
     | false=>simpa [e1,e2,e3,h1] using bad
     | true =>
       cases h2:loc xb s with
       | false=>simpa [e1,e2,e3,h1,h2] using bad
       | true =>
         cases h3:(decide (r < 0)||decide (xc≤r)) with
         | true=>simpa [e1,e2,e3,h1,h2,h3] using bad
         | false =>
           obtain ⟨t1,a1,b1⟩:=iR h1 hb
           obtain ⟨t2,a2,b2⟩:=iR h2 hb
           have hq:=DK r m t2 t1 (by omega)
           refine ⟨(lo r m t2 t1).1,(lo r m t2 t1).2,?_,?_,by omega,fun hg=>FE (by simp at h3; omega) (by omega) (hg _ (iA a2)) (hg _ (iA a1))⟩
           . simp [e1,e2,e3,h1,h2,h3,a1,a2,B9 t2 t1 r m (by omega)]
           . simp [e1,e2,e3,h1,h2,h3,a1,a2,Cd t2 t1 r m (by omega)]
   . have e1:aY 3=true:=rfl
     have e2:aZ 3=true:=rfl
     have e3:bN 3=true:=rfl
     cases h1:loc xb d with
     | false=>simpa [e1,e2,e3,h1] using bad
     | true =>
       cases h2:loc xb s with
       | false=>simpa [e1,e2,e3,h1,h2] using bad
       | true =>
         cases h3:(decide (r < 0)||decide (xc≤r)) with
         | true=>simpa [e1,e2,e3,h1,h2,h3] using bad
         | false =>
           obtain ⟨t1,a1,b1⟩:=iR h1 hb
           obtain ⟨t2,a2,b2⟩:=iR h2 hb
           have hq:=DS r m t2 t1 (by omega)
           refine ⟨(ag r m t2 t1).1,(ag r m t2 t1).2,?_,?_,by omega,fun hg=>EC (by simp at h3; omega) (by omega) (hg _ (iA a2)) (hg _ (iA a1))⟩
           . simp [e1,e2,e3,h1,h2,h3,a1,a2,By t2 t1 r m (by omega)]
           . simp [e1,e2,e3,h1,h2,h3,a1,a2,BC t2 t1 r m (by omega)]
end
end Go.Proofs.YtaajcbeoafhmaaaGreatDoor
