/- 'easement/easementlaw34.BoundLists' returns true for every input, and each argument rK afterwards as it read before: the row's frame round the walk. -/
import Derived.Test.YtcfehoggnpafmaaDoorZ4
import Derived.Lib.RowBridge
import Derived.Test.YtcfehoggnpafmaaDoorRows
import Derived.Lib.LaidTab
import Derived.Test.YtcfehoggnpafmaaDoorCards
import Derived.Test.YtcfehoggnpafmaaDoorTie
import Derived.Lay
import Derived.SevenTiedAt
namespace Go.Proofs.YtcfehoggnpafmaaDoor
noncomputable section
set_option linter.unusedVariables false
set_option maxRecDepth 100000
set_option maxHeartbeats 4000000
section
open Go.RowKit _root_.Go.Proofs.Tryd
def ij (qa0:Int) (i1:Int):Tq1→Option (Tq1⊕Tq1):=fun l2=>(ik i1 qa0 l2).bind fun (t3,l4)=>cond (t3) (some (.inl l4)) (some (.inr (l4)))
def ii (qa0:Int) (i1:Int):(Int×Tq1)→Option ((Int×Tq1)⊕Tq1):=fun (i2,l3)=>cond (decide (i2 < i1)) ((loop (ij qa0 i2) l3).bind fun l4=>some (.inl ((IntKind.wrap .i64 (i2 + 1),l4)))) (some (.inr (l3)))
def im (qa0:Int) (qa1:Tq1):Option ((Int×Tq1)) :=
 (cE qa0 qa1).bind fun (i2,l3)=>(kw qa0 l3).bind fun (i4,l5)=>cond (!decide (i2=i4)) (some ((0,l5))) ((fP qa0 l5).bind fun (i6,l7)=>(cE qa0 l7).bind fun (i8,l9)=>(loop (ii qa0 i8) (0,l9)).bind fun l10=>(fP qa0 l10).bind fun (i11,l12)=>some ((IntKind.wrap .i64 (i11 - i6),l12)))
def zh:Hn Tryd.prog := .cl oQ8 [] (.cl Aw [] (.tw 9 .nil (.cl se [] (.cl oQ8 [] (.jn [] ⟨[],[bkC 0 79 [.is 1 (.any),.od (.row 80 (.box 98 (.cons (.dat Yq2) (.one (.row 75 (.dat Yq3))))))],bkU 1]⟩ [0,26] (.lp ⟨[kdI 14],[bkC 0 79 [.is 1 (.any),.od (.row 80 (.box 98 (.cons (.dat Yq2) (.one (.row 75 (.dat Yq3))))))],bkU 1]⟩ (.tw 15 (.pl (.pl (.jn [] ⟨[],[bkC 0 79 [.is 1 (.any),.od (.row 80 (.box 98 (.cons (.dat Yq2) (.one (.row 75 (.dat Yq3))))))],bkU 1]⟩ [0,29] (.lp ⟨[],[bkC 0 79 [.is 1 (.any),.od (.row 80 (.box 98 (.cons (.dat Yq2) (.one (.row 75 (.dat Yq3))))))],bkU 1]⟩ (.cl su [] (.tw 19 .nil .nil))) .nil))) .nil)) (.cl se [] .nil))))))
def zV:Spec:=⟨33,⟨[(0,.ptr 0 0)],[bkN 79 [.is 1 (.dat Yq2),.od (.row 80 (.box 98 (.cons (.dat Yq2) (.one (.row 75 (.dat Yq3))))))],bkM]⟩,[⟨[kdI 0],[bkC 0 79 [.is 1 (.any),.od (.row 80 (.box 98 (.cons (.dat Yq2) (.one (.row 75 (.dat Yq3))))))],bkU 1]⟩],fun x=>im x.1 x.2⟩
def zW:OkSpec Tryd.prog:=⟨zV,ak func33 zh (by kernel_rfl) (by kernel_rfl),call33⟩
def iK (xa:Int) (xb:Tq2):Tq3→Option (Tq3⊕((List Int)×Tq6×Tq4)):=fun (i1,l2,l3,l4)=>cond (decide (i1 < (xb.length:Int))) ((ae xb i1).bind fun x5=>(cg x5.1 xa l2 l3 l4).bind fun (t6,l7,l8,l9)=>cond (t6) ((cg x5.2 xa l7 l8 l9).bind fun (t10,l11,l12,l13)=>cond (t10) ((fO x5.1 xa l11 l12 l13).bind fun (l14,l15,l16)=>(fO x5.2 xa l14 l15 l16).bind fun (l17,l18,l19)=>some (.inl ((IntKind.wrap .i64 (i1 + 1),l17,l18,l19)))) (some (.inl ((IntKind.wrap .i64 (i1 + 1),l11,l12,l13))))) (some (.inl ((IntKind.wrap .i64 (i1 + 1),l7,l8,l9))))) (some (.inr (((l2,l3,l4)))))
def iN (l1:List Int):(Int×Tq6)→Option ((Int×Tq6)⊕Tq6):=fun (i2,l3)=>cond (decide (i2 < (l1.length:Int))) ((ae l1 i2).bind fun x4=>l3.bind fun y5=>some (.inl ((IntKind.wrap .i64 (i2 + 1),(some (bL x4 i2 y5):Tq6))))) (some (.inr (l3)))
def iL (xa:Int) (xb:Tq2):Tq3→Option (Tq3⊕((List Int)×Tq6×Tq4)):=fun (i1,l2,l3,l4)=>cond (decide (i1 < (xb.length:Int))) ((ae xb i1).bind fun x5=>(cg x5.1 xa l2 l3 l4).bind fun (t6,l7,l8,l9)=>cond (t6) ((cg x5.2 xa l7 l8 l9).bind fun (t10,l11,l12,l13)=>cond (t10) (l12.bind fun y14=>l12.bind fun y15=>(l13).bind fun y16=>(fN (aK x5.1 y14) (aK x5.2 y15) y16.1 y16.2).bind fun (t17,l18)=>some (.inl ((IntKind.wrap .i64 (i1 + 1),l11,l12,some (y16.1,l18))))) (some (.inl ((IntKind.wrap .i64 (i1 + 1),l11,l12,l13))))) (some (.inl ((IntKind.wrap .i64 (i1 + 1),l7,l8,l9))))) (some (.inr (((l2,l3,l4)))))
def eI (xa:Int) (xb:Tq2):Option (Tq3) :=
 cond ((decide (xa < 0))||(decide (65536 < xa))) (some ((0,[],none,none))) ((loop (iK xa xb) ((0,[],(some []:Tq6),none))).bind fun (l1,l2,l3)=>(srt l1).bind fun l4=>(loop (iN l4) (0,l2)).bind fun l5=>(((ga (l4.length:Int) (l4.length:Int)).bind fun o=>match o with | .inl i6=>some (none) | .inr (i7,i8,l9)=>some (some (i8,l9))).bind fun x10=>((ga (l4.length:Int) (l4.length:Int)).bind fun o=>match o with | .inl i11=>some (none) | .inr (i12,i13,l14)=>some (some (i13,l14))).bind fun y15=>agr x10 y15 (some x10):Option (Tq4)).bind fun l16=>(loop (iL xa xb) (0,l4,l5,l16)).bind fun (l17,l18,l19)=>(l19).bind fun y20=>(im y20.1 y20.2).bind fun (i21,l22)=>some ((xa,l17,l18,some (y20.1,l22))))
def yM:Hn Tryd.prog := .gp 2 (.tw 17 .nil (.ot (.obj 0 (.sl Yq1)) (.jn [(2,0)] ⟨[],[bkC 2 51 [.is 1 (.any),.own 3 Yq2,.od (.obj 0 (.sl Yq1)),.od (.box 79 (.cons (.dat Yq2) (.one (.row 80 (.box 98 (.cons (.dat Yq2) (.one (.row 75 (.dat Yq3)))))))))],bkU 4]⟩ [2,0] (.lp ⟨[kdI 26],[bkC 2 51 [.is 1 (.any),.own 3 Yq2,.od (.obj 0 (.sl Yq1)),.od (.box 79 (.cons (.dat Yq2) (.one (.row 80 (.box 98 (.cons (.dat Yq2) (.one (.row 75 (.dat Yq3)))))))))],bkU 4]⟩ (.tw 27 (.cl oQ6 [] (.two 34 (.cl oQ6 [] (.tw 39 (.cl oQ4 [] (.cl oQ4 [] .nil)) .nil)) .nil)) .nil)) (.cl xi [] (.jn [] ⟨[],[bkO 7 (.obj 0 (.sl Yq1))]⟩ [7] (.lp ⟨[kdI 59],[bkO 7 (.obj 0 (.sl Yq1))]⟩ (.tw 60 .nil .nil)) (.mc 2 1 11 (.mc 2 2 11 (.tr (.still [0,1,2,3,6,7,8] (.alt 4 (.still [5] (.alt 9 (.still [10] (.alt 11 (.still [12,13,14,15,16] (.alt 17 (.leaf []) .done)) .done)) .done)) (.alt 9 (.still [10] (.alt 4 (.still [5] (.alt 11 (.still [12,13,14,15,16] (.alt 17 (.leaf []) .done)) .done)) .done)) .done))) ⟨[],[bkC 2 51 [.is 1 (.any),.is 2 (.any),.is 3 (.any),.od (.box 79 (.cons (.dat Yq2) (.one (.row 80 (.box 98 (.cons (.dat Yq2) (.one (.row 75 (.dat Yq3)))))))))],bkU 4,bkU 15,bkU 16]⟩ [2] (.two 0 (.c2 oQ7 [] .nil .nil) (.c2 oQ7 [] .nil .nil)) (.jn [] ⟨[],[bkC 2 51 [.is 1 (.any),.own 3 Yq2,.od (.obj 0 (.sl Yq1)),.od (.box 79 (.cons (.dat Yq2) (.one (.row 80 (.box 98 (.cons (.dat Yq2) (.one (.row 75 (.dat Yq3)))))))))],bkU 4]⟩ [2,7,5,17,9] (.lp ⟨[kdI 90],[bkC 2 51 [.is 1 (.any),.own 3 Yq2,.od (.obj 0 (.sl Yq1)),.od (.box 79 (.cons (.dat Yq2) (.one (.row 80 (.box 98 (.cons (.dat Yq2) (.one (.row 75 (.dat Yq3)))))))))],bkU 4]⟩ (.tw 91 (.cl oQ6 [] (.two 98 (.cl oQ6 [] (.tw 103 (.mix [] [0,1,2,3,4,5,6,7,8,9,10,11,12,13,14,15,16,17] [18] [] (.wt 121 (.opb 55 56 (.wt 1000060 (.mc 55 0 58 (.cl yI [] .nil)))))) .nil)) .nil)) .nil)) (.wt 127 (.opb 24 25 (.wt 1000029 (.mc 24 0 27 (.cl zW [] .nil))))))))))))))
def zo:Spec:=⟨20,⟨[kdI 0,(1,.dat (.sl Yq1))],[]⟩,[⟨[(0,.ptr 0 0)],[bkN 51 [.dat Yq2,.own 3 Yq2,.od (.obj 0 (.sl Yq1)),.od (.box 79 (.cons (.dat Yq2) (.one (.row 80 (.box 98 (.cons (.dat Yq2) (.one (.row 75 (.dat Yq3)))))))))]]⟩],fun x=>eI x.1 x.2⟩
def Ai:OkSpec Tryd.prog:=⟨zo,ak func20 yM (by kernel_rfl) (by kernel_rfl),call20⟩

def ky (xa:Tq4):Option Int :=
 cond (xa.isNone) (some (0)) (xa.bind fun y14=>some (y14.2.length:Int))
def zS:Hn Tryd.prog := .tw 4 .nil .nil
def zA:Spec:=⟨54,⟨[(0,.dat (.ptr (.cons Yq2 (.one (.sl Yq4)))))],[]⟩,[⟨[kdI 0],[]⟩],fun x=>ky x⟩
def yU:OkSpec Tryd.prog:=⟨zA,ak func54 zS (by kernel_rfl) (by kernel_rfl),call54⟩

def kx (xa:Tq4) (xb:Int):Option Bool :=
 (cond (decide (0≤xb)) ((ky xa).bind fun i28=>some (decide (xb < i28))) (some (false))).bind fun t24=>some (t24)
def zJ:Hn Tryd.prog := .gj 4 ⟨[kdB 12],[]⟩ [] (.two 7 (.cl yU [] .nil) .nil) .nil
def Ac:Spec:=⟨51,⟨[(0,.dat (.ptr (.cons Yq2 (.one (.sl Yq4))))),kdI 1],[]⟩,[⟨[kdB 0],[]⟩],fun x=>kx x.1 x.2⟩
def yQ:OkSpec Tryd.prog:=⟨Ac,ak func51 zJ (by kernel_rfl) (by kernel_rfl),call51⟩

def ir (xa:Tq4) (xb:Int):Option ((Option (Int×(List Int)))) :=
 (kx xa xb).bind fun t36=>cond (!t36) (some (none)) (xa.bind fun y41=>(ae y41.2 xb).bind fun x51=>some (x51))
def yN:Hn Tryd.prog := .cl yQ [] (.tw 8 .nil .nil)
def z7:Spec:=⟨79,⟨[(0,.dat (.ptr (.cons Yq2 (.one (.sl Yq4))))),kdI 1],[]⟩,[⟨[(0,.dat Yq4)],[]⟩],fun x=>ir x.1 x.2⟩
def yJ:OkSpec Tryd.prog:=⟨z7,ak func79 yN (by kernel_rfl) (by kernel_rfl),call79⟩

def iu (xa:Tq4) (xb:Int) (xc:Int):Option Bool :=
 (ir xa xb).bind fun p18=>(cG p18 xc).bind fun t26=>some (t26)
def yW:Hn Tryd.prog := .cl yJ [] (.cl r6 [] .nil)
def zt:Spec:=⟨82,⟨[(0,.dat (.ptr (.cons Yq2 (.one (.sl Yq4))))),kdI 1,kdI 2],[]⟩,[⟨[kdB 0],[]⟩],fun x=>iu x.1 x.2.1 x.2.2⟩
def zF:OkSpec Tryd.prog:=⟨zt,ak func82 yW (by kernel_rfl) (by kernel_rfl),call82⟩

def fM (xb:Int) (xc:Int) (qa0:Int) (qa1:(List Int)) (qa2:Tq6) (qa3:Tq4):Option Tq8 :=
 qa2.bind fun y50=>qa2.bind fun y52=>(cond (((az xb y50 0).isSome)&&((az xc y52 0).isSome)) ((iu qa3 (aK xb y50) (aK xc y52)).bind fun t83=>some (t83)) (some (false))).bind fun t79=>some ((t79,qa1,qa2,qa3))
def ze:Hn Tryd.prog := .gp 1 (.wt 33 (.gj 7 ⟨[kdB 41],[]⟩ [] (.two 33 (.cl zF [6] .nil) .nil) .nil))
def yR:Spec:=⟨60,⟨[(0,.ptr 0 0),kdI 1,kdI 2],[bkN 51 [.is 1 (.dat Yq2),.own 3 Yq2,.od (.obj 0 (.sl Yq1)),.od (.box 79 (.cons (.dat Yq2) (.one (.row 80 (.box 98 (.cons (.dat Yq2) (.one (.row 75 (.dat Yq3)))))))))],bkM]⟩,[⟨[kdB 0],[bkC 0 51 [.is 1 (.any),.own 3 Yq2,.od (.obj 0 (.sl Yq1)),.od (.box 79 (.cons (.dat Yq2) (.one (.row 80 (.box 98 (.cons (.dat Yq2) (.one (.row 75 (.dat Yq3)))))))))],bkU 1]⟩],fun x=>fM x.1 x.2.1 x.2.2.1 x.2.2.2.1 x.2.2.2.2.1 x.2.2.2.2.2⟩
def sr:OkSpec Tryd.prog:=⟨yR,ak func60 ze (by kernel_rfl) (by kernel_rfl),call60⟩

def ic (xb:Int) (qa0:Int) (qa1:(List Int)) (qa2:Tq6) (qa3:Tq4):Option Tq8 :=
 cond (decide (xb=0)) (some ((true,qa1,qa2,qa3))) ((fM xb 0 qa0 qa1 qa2 qa3).bind fun (t4,l5,l6,l7)=>some ((t4,l5,l6,l7)))
def zT:Hn Tryd.prog := .two 7 .nil (.cl sr [] .nil)
def zU:Spec:=⟨59,⟨[(0,.ptr 0 0),kdI 1],[bkN 51 [.is 1 (.dat Yq2),.own 3 Yq2,.od (.obj 0 (.sl Yq1)),.od (.box 79 (.cons (.dat Yq2) (.one (.row 80 (.box 98 (.cons (.dat Yq2) (.one (.row 75 (.dat Yq3)))))))))],bkM]⟩,[⟨[kdB 0],[bkC 0 51 [.is 1 (.any),.own 3 Yq2,.od (.obj 0 (.sl Yq1)),.od (.box 79 (.cons (.dat Yq2) (.one (.row 80 (.box 98 (.cons (.dat Yq2) (.one (.row 75 (.dat Yq3)))))))))],bkU 1]⟩],fun x=>ic x.1 x.2.1 x.2.2.1 x.2.2.2.1 x.2.2.2.2⟩
def Ab:OkSpec Tryd.prog:=⟨zU,ak func59 zT (by kernel_rfl) (by kernel_rfl),call59⟩

def dJ (xb:Int) (xc:Int) (qa0:Int) (qa1:(List Int)) (qa2:Tq6) (qa3:Tq4):Option Tq8 :=
 (cg xb qa0 qa1 qa2 qa3).bind fun (t4,l5,l6,l7)=>cond (t4) ((cg xc qa0 l5 l6 l7).bind fun (t8,l9,l10,l11)=>cond (t8) (cond (decide (xb=xc)) (some ((true,l9,l10,l11))) ((ic xb qa0 l9 l10 l11).bind fun (t12,l13,l14,l15)=>cond (t12) (some ((true,l13,l14,l15))) ((fM xb xc qa0 l13 l14 l15).bind fun (t16,l17,l18,l19)=>some ((t16,l17,l18,l19))))) (some ((false,l9,l10,l11)))) (some ((false,l5,l6,l7)))
def Az:Hn Tryd.prog := .cl oQ6 [] (.two 10 (.cl oQ6 [] (.two 15 (.two 19 .nil (.cl Ab [] (.two 24 .nil (.cl sr [] .nil)))) .nil)) .nil)
def yT:Spec:=⟨37,⟨[(0,.ptr 0 0),kdI 1,kdI 2],[bkN 51 [.is 1 (.dat Yq2),.own 3 Yq2,.od (.obj 0 (.sl Yq1)),.od (.box 79 (.cons (.dat Yq2) (.one (.row 80 (.box 98 (.cons (.dat Yq2) (.one (.row 75 (.dat Yq3)))))))))],bkM]⟩,[⟨[kdB 0],[bkC 0 51 [.is 1 (.any),.own 3 Yq2,.od (.obj 0 (.sl Yq1)),.od (.box 79 (.cons (.dat Yq2) (.one (.row 80 (.box 98 (.cons (.dat Yq2) (.one (.row 75 (.dat Yq3)))))))))],bkU 1]⟩],fun x=>dJ x.1 x.2.1 x.2.2.1 x.2.2.2.1 x.2.2.2.2.1 x.2.2.2.2.2⟩
def zp:OkSpec Tryd.prog:=⟨yT,ak func37 Az (by kernel_rfl) (by kernel_rfl),call37⟩

def ku (xa:Tq7) (qb0:Int) (qb1:(List Int)) (qb2:Tq6) (qb3:Tq4):Option Tq8 :=
 (dJ xa.1 xa.2 qb0 qb1 qb2 qb3).bind fun (t65,l66,l67,l68)=>some ((!t65,l66,l67,l68))
def yX:Hn Tryd.prog := .cl zp [] .nil
def zm:Spec:=⟨36,⟨[(0,.dat Yq1),(1,.ptr 0 0)],[bkN 36 [.ptr 1 0],bkN 51 [.is 2 (.dat Yq2),.own 3 Yq2,.od (.obj 0 (.sl Yq1)),.od (.box 79 (.cons (.dat Yq2) (.one (.row 80 (.box 98 (.cons (.dat Yq2) (.one (.row 75 (.dat Yq3)))))))))],bkM]⟩,[⟨[kdB 0],[bkC 0 36 [.ptr 1 0],bkC 1 51 [.is 2 (.any),.own 3 Yq2,.od (.obj 0 (.sl Yq1)),.od (.box 79 (.cons (.dat Yq2) (.one (.row 80 (.box 98 (.cons (.dat Yq2) (.one (.row 75 (.dat Yq3)))))))))],bkU 2]⟩],fun x=>ku x.1 x.2.1 x.2.2.1 x.2.2.2.1 x.2.2.2.2⟩
def zN:OkSpec Tryd.prog:=⟨zm,ak func36 yX (by kernel_rfl) (by kernel_rfl),call36⟩
def kp (xa:Tq2) (qb0:Int):Tq3→Option (Tq3⊕(((List Int)×Tq6×Tq4)⊕Tq3)):=fun (i1,l2,l3,l4)=>cond (decide (i1 < (xa.length:Int))) ((ae xa i1).bind fun x5=>(ku (x5.1,x5.2) qb0 l2 l3 l4).bind fun (t6,l7,l8,l9)=>cond (t6) (some (.inr ((.inr ((i1,l7,l8,l9)))))) (some (.inl ((IntKind.wrap .i64 (i1 + 1),l7,l8,l9))))) (some (.inr ((.inl (l2,l3,l4)))))
def kr (xa:Tq2) (qb0:Int) (qb1:(List Int)) (qb2:Tq6) (qb3:Tq4):Option (Tq3) :=
 (loop (kp xa qb0) (0,qb1,qb2,qb3)).bind fun o=>match o with | .inr r=>some r | .inl (l4,l5,l6)=>some (((-1),l4,l5,l6))
def zK:Hn Tryd.prog := .jx [] ⟨[],[bkC 0 36 [.ptr 1 0],bkC 1 51 [.is 2 (.any),.own 3 Yq2,.od (.obj 0 (.sl Yq1)),.od (.box 79 (.cons (.dat Yq2) (.one (.row 80 (.box 98 (.cons (.dat Yq2) (.one (.row 75 (.dat Yq3)))))))))],bkU 2]⟩ [4,0,1,6,8] (.lp ⟨[kdI 8],[bkC 0 36 [.ptr 1 0],bkC 1 51 [.is 2 (.any),.own 3 Yq2,.od (.obj 0 (.sl Yq1)),.od (.box 79 (.cons (.dat Yq2) (.one (.row 80 (.box 98 (.cons (.dat Yq2) (.one (.row 75 (.dat Yq3)))))))))],bkU 2]⟩ (.tw 9 (.cl zN [] (.tw 16 .nil .nil)) .nil)) .nil
def zj:Spec:=⟨58,⟨[(0,.dat (.sl Yq1)),(1,.fn 36 [.ptr 0 0])],[bkN 36 [.ptr 1 0],bkN 51 [.is 2 (.dat Yq2),.own 3 Yq2,.od (.obj 0 (.sl Yq1)),.od (.box 79 (.cons (.dat Yq2) (.one (.row 80 (.box 98 (.cons (.dat Yq2) (.one (.row 75 (.dat Yq3)))))))))],bkM]⟩,[⟨[kdI 0],[bkC 0 36 [.ptr 1 0],bkC 1 51 [.is 2 (.any),.own 3 Yq2,.od (.obj 0 (.sl Yq1)),.od (.box 79 (.cons (.dat Yq2) (.one (.row 80 (.box 98 (.cons (.dat Yq2) (.one (.row 75 (.dat Yq3)))))))))],bkU 2]⟩],fun x=>kr x.1 x.2.1 x.2.2.1 x.2.2.2.1 x.2.2.2.2⟩
def Av:OkSpec Tryd.prog:=⟨zj,ak func58 zK (by kernel_rfl) (by kernel_rfl),call58⟩

def ko (xa:Tq2) (qb0:Int) (qb1:(List Int)) (qb2:Tq6) (qb3:Tq4):Option Tq8 :=
 (kr xa qb0 qb1 qb2 qb3).bind fun (i61,l62,l63,l64)=>some ((decide (0≤i61),l62,l63,l64))
def zw:Hn Tryd.prog := .cl Av [] .nil
def yF:Spec:=⟨35,⟨[(0,.dat (.sl Yq1)),(1,.fn 36 [.ptr 0 0])],[bkN 36 [.ptr 1 0],bkN 51 [.is 2 (.dat Yq2),.own 3 Yq2,.od (.obj 0 (.sl Yq1)),.od (.box 79 (.cons (.dat Yq2) (.one (.row 80 (.box 98 (.cons (.dat Yq2) (.one (.row 75 (.dat Yq3)))))))))],bkM]⟩,[⟨[kdB 0],[bkC 0 36 [.ptr 1 0],bkC 1 51 [.is 2 (.any),.own 3 Yq2,.od (.obj 0 (.sl Yq1)),.od (.box 79 (.cons (.dat Yq2) (.one (.row 80 (.box 98 (.cons (.dat Yq2) (.one (.row 75 (.dat Yq3)))))))))],bkU 2]⟩],fun x=>ko x.1 x.2.1 x.2.2.1 x.2.2.2.1 x.2.2.2.2⟩
def yV:OkSpec Tryd.prog:=⟨yF,ak func35 zw (by kernel_rfl) (by kernel_rfl),call35⟩

def io (xb:Tq2) (qa0:Int) (qa1:(List Int)) (qa2:Tq6) (qa3:Tq4):Option Tq8 :=
 (ko xb qa0 qa1 qa2 qa3).bind fun (t65,l66,l67,l68)=>some ((!t65,l66,l67,l68))
def Af:Hn Tryd.prog := .cl yV [] .nil
def yK:Spec:=⟨22,⟨[(0,.ptr 0 0),(1,.dat (.sl Yq1))],[bkN 51 [.is 1 (.dat Yq2),.own 3 Yq2,.od (.obj 0 (.sl Yq1)),.od (.box 79 (.cons (.dat Yq2) (.one (.row 80 (.box 98 (.cons (.dat Yq2) (.one (.row 75 (.dat Yq3)))))))))],bkM]⟩,[⟨[kdB 0],[bkC 0 51 [.is 1 (.any),.own 3 Yq2,.od (.obj 0 (.sl Yq1)),.od (.box 79 (.cons (.dat Yq2) (.one (.row 80 (.box 98 (.cons (.dat Yq2) (.one (.row 75 (.dat Yq3)))))))))],bkU 1]⟩],fun x=>io x.1 x.2.1 x.2.2.1 x.2.2.2.1 x.2.2.2.2⟩
def AA:OkSpec Tryd.prog:=⟨yK,ak func22 Af (by kernel_rfl) (by kernel_rfl),call22⟩

def eD (xa:Int) (xb:Tq2) (xc:Tq2) (xd:Tq2):Option Bool :=
 (ej (([xb,xc]:List Tq2))).bind fun l61=>(eI xa l61).bind fun (i74,l75,l76,l77)=>(io xd i74 l75 l76 l77).bind fun (t90,l91,l92,l93)=>some (t90)
def zl:Hn Tryd.prog := .per 0 1 (.cl oQ3 [] (.per 2 3 (.cl Ai [] (.mc 4 0 11 (.cl AA [] .nil)))))
def zE:Spec:=⟨12,⟨[kdI 0,(1,.dat (.sl Yq1)),(2,.dat (.sl Yq1)),(3,.dat (.sl Yq1))],[]⟩,[⟨[kdB 0],[]⟩],fun x=>eD x.1 x.2.1 x.2.2.1 x.2.2.2⟩
def mV:OkSpec Tryd.prog:=⟨zE,ak func12 zl (by kernel_rfl) (by kernel_rfl),call12⟩

def iJ (self:Int→(Tq2)→(Tq2)→Option (Tq2)) (xa:Int) (xb:Tq2) (xc:Tq2):Option (Tq2) :=
 (eD xa xb ([]) xc).bind fun t1=>cond (t1) (some ([])) (cond (decide ((xc.length:Int)=1)) ((fL xc).bind fun l2=>some (l2)) ((subL xc 0 (IntKind.wrap .i64 (Int.tdiv (xc.length:Int) 2))).bind fun y3=>(subL xc (IntKind.wrap .i64 (Int.tdiv (xc.length:Int) 2)) (xc.length:Int)).bind fun y4=>(ej (([xb,y3]:List Tq2))).bind fun l5=>(self xa l5 y4).bind fun l6=>(subL xc 0 (IntKind.wrap .i64 (Int.tdiv (xc.length:Int) 2))).bind fun y7=>(ej (([xb,l6]:List Tq2))).bind fun l8=>(self xa l8 y7).bind fun l9=>(app l9 l6).bind fun z10=>some (z10)))
def iz:Nat→Int→(Tq2)→(Tq2)→Option (Tq2):=fun n=>Nat.rec (fun _ _ _=>none) (fun _ self=>iJ self) n
def kD (xa:Int) (xb:Tq2) (xc:Tq2):Option (Tq2):=lev (fun n=>iz n xa xb xc)
def iE (self:Int→(Tq2)→(Tq2)→Option (Tq2)):Spec:=⟨19,⟨[kdI 0,(1,.dat (.sl Yq1)),(2,.dat (.sl Yq1))],[]⟩,[⟨[(0,.own 24 Yq1)],[]⟩],fun x=>self x.1 x.2.1 x.2.2⟩
def sX (okself:OkSpec Tryd.prog):Hn Tryd.prog := .cl mV [] (.tw 13 .nil (.tw 16 (.cl oQ0 [] .nil) (.mix [([0,1,2,3,4,7,8,9],5),([],6)] [] [10,11] [] (.per 0 1 (.cl oQ3 [] (.per 2 3 (.cl okself [] (.per 4 5 (.mix [([0,1,2,5,6,7],3),([],4)] [] [8,9] [] (.per 6 7 (.cl oQ3 [] (.per 8 9 (.cl okself [] .nil)))))))))))))
theorem sQ (self:Int→(Tq2)→(Tq2)→Option (Tq2)) (hs:aV Tryd.prog (iE self)):aV Tryd.prog (iE (iJ self)):=ak func19 (sX ⟨iE self,hs,call19⟩) (by kernel_rfl) (by kernel_rfl)
theorem nw:∀ n,aV Tryd.prog (iE (iz n))
 | 0=>fun x r hr=>by cases hr
 | n + 1=>sQ _ (nw n)
def sf:Spec:=⟨19,⟨[kdI 0,(1,.dat (.sl Yq1)),(2,.dat (.sl Yq1))],[]⟩,[⟨[(0,.own 24 Yq1)],[]⟩],fun x=>kD x.1 x.2.1 x.2.2⟩
theorem tg:aV Tryd.prog sf:=fun x r hr=>by
 obtain ⟨n,hn⟩:=vI hr
 exact nw n x r hn
def Al:OkSpec Tryd.prog:=⟨sf,tg,call19⟩

def eE (xa:Int) (xb:Tq2) (xc:Tq2):Option (Tq2) :=
 (f9 xc).bind fun l31=>(kD xa xb l31).bind fun l44=>some (l44)
def Au:Hn Tryd.prog := .cl oQ1 [] (.per 0 1 (.cl Al [] .nil))
def yZ:Spec:=⟨10,⟨[kdI 0,(1,.dat (.sl Yq1)),(2,.dat (.sl Yq1))],[]⟩,[⟨[(0,.own 24 Yq1)],[]⟩],fun x=>eE x.1 x.2.1 x.2.2⟩
def r8:OkSpec Tryd.prog:=⟨yZ,ak func10 Au (by kernel_rfl) (by kernel_rfl),call10⟩
def iv (xa:Tq2) (xb:Tq2):Int→Option (Int⊕(Unit⊕Bool)):=fun i1=>cond (decide (i1 < (xa.length:Int))) ((ae xa i1).bind fun x2=>(ae xb i1).bind fun x3=>cond (!((decide (x2.1=x3.1))&&((decide (x2.2=x3.2))))) (some (.inr ((.inr (false))))) (some (.inl (IntKind.wrap .i64 (i1 + 1))))) (some (.inr ((.inl ()))))
def eC (xa:Tq2) (xb:Tq2):Option Bool :=
 cond (!decide ((xa.length:Int)=(xb.length:Int))) (some (false)) ((loop (iv xa xb) 0).bind fun o=>match o with | .inr r=>some r | .inl ()=>some (true))
def AD:Hn Tryd.prog := .tw 10 .nil (.jx [] ⟨[],[]⟩ [] (.lp ⟨[kdI 5],[]⟩ (.tw 14 (.mix [] [0,1,2,3,4,5,6,7,8] [] [] (.tw 25 .nil .nil)) .nil)) .nil)
def As:Spec:=⟨7,⟨[(0,.dat (.sl Yq1)),(1,.dat (.sl Yq1))],[]⟩,[⟨[kdB 0],[]⟩],fun x=>eC x.1 x.2⟩
def mR:OkSpec Tryd.prog:=⟨As,ak func7 AD (by kernel_rfl) (by kernel_rfl),call7⟩

def f8  : Option Bool :=
 (eE 4 ([]) (([(1,2),(1,3),(2,3)]:List Tq7))).bind fun l74=>(eC l74 (([(1,2),(2,3)]:List Tq7))).bind fun t93=>(cond (t93) ((eD 4 ([]) l74 (([(1,3)]:List Tq7))).bind fun t1=>some (t1)) (some (false))).bind fun t2=>some (t2)
def sZ:Hn Tryd.prog := .per 0 1 (.cl r8 [] (.cl mR [2,4] (.gj 4 ⟨[kdB 17],[]⟩ [] (.two 12 (.cl mV [2,6] .nil) .nil) .nil)))
def nA:Spec:=⟨4,⟨[],[]⟩,[⟨[kdB 0],[]⟩],fun x=>f8⟩
theorem sW:aV Tryd.prog nA:=ak func4 sZ (by kernel_rfl) (by kernel_rfl)
def nB:OkSpec Tryd.prog:=⟨nA,sW,call4⟩

def fX (xa:Int):Option Bool :=
 some (!decide (xa=xa))
def zC:Hn Tryd.prog := .nil
def zZ:Spec:=⟨25,⟨[kdI 0],[]⟩,[⟨[kdB 0],[]⟩],fun x=>fX x⟩
def r7:OkSpec Tryd.prog:=⟨zZ,ak func25 zC (by kernel_rfl) (by kernel_rfl),call25⟩

def fU (xa:Int) (xb:Int):Option Int :=
 (fX xa).bind fun t21=>(fX xb).bind fun t27=>cond (t21) (cond (t27) (some (0)) (some ((-1)))) (cond (t27) (some (1)) (cond (decide (xa < xb)) (some ((-1))) (cond (decide (xb < xa)) (some (1)) (some (0)))))
def yH:Hn Tryd.prog := .cl r7 [] (.cl r7 [] (.tw 11 (.tw 12 .nil .nil) (.tw 13 .nil (.tw 16 .nil (.tw 19 .nil .nil)))))
def zf:Spec:=⟨15,⟨[kdI 0,kdI 1],[]⟩,[⟨[kdI 0],[]⟩],fun x=>fU x.1 x.2⟩
def sn:OkSpec Tryd.prog:=⟨zf,ak func15 yH (by kernel_rfl) (by kernel_rfl),call15⟩
def fY (xa:(List Int)):Int→Option (Int⊕(Unit⊕Int)):=fun i1=>cond (decide (i1 < (xa.length:Int))) ((ae xa i1).bind fun x2=>cond (!decide (x2=0)) (some (.inr ((.inr (x2))))) (some (.inl (IntKind.wrap .i64 (i1 + 1))))) (some (.inr ((.inl ()))))
def iM (xa:(List Int)):Option Int :=
 (loop (fY xa) 0).bind fun o=>match o with | .inr r=>some r | .inl ()=>some (0)
def zy:Hn Tryd.prog := .jx [] ⟨[],[]⟩ [] (.lp ⟨[kdI 8],[]⟩ (.tw 9 (.tw 14 .nil .nil) .nil)) .nil
def zk:Spec:=⟨14,⟨[(0,.dat (.sl Yq2))],[]⟩,[⟨[kdI 0],[]⟩],fun x=>iM x⟩
def AF:OkSpec Tryd.prog:=⟨zk,ak func14 zy (by kernel_rfl) (by kernel_rfl),call14⟩

def iF (xa:Tq7) (xb:Tq7):Option Int :=
 (fU xa.1 xb.1).bind fun i68=>(fU xa.2 xb.2).bind fun i74=>(iM ([i68,i74]:List Int)).bind fun i86=>some (i86)
def yE:Hn Tryd.prog := .mix [([0,1,2,3,5,6,7,8],4)] [] [9,10,11,12] [] (.cl sn [] (.cl sn [] (.cl AF [4] .nil)))
def zD:Spec:=⟨5,⟨[(0,.dat Yq1),(1,.dat Yq1)],[]⟩,[⟨[kdI 0],[]⟩],fun x=>iF x.1 x.2⟩
def zQ:OkSpec Tryd.prog:=⟨zD,ak func5 yE (by kernel_rfl) (by kernel_rfl),call5⟩

def dK (xa:Tq7) (xb:Tq7):Option Bool :=
 some ((decide (xa.1 < xb.1))||((decide (xa.1=xb.1))&&(decide (xa.2 < xb.2))))
def zg:Hn Tryd.prog := .gp 12 .nil
def Ag:Spec:=⟨6,⟨[(0,.dat Yq1),(1,.dat Yq1)],[]⟩,[⟨[kdB 0],[]⟩],fun x=>dK x.1 x.2⟩
def mY:OkSpec Tryd.prog:=⟨Ag,ak func6 zg (by kernel_rfl) (by kernel_rfl),call6⟩
def ix (xa:Tq2) (l1:Tq2) (i2:Int):(Tq2×Bool×Int)→Option ((Tq2×Bool×Int)⊕(Tq2×Bool)):=fun (l3,t4,i5)=>cond (decide (i5 < (l1.length:Int))) (((cond (!t4) ((ae l1 i5).bind fun x6=>(ae xa i2).bind fun x7=>(dK (x6.1,x6.2) (x7.1,x7.2)).bind fun t8=>some (!t8)) (some (false)):Option Bool).bind fun t9=>cond (t9) ((ae xa i2).bind fun x10=>(app l3 (([(x10.1,x10.2)]:List Tq7))).bind fun z11=>some ((z11,true))) (some ((l3,t4))):Option ((Tq2×Bool))).bind fun (l12,t13)=>(ae l1 i5).bind fun x14=>(ae xa i2).bind fun x15=>cond (!((decide (x14.1=x15.1))&&((decide (x14.2=x15.2))))) ((ae l1 i5).bind fun x16=>(app l12 (([(x16.1,x16.2)]:List Tq7))).bind fun z17=>some (.inl ((z17,t13,IntKind.wrap .i64 (i5 + 1))))) (some (.inl ((l12,t13,IntKind.wrap .i64 (i5 + 1)))))) (some (.inr (((l3,t4)))))
def kA (xa:Tq2):(Tq2×Int)→Option ((Tq2×Int)⊕Tq2):=fun (l1,i2)=>cond (decide (i2 < (xa.length:Int))) ((loop (ix xa l1 i2) ((([]:List Tq7),false,0))).bind fun (l3,t4)=>cond (!t4) ((ae xa i2).bind fun x5=>(app l3 (([(x5.1,x5.2)]:List Tq7))).bind fun z6=>some (.inl ((z6,IntKind.wrap .i64 (i2 + 1))))) (some (.inl ((l3,IntKind.wrap .i64 (i2 + 1)))))) (some (.inr (l1)))
def ge (xa:Tq2):Option (Tq2) :=
 (loop (kA xa) ((([]:List Tq7),0))).bind fun l1=>some (l1)
def AE:Hn Tryd.prog := .jn [] ⟨[(3,.own 24 Yq1),(8,.any)],[]⟩ [0] (.lp ⟨[(3,.own 24 Yq1),kdI 4],[]⟩ (.tw 12 (.pl (.pl (.jn [] ⟨[(5,.own 24 Yq1),kdB 6,(15,.any)],[]⟩ [4] (.lp ⟨[(5,.own 24 Yq1),kdB 6,kdI 7],[]⟩ (.tw 19 (.pl (.sq [] ⟨[(5,.own 24 Yq1),kdB 6],[]⟩ [6] (.sq [] ⟨[kdB 35],[]⟩ [] (.mix [] [0,1,2,3,4,5,6,7,8,9,10] [11,12,13] [] (.two 24 (.cl mY [] .nil) .nil)) (.tw 35 .nil .nil)) (.mix [] [0,1,2,3,4,5,6,7,8] [] [] (.tw 51 .nil .nil)))) .nil)) (.tw 60 .nil .nil)))) .nil)) .nil
def zB:Spec:=⟨9,⟨[(0,.dat (.sl Yq1))],[]⟩,[⟨[(0,.own 24 Yq1)],[]⟩],fun x=>ge x⟩
def sk:OkSpec Tryd.prog:=⟨zB,ak func9 AE (by kernel_rfl) (by kernel_rfl),call9⟩
def iB (xb:Tq2) (i1:Int) (i2:Int):Tq7→Option (Tq7⊕Int):=fun (i3,i4)=>cond (decide (i4 < (xb.length:Int))) ((ae xb i4).bind fun x5=>(cond (decide (x5.1=i1)) ((ae xb i4).bind fun x6=>some (decide (x6.2=i2))) (some (false))).bind fun t7=>cond (t7) (some (.inl ((1,IntKind.wrap .i64 (i4 + 1))))) (some (.inl ((i3,IntKind.wrap .i64 (i4 + 1)))))) (some (.inr (i3)))
def iD (xa:Int) (xb:Tq2) (i1:Int):((List Int)×Int)→Option (((List Int)×Int)⊕(List Int)):=fun (l2,i3)=>cond (decide (i3 < xa)) ((cond ((decide (i1=i3))||(decide (i1=0))) (some (1)) (some (0)):Option Int).bind fun i4=>(loop (iB xb i1 i3) (i4,0)).bind fun i5=>(app l2 ([i5]:List Int)).bind fun z6=>some (.inl ((z6,IntKind.wrap .i64 (i3 + 1))))) (some (.inr (l2)))
def f7 (xa:Int) (xb:Tq2):(Tq5×Int)→Option ((Tq5×Int)⊕Tq5):=fun (l1,i2)=>cond (decide (i2 < xa)) ((loop (iD xa xb i2) ((([]:List Int),0))).bind fun l3=>(app (l1:List (List Int)) (([l3]:List (List Int)):List (List Int))).bind fun z4=>some (.inl ((z4,IntKind.wrap .i64 (i2 + 1))))) (some (.inr (l1)))
def iG (xa:Int) (i1:Int) (i2:Int):(Bool×Int×Tq5)→Option ((Bool×Int×Tq5)⊕(Bool×Tq5)):=fun (t3,i4,l5)=>cond (decide (i4 < xa)) ((ae l5 i1).bind fun x6=>(ae l5 i1).bind fun _=>(br i1 i1).bind fun _=>(ae x6 i2).bind fun x7=>cond (decide (x7=1)) ((ae (l5.set i1.toNat x6) i2).bind fun x8=>(ae (l5.set i1.toNat x6) i2).bind fun _=>(br i2 i2).bind fun _=>(ae x8 i4).bind fun x9=>cond (decide (x9=1)) ((ae ((l5.set i1.toNat x6).set i2.toNat x8) i1).bind fun x10=>(ae ((l5.set i1.toNat x6).set i2.toNat x8) i1).bind fun _=>(br i1 i1).bind fun _=>(ae x10 i4).bind fun x11=>cond (decide (x11=0)) ((ae (((l5.set i1.toNat x6).set i2.toNat x8).set i1.toNat x10) i1).bind fun x12=>(ae (((l5.set i1.toNat x6).set i2.toNat x8).set i1.toNat x10) i1).bind fun _=>(br i1 i1).bind fun _=>(ae x12 i4).bind fun x13=>(some (x12.set i4.toNat 1)).bind fun z14=>some (.inl ((true,IntKind.wrap .i64 (i4 + 1),(((l5.set i1.toNat x6).set i2.toNat x8).set i1.toNat x10).set i1.toNat z14)))) (some (.inl ((t3,IntKind.wrap .i64 (i4 + 1),((l5.set i1.toNat x6).set i2.toNat x8).set i1.toNat x10))))) (some (.inl ((t3,IntKind.wrap .i64 (i4 + 1),(l5.set i1.toNat x6).set i2.toNat x8))))) (some (.inl ((t3,IntKind.wrap .i64 (i4 + 1),l5.set i1.toNat x6))))) (some (.inr (((t3,l5)))))
def iI (xa:Int) (i1:Int):(Bool×Int×Tq5)→Option ((Bool×Int×Tq5)⊕(Bool×Tq5)):=fun (t2,i3,l4)=>cond (decide (i3 < xa)) ((loop (iG xa i1 i3) (t2,0,l4)).bind fun (t5,l6)=>some (.inl ((t5,IntKind.wrap .i64 (i3 + 1),l6)))) (some (.inr (((t2,l4)))))
def iA (xa:Int):(Bool×Int×Tq5)→Option ((Bool×Int×Tq5)⊕(Bool×Tq5)):=fun (t1,i2,l3)=>cond (decide (i2 < xa)) ((loop (iI xa i2) (t1,0,l3)).bind fun (t4,l5)=>some (.inl ((t4,IntKind.wrap .i64 (i2 + 1),l5)))) (some (.inr (((t1,l3)))))
def iH (xa:Int):(Bool×Tq5)→Option ((Bool×Tq5)⊕Tq5):=fun (t1,l2)=>cond (t1) ((loop (iA xa) (false,0,l2)).bind fun (t3,l4)=>some (.inl (t3,l4))) (some (.inr (l2)))
def de (xa:Int) (xb:Tq2):Option (Tq5) :=
 cond ((decide (xa < 0))||(decide (65536 < xa))) (some (([]:List (List Int)))) ((loop (f7 xa xb) ((([]:List (List Int)),0))).bind fun l1=>(loop (iH xa) (true,l1)).bind fun l2=>some (l2))
def Ax:Hn Tryd.prog := .ot (.row 3 (.dat Yq2)) (.gp 2 (.tw 21 .nil (.jn [] ⟨[(5,.od (.row 43 (.row 3 (.dat Yq2))))],[]⟩ [0] (.lp ⟨[(5,.od (.row 43 (.row 3 (.dat Yq2)))),kdI 6],[]⟩ (.tw 25 (.pl (.pl (.jn [] ⟨[(7,.own 3 Yq2),(28,.any)],[]⟩ [4] (.lp ⟨[(7,.own 3 Yq2),kdI 8],[]⟩ (.tw 31 (.pl (.pl (.sq [] ⟨[kdI 9],[]⟩ [] (.wt 37 (.gp 2 (.tw 40 .nil .nil))) (.jn [] ⟨[kdI 9],[]⟩ [] (.lp ⟨[kdI 9,kdI 10],[]⟩ (.tw 44 (.wt 54 (.gj 7 ⟨[kdB 62],[]⟩ [] (.two 54 .nil .nil) (.tw 62 .nil .nil))) .nil)) .nil)))) .nil)) (.ot (.row 3 (.dat Yq2)) (.ot (.row 3 (.dat Yq2)) .nil))))) .nil)) (.jn [] ⟨[],[bkO 2 (.row 43 (.row 3 (.dat Yq2)))]⟩ [2] (.lp ⟨[kdB 11],[bkO 2 (.row 43 (.row 3 (.dat Yq2)))]⟩ (.tw 71 (.pl (.jn [] ⟨[kdB 11],[bkO 2 (.row 43 (.row 3 (.dat Yq2)))]⟩ [2] (.lp ⟨[kdB 11,kdI 12],[bkO 2 (.row 43 (.row 3 (.dat Yq2)))]⟩ (.tw 74 (.pl (.pl (.jn [] ⟨[kdB 11],[bkO 2 (.row 43 (.row 3 (.dat Yq2)))]⟩ [2] (.lp ⟨[kdB 11,kdI 13],[bkO 2 (.row 43 (.row 3 (.dat Yq2)))]⟩ (.tw 79 (.pl (.pl (.jn [] ⟨[kdB 11],[bkO 2 (.row 43 (.row 3 (.dat Yq2)))]⟩ [2] (.lp ⟨[kdB 11,kdI 14],[bkO 2 (.row 43 (.row 3 (.dat Yq2)))]⟩ (.tw 84 (.opn 2 88 (.two 95 (.wt 97 (.cls 2 8 (.opn 2 97 (.two 105 (.wt 107 (.cls 2 12 (.opn 2 107 (.wt 114 (.wt 1000019 (.cls 2 16 (.tw 114 (.opn 2 116 (.wt 120 (.wt 1000024 (.cls 2 20 .nil)))) .nil))))))) (.cls 2 12 .nil))))) (.cls 2 8 .nil))) .nil)) .nil))) .nil)) .nil))) .nil)) .nil)) .nil)) .nil))))
def za:Spec:=⟨24,⟨[kdI 0,(1,.dat (.sl Yq1))],[]⟩,[⟨[(0,.od (.row 43 (.row 3 (.dat Yq2))))],[]⟩],fun x=>de x.1 x.2⟩
def zH:OkSpec Tryd.prog:=⟨za,ak func24 Ax (by kernel_rfl) (by kernel_rfl),call24⟩

def iO (xa:Tq5) (xb:Int) (xc:Int):Option Bool :=
 (cond ((((decide (0≤xb))&&(decide (xb < (xa.length:Int))))&&(decide (0≤xc)))&&(decide (xc < (xa.length:Int)))) ((ae xa xb).bind fun x86=>(ae x86 xc).bind fun x99=>some (decide (x99=1))) (some (false))).bind fun t84=>some (t84)
def Aj:Hn Tryd.prog := .gp 4 (.wt 15 (.gp 2 (.wt 19 (.gp 4 (.wt 25 (.gj 8 ⟨[kdB 34],[]⟩ [] (.two 25 .nil .nil) .nil))))))
def zY:Spec:=⟨38,⟨[(0,.dat (.sl (.sl Yq2))),kdI 1,kdI 2],[]⟩,[⟨[kdB 0],[]⟩],fun x=>iO x.1 x.2.1 x.2.2⟩
def Ae:OkSpec Tryd.prog:=⟨zY,ak func38 Aj (by kernel_rfl) (by kernel_rfl),call38⟩
def iy (xa:Tq5) (xb:Tq2):Int→Option (Int⊕(Unit⊕Bool)):=fun i1=>cond (decide (i1 < (xb.length:Int))) ((ae xb i1).bind fun x2=>(ae xb i1).bind fun x3=>(iO xa x2.1 x3.2).bind fun t4=>cond (!t4) (some (.inr ((.inr (false))))) (some (.inl (IntKind.wrap .i64 (i1 + 1))))) (some (.inr ((.inl ()))))
def iP (xa:Tq5) (xb:Tq2):Option Bool :=
 (loop (iy xa xb) 0).bind fun o=>match o with | .inr r=>some r | .inl ()=>some (true)
def An:Hn Tryd.prog := .jx [] ⟨[],[]⟩ [] (.lp ⟨[kdI 5],[]⟩ (.tw 9 (.mix [] [0,1,2,3,4,5,6,7,8,9,10] [11,12] [] (.cl Ae [] (.tw 24 .nil .nil))) .nil)) .nil
def zX:Spec:=⟨23,⟨[(0,.dat (.sl (.sl Yq2))),(1,.dat (.sl Yq1))],[]⟩,[⟨[kdB 0],[]⟩],fun x=>iP x.1 x.2⟩
def Ad:OkSpec Tryd.prog:=⟨zX,ak func23 An (by kernel_rfl) (by kernel_rfl),call23⟩

def fZ (xa:Int) (xb:Tq2) (xc:Tq2) (xd:Tq2):Option Bool :=
 (app (([]:List Tq7)) xb).bind fun z40=>(app z40 xc).bind fun z46=>(de xa z46).bind fun l57=>(iP l57 xd).bind fun t68=>some (t68)
def y6:Hn Tryd.prog := .cl zH [4] (.per 6 7 (.cl Ad [] .nil))
def yS:Spec:=⟨13,⟨[kdI 0,(1,.dat (.sl Yq1)),(2,.dat (.sl Yq1)),(3,.dat (.sl Yq1))],[]⟩,[⟨[kdB 0],[]⟩],fun x=>fZ x.1 x.2.1 x.2.2.1 x.2.2.2⟩
def rX:OkSpec Tryd.prog:=⟨yS,ak func13 y6 (by kernel_rfl) (by kernel_rfl),call13⟩
def fW (l1:Tq2) (i2:Int):(Tq2×Int)→Option ((Tq2×Int)⊕Tq2):=fun (l3,i4)=>cond (decide (i4 < (l1.length:Int))) (cond (!decide (i4=i2)) ((ae l1 i4).bind fun x5=>(app l3 (([(x5.1,x5.2)]:List Tq7))).bind fun z6=>some (.inl ((z6,IntKind.wrap .i64 (i4 + 1))))) (some (.inl ((l3,IntKind.wrap .i64 (i4 + 1)))))) (some (.inr (l3)))
def fV (xa:Int) (xb:Tq2):(Tq2×Int)→Option ((Tq2×Int)⊕Tq2):=fun (l1,i2)=>cond (decide (0≤i2)) ((loop (fW l1 i2) ((([]:List Tq7),0))).bind fun l3=>(ae l1 i2).bind fun x4=>(fZ xa xb l3 (([(x4.1,x4.2)]:List Tq7))).bind fun t5=>cond (t5) (some (.inl ((l3,IntKind.wrap .i64 (i2 - 1))))) (some (.inl ((l1,IntKind.wrap .i64 (i2 - 1)))))) (some (.inr (l1)))
def f6 (xa:Int) (xb:Tq2) (xc:Tq2):Option (Tq2) :=
 (ge xc).bind fun l1=>(loop (fV xa xb) ((l1,IntKind.wrap .i64 ((l1.length:Int) - 1)))).bind fun l2=>some (l2)
def Ar:Hn Tryd.prog := .cl sk [] (.jn [] ⟨[(7,.own 24 Yq1),(12,.any),(13,.any)],[]⟩ [0] (.lp ⟨[(7,.own 24 Yq1),kdI 8],[]⟩ (.tw 17 (.pl (.pl (.jn [] ⟨[(9,.own 24 Yq1),(20,.any)],[]⟩ [4] (.lp ⟨[(9,.own 24 Yq1),kdI 10],[]⟩ (.tw 24 (.tw 29 .nil .nil) .nil)) (.cl rX [6,8] (.tw 45 .nil .nil))))) .nil)) .nil)
def AC:Spec:=⟨11,⟨[kdI 0,(1,.dat (.sl Yq1)),(2,.dat (.sl Yq1))],[]⟩,[⟨[(0,.own 24 Yq1)],[]⟩],fun x=>f6 x.1 x.2.1 x.2.2⟩
def AG:OkSpec Tryd.prog:=⟨AC,ak func11 Ar (by kernel_rfl) (by kernel_rfl),call11⟩

def kz (xa:Int) (xb:Tq2) (xc:Tq2) (xd:Tq2) (xe:Tq7) (xf:Tq7):Option Bool :=
 cond ((((decide (8 < xa))||(decide (16 < (xb.length:Int))))||(decide (16 < (xc.length:Int))))||(decide (16 < (xd.length:Int)))) ((f8).bind fun t1=>some (t1)) ((iF (xe.1,xe.2) (xf.1,xf.2)).bind fun i2=>(dK (xe.1,xe.2) (xf.1,xf.2)).bind fun t3=>(cond (!((decide (i2 < 0)) == t3)) (some (true)) ((dK (xf.1,xf.2) (xe.1,xe.2)).bind fun t4=>some (!((decide (0 < i2)) == t4)))).bind fun t5=>cond (t5) (some (false)) ((f9 xc).bind fun l6=>(ge xc).bind fun l7=>(eC l6 l7).bind fun t8=>(cond (t8) ((eE xa xb xc).bind fun l9=>(f6 xa xb xc).bind fun l10=>(eC l9 l10).bind fun t11=>some (t11)) (some (false))).bind fun t12=>(cond (t12) ((eD xa xb xd xc).bind fun t13=>(fZ xa xb xd xc).bind fun t14=>some (t13 == t14)) (some (false))).bind fun t15=>(cond (t15) ((f8).bind fun t16=>some (t16)) (some (false))).bind fun t17=>some (t17)))
def sK:Hn Tryd.prog := .gp 3 (.wt 21 (.gp 3 (.wt 26 (.gp 3 (.tw 30 (.cl nB [] .nil) (.cl zQ [] (.cl mY [] (.gj 6 ⟨[kdB 48],[]⟩ [] (.two 41 .nil (.cl mY [] .nil)) (.tw 48 .nil (.cl oQ1 [] (.cl sk [] (.cl mR [4,6] (.gj 9 ⟨[kdB 64],[]⟩ [] (.two 54 (.cl r8 [] (.cl AG [] (.cl mR [8,10] .nil))) .nil) (.wt 65 (.gj 11 ⟨[kdB 77],[]⟩ [] (.two 65 (.cl mV [] (.cl rX [] .nil)) .nil) (.wt 78 (.gj 1 ⟨[kdB 80],[]⟩ [] (.two 78 (.cl nB [] .nil) .nil) .nil)))))))))))))))))
def nr:Spec:=⟨3,⟨[kdI 0,(1,.dat (.sl Yq1)),(2,.dat (.sl Yq1)),(3,.dat (.sl Yq1)),(4,.dat Yq1),(5,.dat Yq1)],[]⟩,[⟨[kdB 0],[]⟩],fun x=>kz x.1 x.2.1 x.2.2.1 x.2.2.2.1 x.2.2.2.2.1 x.2.2.2.2.2⟩
theorem sI:aV Tryd.prog nr:=ak func3 sK (by kernel_rfl) (by kernel_rfl)
end
section
section
variable {σ β:Type} {body:σ→Option (σ⊕β)}
theorem eP (st:Nat→σ) (n:Nat) {b:β} (h:∀ k,k < n→body (st k)=some (.inl (st (k + 1)))) (he:body (st n)=some (.inr b)):loop body (st 0)=some b:=by
 have:∀ m k,k + m=n→loop body (st k)=some b:=by
   intro m
   induction m with
   | zero => intro k hk; have : k = n := by omega
             subst this; exact ca he
   | succ m ih=>intro k hk; rw [cj (h k (by omega))]; exact ih (k + 1) (by omega)
 exact this n 0 (by omega)
theorem least (p:Nat→Prop):∀ n,(∃ k,k < n∧p k∧∀ j,j < k→¬ p j)∨∀ j,j < n→¬ p j
 | 0 => .inr (fun j hj=>by omega)
 | n + 1=>by
   rcases least p n with ⟨k,h1,h2,h3⟩ | h
   . exact .inl ⟨k,by omega,h2,h3⟩
   . by_cases hp:p n
     . exact .inl ⟨n,by omega,hp,h⟩
     . exact .inr (fun j hj=>if e:j=n then e ▸ hp else h j (by omega))
theorem uQ (p:Nat→Prop) (st:Nat→σ) (n:Nat) (hit:Nat→β) (e:β) (hgo:∀ k,k < n→¬ p k→body (st k)=some (.inl (st (k + 1)))) (hhit:∀ k,k < n→p k→body (st k)=some (.inr (hit k))) (hend:body (st n)=some (.inr e)) :
   (∃ k,k < n∧p k∧(∀ j,j < k→¬ p j)∧loop body (st 0)=some (hit k))∨((∀ j,j < n→¬ p j)∧loop body (st 0)=some e):=by
 rcases least p n with ⟨k,h1,h2,h3⟩ | h
 . exact .inl ⟨k,h1,h2,h3,eP st k (fun j hj=>hgo j (by omega) (h3 j hj)) (hhit k h1 h2)⟩
 . exact .inr ⟨h,eP st n (fun k hk=>hgo k hk (h k hk)) hend⟩
end
theorem w64 {x:Int} (h1 : -9223372036854775808≤x) (h2:x≤9223372036854775807):IntKind.wrap .i64 x=x:=by
 rw [IntWalk.i64_left,IntWalk.wrap64_in _ ⟨h1,h2⟩]
theorem aX {k n:Nat} (h:k < n) (hn:n≤9223372036854775807):IntKind.wrap .i64 ((k:Int) + 1)=((k + 1:Nat):Int):=by
 rw [w64 (by omega) (by omega)]; rfl
theorem aD {α:Type} {l:List α} {k:Nat} (h:k < l.length):ae l (k:Int)=some l[k]:=qa rfl h
end
set_option linter.unusedSimpArgs false
set_option linter.unnecessarySimpa false
open Go.RowKit
theorem df (x:Nat):BitVec.ofInt 64 (x:Int)=BitVec.ofNat 64 x:=by simp
theorem cb (x:Nat) (h:x < 18446744073709551616):IntKind.wrap .u64 (x:Int)=(x:Int):=by
 rw [IntKind.wrap_u64]
 omega
theorem jg {k:Nat} (hk:k < 64):2 ^ k < 18446744073709551616:=Nat.pow_lt_pow_right (by decide) hk
theorem pW {k:Nat} (hk:k < 64):IntKind.wrap .u64 (1 * 2 ^ (min k (IntKind.bits .u64)))=((2 ^ k:Nat):Int):=by
 have h1:min k (IntKind.bits .u64)=k:=Nat.min_eq_left (Nat.le_of_lt hk)
 rw [h1,Int.one_mul]
 have:=cb (2 ^ k) (jg hk)
 rw [← this]
 congr 1
theorem sd (x y:Nat) (hx:x < 18446744073709551616) (hy:y < 18446744073709551616):IntKind.wrap .u64 ((BitVec.ofInt (IntKind.bits .u64) (x:Int) &&& BitVec.ofInt (IntKind.bits .u64) (y:Int)).toNat:Int)=((x &&& y:Nat):Int):=by
 show IntKind.wrap .u64 ((BitVec.ofInt 64 (x:Int) &&& BitVec.ofInt 64 (y:Int)).toNat:Int)=_
 rw [df,df,BitVec.toNat_and,BitVec.toNat_ofNat,BitVec.toNat_ofNat,Nat.mod_eq_of_lt hx,Nat.mod_eq_of_lt hy]
 exact cb _ (Nat.and_lt_two_pow (n:=64) _ hy)
theorem orU (x y:Nat) (hx:x < 18446744073709551616) (hy:y < 18446744073709551616):IntKind.wrap .u64 ((BitVec.ofInt (IntKind.bits .u64) (x:Int) ||| BitVec.ofInt (IntKind.bits .u64) (y:Int)).toNat:Int)=((x ||| y:Nat):Int):=by
 show IntKind.wrap .u64 ((BitVec.ofInt 64 (x:Int) ||| BitVec.ofInt 64 (y:Int)).toNat:Int)=_
 rw [df,df,BitVec.toNat_or,BitVec.toNat_ofNat,BitVec.toNat_ofNat,Nat.mod_eq_of_lt hx,Nat.mod_eq_of_lt hy]
 exact cb _ (Nat.or_lt_two_pow (n:=64) hx hy)
theorem wc (x k:Nat):(x &&& 2 ^ k=0)↔x.testBit k=false:=by
 constructor
 . intro h
   have:=congrArg (fun n=>n.testBit k) h
   simpa [Nat.testBit_and,Nat.testBit_two_pow_self] using this
 . intro h
   apply Nat.eq_of_testBit_eq
   intro i
   rw [Nat.testBit_and,Nat.testBit_two_pow,Nat.zero_testBit]
   by_cases hi:k=i
   . subst hi; simp [h]
   . simp [hi]
theorem xw (x k i:Nat):(x ||| 2 ^ k).testBit i=(x.testBit i||decide (k=i)):=by
 rw [Nat.testBit_or,Nat.testBit_two_pow]
def Wd (w:Int):Prop:=0≤w∧w < 18446744073709551616
def mem (l:List Int) (i:Nat):Bool:=match l[i / 64]? with | some w=>w.toNat.testBit (i % 64) | none=>false
structure Ds (n:Nat) (l:List Int):Prop where
 hn:n≤1048576
 len:l.length=(n + 63) / 64
 wd:∀ w∈l,Wd w
 top:∀ i,n≤i→mem l i=false
theorem kG {n:Nat} {l:List Int} (i:Int):dd (some ((n:Int),l)) i=some (decide (0≤i∧i < n)):=by
 unfold dd
 rw [show iw (some ((n:Int),l))=some (n:Int) from rfl]
 by_cases h:0≤i
 . simp [h]
 . simp [h]
theorem Ds.word {n:Nat} {l:List Int} (h:Ds n l) {k:Nat} (hk:k < n):∃ x:Nat,l[k / 64]? = some (x:Int)∧x < 18446744073709551616:=by
 have hl:k / 64 < l.length:=by rw [h.len]; omega
 refine ⟨(l[k / 64]).toNat,?_,?_⟩
 . rw [List.getElem?_eq_getElem hl,Int.toNat_of_nonneg (h.wd _ (List.getElem_mem hl)).1]
 . have:=h.wd _ (List.getElem_mem hl)
   unfold Wd at this
   omega
theorem cu {l:List Int} {k x:Nat} (h:l[k / 64]? = some (x:Int)):mem l k=x.testBit (k % 64):=by
 unfold mem
 rw [h]
 simp
theorem lw {n:Nat} {l:List Int} (h:Ds n l) (i:Int):cG (some ((n:Int),l)) i=some (decide (0≤i∧i < n)&&mem l i.toNat):=by
 unfold cG
 rw [kG]
 by_cases hi:0≤i∧i < n
 . obtain ⟨k,rfl⟩:=Int.eq_ofNat_of_zero_le hi.1
   have hk:k < n:=by omega
   have hn:=h.hn
   obtain ⟨x,hx,hx2⟩:=h.word hk
   have e1:IntKind.wrap .i64 (Int.tdiv (k:Int) 64)=((k / 64:Nat):Int):=by
     rw [show Int.tdiv (k:Int) 64=((k / 64:Nat):Int) from rfl]
     exact w64 (by omega) (by omega)
   have e2:Int.tmod (k:Int) 64=((k % 64:Nat):Int):=rfl
   have g:ae l ((k / 64:Nat):Int)=some (x:Int):=by
     unfold ae
     rw [if_pos (Int.natCast_nonneg _),Int.toNat_natCast]
     exact hx
   have hd:decide (0≤(k:Int)∧(k:Int) < n)=true:=by simpa using hk
   rw [hd,e1,e2]
   simp only [Option.bind_some,cond_true,g,lT (Int.natCast_nonneg _),Int.toNat_natCast,Bool.true_and]
   have E:IntKind.wrap .u64 ((BitVec.ofInt (IntKind.bits .u64) (x:Int) &&& BitVec.ofInt (IntKind.bits .u64) (IntKind.wrap .u64 (1 * 2 ^ (min (k % 64) (IntKind.bits .u64))))).toNat:Int)=((x &&& 2 ^ (k % 64):Nat):Int):=by
     rw [pW (Nat.mod_lt k (by decide))]
     exact sd x _ hx2 (jg (Nat.mod_lt k (by decide)))
   simp only [E,cu hx]
   have hb:=wc x (k % 64)
   cases ht:x.testBit (k % 64) with
   | false=>simp [hb.2 ht]
   | true =>
     have:¬ (x &&& 2 ^ (k % 64)=0):=fun e=>by rw [hb.1 e] at ht; cases ht
     have h2:¬ (((x &&& 2 ^ (k % 64):Nat):Int)=0):=by omega
     rw [decide_eq_false h2]
     rfl
 . rw [decide_eq_false hi]
   rfl
theorem pf {l:List Int} {q x y:Nat} (hq:l[q]? = some (x:Int)) (j:Nat):mem (l.set q (y:Int)) j=if j / 64=q then y.testBit (j % 64) else mem l j:=by
 unfold mem
 rw [List.getElem?_set]
 have hlt:q < l.length:=(List.getElem?_eq_some_iff.1 hq).1
 by_cases hj:j / 64=q
 . rw [if_pos hj.symm,if_pos hj,← hj] 
   simp [hj,hlt]
 . rw [if_neg (fun e=>hj e.symm),if_neg hj]
theorem pF {n:Nat} {l:List Int} (h:Ds n l) (i:Int):∃ l',db i n l=some (decide (0≤i∧i < n)&&!mem l i.toNat,l')∧Ds n l'∧∀ j,mem l' j=(mem l j||decide ((0≤i∧i < n)∧i.toNat=j)):=by
 unfold db
 rw [kG,lw h]
 by_cases hi:0≤i∧i < n
 . rw [decide_eq_true hi]
   cases hm:mem l i.toNat with
   | true=>exact ⟨l,rfl,h,fun j=>by
       by_cases hj:i.toNat=j
       . subst hj; simp [hm]
       . simp [hj]⟩
   | false =>
     obtain ⟨k,rfl⟩:=Int.eq_ofNat_of_zero_le hi.1
     have hk:k < n:=by omega
     have hn:=h.hn
     obtain ⟨x,hx,hx2⟩:=h.word hk
     have e1:IntKind.wrap .i64 (Int.tdiv (k:Int) 64)=((k / 64:Nat):Int):=by
       rw [show Int.tdiv (k:Int) 64=((k / 64:Nat):Int) from rfl]
       exact w64 (by omega) (by omega)
     have e2:Int.tmod (k:Int) 64=((k % 64:Nat):Int):=rfl
     have g:ae l ((k / 64:Nat):Int)=some (x:Int):=by
       unfold ae
       rw [if_pos (Int.natCast_nonneg _),Int.toNat_natCast]
       exact hx
     have E:IntKind.wrap .u64 ((BitVec.ofInt (IntKind.bits .u64) (x:Int) ||| BitVec.ofInt (IntKind.bits .u64) (IntKind.wrap .u64 (1 * 2 ^ (min (k % 64) (IntKind.bits .u64))))).toNat:Int)=((x ||| 2 ^ (k % 64):Nat):Int):=by
       rw [pW (Nat.mod_lt k (by decide))]
       exact orU x _ hx2 (jg (Nat.mod_lt k (by decide)))
     have hlt:k / 64 < l.length:=(List.getElem?_eq_some_iff.1 hx).1
     have hmem:∀ j,mem (l.set (k / 64) ((x ||| 2 ^ (k % 64):Nat):Int)) j=(mem l j||decide (((0:Int)≤(k:Int)∧(k:Int) < n)∧k=j)):=fun j=>by
       rw [pf hx]
       by_cases hj:j / 64=k / 64
       . rw [if_pos hj,xw,cu (by rw [hj]; exact hx)]
         have:(k % 64=j % 64)↔k=j:=by omega
         simp [this,hk]
       . rw [if_neg hj]
         have:¬ k=j:=fun e=>hj (by rw [e])
         simp [this]
     refine ⟨l.set (k / 64) ((x ||| 2 ^ (k % 64):Nat):Int),?_,⟨hn,by rw [List.length_set]; exact h.len,fun w hw=>?_,fun j hj=>?_⟩,hmem⟩
     . rw [e1,e2]
       simp only [Option.bind_some,cond_true,cond_false,g,lT (Int.natCast_nonneg _),Int.toNat_natCast,Bool.true_and,Bool.not_true,Bool.not_false,E]
     . rcases List.mem_or_eq_of_mem_set hw with hw | rfl
       . exact h.wd w hw
       . have:=Nat.or_lt_two_pow (n:=64) hx2 (jg (Nat.mod_lt k (by decide)))
         unfold Wd
         omega
     . rw [hmem,h.top j hj]
       have:¬ k=j:=by omega
       simp [this]
 . rw [decide_eq_false hi]
   exact ⟨l,rfl,h,fun j=>by simp [hi]⟩
theorem iY (x r j:Nat):(x / 2 ^ r * 2 ^ r).testBit j=(decide (r≤j)&&x.testBit j):=by
 rw [Nat.testBit_mul_two_pow]
 by_cases h:r≤j
 . rw [Nat.testBit_div_two_pow,Nat.sub_add_cancel h]
 . simp [h]
theorem uh (x r:Nat) (hx:x < 18446744073709551616) (hr:r < 64):IntKind.wrap .u64 ((Int.fdiv (x:Int) (2 ^ (min r (IntKind.bits .u64)))) * 2 ^ (min r (IntKind.bits .u64)))=((x / 2 ^ r * 2 ^ r:Nat):Int):=by
 have h1:min r (IntKind.bits .u64)=r:=Nat.min_eq_left (Nat.le_of_lt hr)
 have hp:((2:Int) ^ r)=((2 ^ r:Nat):Int):=by simp
 have h2:Int.fdiv (x:Int) ((2 ^ r:Nat):Int)=((x / 2 ^ r:Nat):Int):=by
   rw [Int.fdiv_eq_ediv_of_nonneg _ (Int.natCast_nonneg _)]
   rfl
 rw [h1,hp,h2,← Int.natCast_mul]
 exact cb _ (Nat.lt_of_le_of_lt (Nat.div_mul_le_self x (2 ^ r)) hx)
theorem wy {x:Nat} (h0:x≠0) (h:x < 18446744073709551616):Lib.ctz 64 x < 64∧x.testBit (Lib.ctz 64 x)=true∧∀ j,j < Lib.ctz 64 x→x.testBit j=false:=by
 have h':x < 2 ^ 64:=h
 obtain ⟨m,hm,hk⟩:=Lib.ctzFrom_spec 64 x (by omega) h'
 have e:Lib.ctz 64 x=Lib.ctzFrom 64 x:=by simp [Lib.ctz,h0]
 rw [e]
 clear e
 revert hm hk
 generalize Lib.ctzFrom 64 x=c
 intro hm hk
 refine ⟨hk,?_,fun j hj=>?_⟩
 . rw [hm,Nat.mul_comm,Nat.testBit_mul_two_pow]
   simp
 . rw [hm,Nat.mul_comm,Nat.testBit_mul_two_pow]
   simp [Nat.not_le.2 hj]
theorem uM {n:Int} {l:List Int} (hw:∀ w∈l,Wd w) (hlen:l.length≤20000):∀ (d a w:Nat),a + 1 + d=l.length→w < 18446744073709551616 →
   ∃ r,loop (eA (n,l)) ((a:Int),(w:Int))=some r∧((r = .inr (-1)∧w=0∧∀ q,a < q→q < l.length→l[q]? = some 0) ∨
     ∃ b v:Nat,r = .inl ((b:Int),(v:Int))∧v≠0∧v < 18446744073709551616∧a≤b∧b < l.length∧((b=a∧v=w)∨(a < b∧w=0∧l[b]? = some (v:Int)))∧∀ q,a < q→q < b→l[q]? = some 0):=by
 intro d
 induction d with
 | zero =>
   intro a w ha hx
   by_cases h0:w=0
   . subst h0
     refine ⟨.inr (-1),ca ?_,.inl ⟨rfl,rfl,fun q h1 h2=>by omega⟩⟩
     have e:IntKind.wrap .i64 ((a:Int) + 1)=((l.length:Nat):Int):=by rw [w64 (by omega) (by omega)]; omega
     unfold eA
     simp [e]
   . refine ⟨.inl ((a:Int),(w:Int)),ca ?_,.inr ⟨a,w,rfl,h0,hx,Nat.le_refl a,by omega,.inl ⟨rfl,rfl⟩,fun q h1 h2=>by omega⟩⟩
     have h1:¬ ((w:Int)=0):=by omega
     unfold eA
     simp [h1,h0]
 | succ d ih =>
   intro a w ha hx
   by_cases h0:w=0
   . subst h0
     have hlt:a + 1 < l.length:=by omega
     have hwd:=hw _ (List.getElem_mem hlt)
     obtain ⟨x,hxe⟩:∃ x:Nat,l[a + 1]=(x:Int):=⟨l[a + 1].toNat,(Int.toNat_of_nonneg hwd.1).symm⟩
     have hx2:x < 18446744073709551616:=by have:=hwd.2; rw [hxe] at this; omega
     have hq:l[a + 1]? = some (x:Int):=by rw [List.getElem?_eq_getElem hlt,hxe]
     obtain ⟨r,h1,h2⟩:=ih (a + 1) x (by omega) hx2
     have e:IntKind.wrap .i64 ((a:Int) + 1)=((a + 1:Nat):Int):=by rw [w64 (by omega) (by omega)]; rfl
     have hne:¬ (((a + 1:Nat):Int)=((l.length:Nat):Int)):=by omega
     have hg:ae l ((a + 1:Nat):Int)=some (x:Int):=by
       unfold ae
       rw [if_pos (Int.natCast_nonneg _),Int.toNat_natCast]
       exact hq
     refine ⟨r,(cj (s':=(((a + 1:Nat):Int),(x:Int))) ?_).trans h1,?_⟩
     . unfold eA
       simp only [e,hg,Option.bind_some,decide_eq_false hne,cond_false]
       rfl
     . rcases h2 with ⟨h3,h4,h5⟩ | ⟨b,v,h3,h4,h5,h6,h7,h8,h9⟩
       . refine .inl ⟨h3,rfl,fun q g1 g2=>?_⟩
         by_cases hqa:q=a + 1
         . subst hqa; rw [hq,h4]; rfl
         . exact h5 q (by omega) g2
       . refine .inr ⟨b,v,h3,h4,h5,by omega,h7,.inr ?_,fun q g1 g2=>?_⟩
         . rcases h8 with ⟨rfl,rfl⟩ | ⟨g1,g2,g3⟩
           . exact ⟨by omega,rfl,hq⟩
           . exact ⟨by omega,rfl,g3⟩
         . by_cases hqa:q=a + 1
           . subst hqa
             rcases h8 with ⟨rfl,rfl⟩ | ⟨k1,k2,k3⟩
             . omega
             . rw [hq,k2]; rfl
           . exact h9 q (by omega) g2
   . refine ⟨.inl ((a:Int),(w:Int)),ca ?_,.inr ⟨a,w,rfl,h0,hx,Nat.le_refl a,by omega,.inl ⟨rfl,rfl⟩,fun q h1 h2=>by omega⟩⟩
     have h1:¬ ((w:Int)=0):=by omega
     unfold eA
     simp [h1,h0]
theorem ll {l:List Int} {j:Nat} (h:∀ w,l[j / 64]? = some w→w=0):mem l j=false:=by
 unfold mem
 cases hl:l[j / 64]? with
 | none=>rfl
 | some w=>rw [h w hl]; simp
theorem ug {n:Nat} {l:List Int} (h:Ds n l) (i:Int):∃ r,cF (some ((n:Int),l)) i=some r∧((r = -1∧∀ j:Nat,i≤(j:Int)→mem l j=false) ∨
   ∃ k:Nat,r=(k:Int)∧i≤(k:Int)∧mem l k=true∧∀ j:Nat,i≤(j:Int)→j < k→mem l j=false):=by
 obtain ⟨c,hc⟩:∃ c:Nat,(if i < 0 then 0 else i)=(c:Int):=⟨(if i < 0 then 0 else i).toNat,by split <;> omega⟩
 have hci:∀ j:Nat,i≤(j:Int)↔c≤j:=fun j=>by split at hc <;> omega
 have hn:=h.hn
 have hl:=h.len
 unfold cF
 simp only [hc,kG,Option.bind_some]
 by_cases hk:c < n
 . have hd : decide (0 ≤ (c : Int) ∧ (c : Int) < n) = true := by simpa using hk
   obtain ⟨x,hx,hx2⟩:=h.word hk
   have e1:IntKind.wrap .i64 (Int.tdiv (c:Int) 64)=((c / 64:Nat):Int):=by
     rw [show Int.tdiv (c:Int) 64=((c / 64:Nat):Int) from rfl]
     exact w64 (by omega) (by omega)
   have e2:Int.tmod (c:Int) 64=((c % 64:Nat):Int):=rfl
   have g:ae l ((c / 64:Nat):Int)=some (x:Int):=by
     unfold ae
     rw [if_pos (Int.natCast_nonneg _),Int.toNat_natCast]
     exact hx
   have hr:c % 64 < 64:=Nat.mod_lt c (by decide)
   have hw2:x / 2 ^ (c % 64) * 2 ^ (c % 64) < 18446744073709551616:=Nat.lt_of_le_of_lt (Nat.div_mul_le_self x _) hx2
   obtain ⟨r,hlp,hcase⟩:=uM (n:=(n:Int)) h.wd (by omega) (l.length - 1 - c / 64) (c / 64) _ (by omega) hw2
   simp only [hd,Bool.not_true,cond_false,e1,e2,g,Option.bind_some,lT (Int.natCast_nonneg _),Int.toNat_natCast,uh x _ hx2 hr,hlp]
   rcases hcase with ⟨rfl,h4,h5⟩ | ⟨b,v,rfl,h4,h5,h6,h7,h8,h9⟩
   . refine ⟨-1,rfl,.inl ⟨rfl,fun j hj=>?_⟩⟩
     have hj:=(hci j).1 hj
     by_cases hja:j / 64=c / 64
     . rw [cu (by rw [hja]; exact hx)]
       have:=iY x (c % 64) (j % 64)
       rw [h4,Nat.zero_testBit] at this
       have hle:c % 64≤j % 64:=by omega
       simpa [hle] using this.symm
     . refine ll (fun w hw=>?_)
       have hlt:=(List.getElem?_eq_some_iff.1 hw).1
       rw [h5 (j / 64) (by omega) hlt] at hw
       exact (Option.some.inj hw).symm
   . obtain ⟨t1,t2,t3⟩:=wy h4 h5
     have ht:tzF (v:Int)=some ((Lib.ctz 64 v:Nat):Int):=by
       unfold tzF
       rw [if_pos ⟨Int.natCast_nonneg _,by omega⟩,Int.toNat_natCast]
     have e3:IntKind.wrap .i64 (IntKind.wrap .i64 ((b:Int) * 64) + ((Lib.ctz 64 v:Nat):Int))=((b * 64 + Lib.ctz 64 v:Nat):Int):=by
       rw [w64 (x:=(b:Int) * 64) (by omega) (by omega),w64 (by omega) (by omega)]
       omega
     refine ⟨((b * 64 + Lib.ctz 64 v:Nat):Int),by simp only [ht,Option.bind_some,e3],.inr ⟨_,rfl,?_⟩⟩
     generalize Lib.ctz 64 v=z at t1 t2 t3
     have d1:(b * 64 + z) / 64=b:=by omega
     have d2:(b * 64 + z) % 64=z:=by omega
     rcases h8 with ⟨rfl,rfl⟩ | ⟨g1,g2,g3⟩
     . rw [iY,Bool.and_eq_true] at t2
       have hz:c % 64≤z:=by simpa using t2.1
       refine ⟨(hci _).2 (by omega),?_,fun j hj hjk=>?_⟩
       . rw [cu (x:=x) (by rw [d1]; exact hx),d2]
         exact t2.2
       . have hj:=(hci j).1 hj
         have:=t3 (j % 64) (by omega)
         rw [iY] at this
         rw [cu (by rw [show j / 64=c / 64 by omega]; exact hx)]
         have hle:c % 64≤j % 64:=by omega
         simpa [hle] using this
     . refine ⟨(hci _).2 (by omega),?_,fun j hj hjk=>?_⟩
       . rw [cu (x:=v) (by rw [d1]; exact g3),d2]
         exact t2
       . have hj:=(hci j).1 hj
         by_cases hja:j / 64=c / 64
         . rw [cu (by rw [hja]; exact hx)]
           have:=iY x (c % 64) (j % 64)
           rw [g2,Nat.zero_testBit] at this
           have hle:c % 64≤j % 64:=by omega
           simpa [hle] using this.symm
         . by_cases hjb:j / 64=b
           . rw [cu (by rw [hjb]; exact g3)]
             exact t3 _ (by omega)
           . exact ll (fun w hw=>by
               rw [h9 (j / 64) (by omega) (by omega)] at hw
               exact (Option.some.inj hw).symm)
 . have hd:decide (0≤(c:Int)∧(c:Int) < n)=false:=by simpa using hk
   simp only [hd,Bool.not_false,cond_true]
   exact ⟨-1,rfl,.inl ⟨rfl,fun j hj=>h.top j (by have:=(hci j).1 hj; omega)⟩⟩
theorem gE (m j:Nat):mem (List.replicate m 0) j=false:=ll (fun w hw=>by
 rw [List.getElem?_replicate] at hw
 split at hw
 . exact (Option.some.inj hw).symm
 . cases hw)
theorem qQ {n:Nat} (h:n≤1048576):Ds n (List.replicate ((n + 63) / 64) 0) :=
 ⟨h,List.length_replicate,fun w hw=>by
   obtain ⟨_,rfl⟩:=List.mem_replicate.1 hw
   exact ⟨Int.le_refl _,by decide⟩,fun j _=>gE _ j⟩
theorem vZ (n:Int):ci n=if n < 0 then some (.inl 2) else if 1048576 < n then some (.inl 5) else some (.inr (0,n,List.replicate ((n.toNat + 63) / 64) 0)):=by
 unfold ci
 by_cases h1:n < 0
 . simp [h1]
 . by_cases h2:1048576 < n
   . simp [h1,h2]
   . obtain ⟨k,rfl⟩:=Int.eq_ofNat_of_zero_le (by omega:0≤n)
     have e:IntKind.wrap .i64 (Int.tdiv (IntKind.wrap .i64 (IntKind.wrap .i64 ((k:Int) + 64) - 1)) 64)=(((k + 63) / 64:Nat):Int):=by
       rw [w64 (x:=(k:Int) + 64) (by omega) (by omega),w64 (x:=(k:Int) + 64 - 1) (by omega) (by omega),show (k:Int) + 64 - 1=((k + 63:Nat):Int) by omega]
       rw [show Int.tdiv ((k + 63:Nat):Int) 64=(((k + 63) / 64:Nat):Int) from rfl]
       exact w64 (by omega) (by omega)
     rw [e]
     have hm:(mk ((((k + 63) / 64:Nat):Int)) ((((k + 63) / 64:Nat):Int)) (0:Int))=some (List.replicate ((k + 63) / 64) 0):=by
       unfold mk
       rw [if_pos (by constructor <;> omega),Int.toNat_natCast]
     rw [hm]
     simp [h1,h2]
def dH (n:Nat) (l:List Int):List Nat:=(List.range n).filter (mem l)
def liN (L:List Nat):List Int:=L.map Int.ofNat
theorem n7 {p:Nat→Bool} {c:Nat}:∀ (d:Nat),(∀ j,c≤j→j < c + d→p j=false)→(List.range (c + d)).filter p=(List.range c).filter p
 | 0,_=>rfl
 | d + 1,h=>by
   rw [← Nat.add_assoc,List.range_succ,List.filter_append,n7 d (fun j h1 h2=>h j h1 (by omega))]
   simp [h (c + d) (by omega) (by omega)]
theorem kS (p:Nat→Bool) (c:Nat):((List.range c).filter p).length≤c:=by
 have:=List.length_filter_le p (List.range c)
 simpa using this
section
theorem dlt {k n:Nat} (h:k < n):decide ((k:Int) < (n:Int))=true:=by simp; omega
theorem dge {k n:Nat} (h:¬ k < n):decide ((k:Int) < (n:Int))=false:=by simp; omega
section
variable {α β γ σ:Type}
theorem nM {body:Int→Option (Int⊕β)} (xa:List α) (t:α→Bool) (hit:Nat→β) (e:β) (hb:∀ (k:Nat) (h:k < xa.length),body (k:Int)=some (if t xa[k] then .inr (hit k) else .inl ((k + 1:Nat):Int))) (he:body (xa.length:Int)=some (.inr e)) :
   loop body 0=some (match xa.findIdx? t with | some k=>hit k | none=>e):=by
 rcases uQ (fun k=>∃ h:k < xa.length,t xa[k]=true) (fun k:Nat=>(k:Int)) xa.length hit e (fun k hk hp=>by
     rw [hb k hk,if_neg (fun h=>hp ⟨hk,h⟩)]) (fun k hk ⟨_,hp⟩=>by rw [hb k hk,if_pos hp]) he with ⟨k,h1,⟨_,h2⟩,h3,h4⟩ | ⟨h1,h2⟩
 . rw [show ((0:Int))=((0:Nat):Int) from rfl,h4]
   have:xa.findIdx? t=some k:=by
     rw [List.findIdx?_eq_some_iff_getElem]
     exact ⟨h1,h2,fun j hj=>fun hc=>h3 j hj ⟨by omega,by simpa using hc⟩⟩
   rw [this]
 . rw [show ((0:Int))=((0:Nat):Int) from rfl,h2]
   have:xa.findIdx? t=none:=by
     rw [List.findIdx?_eq_none_iff]
     intro x hx
     obtain ⟨k,hk,rfl⟩:=List.getElem_of_mem hx
     cases hc:t xa[k] with
     | false=>rfl
     | true=>exact absurd ⟨hk,hc⟩ (h1 k hk)
   rw [this]
theorem uG {body:Int→Option (Int⊕β)} (xa:List α) (t:α→Bool) (hit e:β) (hb:∀ (k:Nat) (h:k < xa.length),body (k:Int)=some (if t xa[k] then .inr hit else .inl ((k + 1:Nat):Int))) (he:body (xa.length:Int)=some (.inr e)) :
   loop body 0=some (if xa.any t then hit else e):=by
 rw [nM xa t (fun _=>hit) e hb he]
 cases h:xa.findIdx? t with
 | none =>
   have:xa.any t=false:=by
     rw [List.any_eq_false]; intro x hx; have:=List.findIdx?_eq_none_iff.1 h x hx; simp [this]
   rw [this]; rfl
 | some k =>
   obtain ⟨hk,h1,_⟩:=List.findIdx?_eq_some_iff_getElem.1 h
   have:xa.any t=true:=List.any_eq_true.2 ⟨_,List.getElem_mem hk,h1⟩
   rw [this]; rfl
theorem tS [DecidableEq α] {body:Int→Option (Int⊕β)} (xa xb:List α) (hit e:β) (hl:xa.length=xb.length) (hb:∀ (k:Nat) (h:k < xa.length),body (k:Int)=some (if xa[k]=(xb[k]'(by omega)) then .inl ((k + 1:Nat):Int) else .inr hit)) (he:body (xa.length:Int)=some (.inr e)) :
   loop body 0=some (if xa=xb then e else hit):=by
 rw [nM (List.range xa.length) (fun k=>decide (xa[k]?≠xb[k]?)) (fun _=>hit) e (fun k h=>by
     simp at h
     rw [hb k h]
     have h2:k < xb.length:=by omega
     by_cases hq:xa[k]=xb[k] <;> simp [h,h2,hq]) (by simpa using he)]
 by_cases hq:xa=xb
 . subst hq
   have:(List.range xa.length).findIdx? (fun k=>decide (xa[k]?≠xa[k]?))=none:=by rw [List.findIdx?_eq_none_iff]; simp
   rw [this]; simp
 . cases h:(List.range xa.length).findIdx? (fun k=>decide (xa[k]?≠xb[k]?)) with
   | some k=>simp [hq]
   | none =>
     exfalso; apply hq
     rw [List.findIdx?_eq_none_iff] at h
     apply List.ext_getElem?
     intro k
     by_cases hk:k < xa.length
     . simpa using h k (List.mem_range.2 hk)
     . rw [List.getElem?_eq_none (by omega),List.getElem?_eq_none (by omega)]
theorem gm {l:List α} {k:Nat} (h:k < l.length):l.take (k + 1)=l.take k++[l[k]]:=List.take_succ_eq_append_getElem h
theorem zi {a b:Nat} (h:a=b):(!decide ((a:Int)=(b:Int)))=false:=by simp [h]
theorem yf {a b:Nat} (h:¬ a=b):(!decide ((a:Int)=(b:Int)))=true:=by simp; omega
end
end
def pc:Nat→Nat→Nat
 | 0,_=>0
 | n + 1,x=>(x % 2) + pc n (x / 2)
theorem gf (a b y M:Nat) (ha:a < 256) (hb:b < 256):(a + 256 * y) &&& (b + 256 * M)=(a &&& b) + 256 * (y &&& M):=by
 have h1:a &&& b < 256:=Nat.and_lt_two_pow (n:=8) a hb
 apply Nat.eq_of_testBit_eq
 intro i
 have e:∀ (u v:Nat),u < 256→(u + 256 * v).testBit i=if i < 8 then u.testBit i else v.testBit (i - 8):=fun u v hu=>by
   rw [Nat.add_comm,show 256 * v=2 ^ 8 * v from rfl,Nat.testBit_two_pow_mul_add v (show u < 2 ^ 8 from hu)]
 rw [Nat.testBit_and,e a y ha,e b M hb,e _ _ h1]
 split <;> simp [Nat.testBit_and]
theorem ja (P:Nat→Bool) (h:(List.range 256).all P=true) {a:Nat} (ha:a < 256):P a=true:=List.all_eq_true.1 h a (List.mem_range.2 ha)
def s1 (M x:Nat):Nat:=((x / 2) &&& M) + (x &&& M)
def s2 (M x:Nat):Nat:=((x / 4) &&& M) + (x &&& M)
def s3 (M x:Nat):Nat:=(x / 16 + x) &&& M
theorem uR (a y M:Nat) (ha:a < 256):s1 (85 + 256 * M) (a + 256 * y)=s1 85 a + 256 * s1 M y:=by
 unfold s1
 have h2:(a + 256 * y) / 2=(a / 2 + 128 * (y % 2)) + 256 * (y / 2):=by omega
 have h3:(a / 2 + 128 * (y % 2)) &&& 85=(a / 2) &&& 85:=by
   have h4:y % 2=0∨y % 2=1:=by omega
   rcases h4 with h4 | h4
   . rw [h4]; rfl
   . rw [h4]
     have:=ja (fun a=>decide (((a / 2 + 128 * 1) &&& 85)=((a / 2) &&& 85))) (by decide +kernel) ha
     exact of_decide_eq_true this
 rw [gf a 85 y M ha (by decide),h2,gf _ 85 _ M (by omega) (by decide),h3]
 omega
theorem xP {a:Nat} (ha:a < 256):s1 85 a < 256:=by
 have:=ja (fun a=>decide (s1 85 a < 256)) (by decide +kernel) ha
 exact of_decide_eq_true this
theorem uS (a y M:Nat) (ha:a < 256):s2 (51 + 256 * M) (a + 256 * y)=s2 51 a + 256 * s2 M y:=by
 unfold s2
 have h2:(a + 256 * y) / 4=(a / 4 + 64 * (y % 4)) + 256 * (y / 4):=by omega
 have h3:(a / 4 + 64 * (y % 4)) &&& 51=(a / 4) &&& 51:=by
   have h4:y % 4=0∨y % 4=1∨y % 4=2∨y % 4=3:=by omega
   have:=ja (fun a=>decide (((a / 4 + 64 * 1) &&& 51)=((a / 4) &&& 51)∧((a / 4 + 64 * 2) &&& 51)=((a / 4) &&& 51)∧((a / 4 + 64 * 3) &&& 51)=((a / 4) &&& 51))) (by decide +kernel) ha
   have:=of_decide_eq_true this
   rcases h4 with h4 | h4 | h4 | h4 <;> rw [h4]
   . rfl
   . exact this.1
   . exact this.2.1
   . exact this.2.2
 rw [gf a 51 y M ha (by decide),h2,gf _ 51 _ M (by omega) (by decide),h3]
 omega
theorem pS {a:Nat} (ha:a < 256):((s2 51 (s1 85 a)) / 16 + (s2 51 (s1 85 a)) % 16)=pc 8 a∧(s2 51 (s1 85 a)) % 16≤4∧(s2 51 (s1 85 a)) / 16≤4∧s2 51 (s1 85 a) < 256∧pc 8 a≤8:=by
 have:=ja (fun a=>decide (((s2 51 (s1 85 a)) / 16 + (s2 51 (s1 85 a)) % 16)=pc 8 a∧(s2 51 (s1 85 a)) % 16≤4∧(s2 51 (s1 85 a)) / 16≤4∧s2 51 (s1 85 a) < 256∧pc 8 a≤8)) (by decide +kernel) ha
 exact of_decide_eq_true this
theorem va (a y M:Nat) (ha:a < 256) (h1:a % 16≤4) (h2:a / 16≤4) (h3:y % 16≤4):s3 (15 + 256 * M) (a + 256 * y)=(a / 16 + a % 16) + 256 * s3 M y:=by
 unfold s3
 have e:(a + 256 * y) / 16 + (a + 256 * y)=(a / 16 + a % 16 + 16 * (a / 16 + y % 16)) + 256 * (y / 16 + y):=by omega
 rw [e,gf _ 15 _ M (by omega) (by decide)]
 have:(a / 16 + a % 16 + 16 * (a / 16 + y % 16)) &&& 15=a / 16 + a % 16:=by
   rw [show (15:Nat)=2 ^ 4 - 1 from rfl,Nat.and_two_pow_sub_one_eq_mod]
   omega
 rw [this]
theorem qR:∀ (n m x:Nat),pc (n + m) x=pc n x + pc m (x / 2 ^ n)
 | 0,m,x=>by simp [pc]
 | n + 1,m,x=>by
   rw [show n + 1 + m=(n + m) + 1 by omega,show pc ((n + m) + 1) x=x % 2 + pc (n + m) (x / 2) from rfl,show pc (n + 1) x=x % 2 + pc n (x / 2) from rfl]
   rw [qR n m,Nat.div_div_eq_div_mul,Nat.pow_succ,Nat.mul_comm 2]
   omega
theorem xR (a y:Nat) (ha:a < 256):pc 8 (a + 256 * y)=pc 8 a:=by
 unfold pc pc pc pc pc pc pc pc pc
 omega
def cU:Nat→Nat→Nat
 | _,0=>0
 | b,n + 1=>b + 256 * cU b n
def pcs:Nat→Nat→Nat
 | 0,_=>0
 | n + 1,x=>pc 8 (x % 256) + 256 * pcs n (x / 256)
theorem ym (n:Nat):∀ x,x < 256 ^ n→s3 (cU 15 n) (s2 (cU 51 n) (s1 (cU 85 n) x))=pcs n x∧(s2 (cU 51 n) (s1 (cU 85 n) x)) % 16≤4:=by
 induction n with
 | zero => intro x hx; have : x = 0 := by simp at hx; omega
           subst this; decide
 | succ n ih =>
   intro x hx
   have hx2:x / 256 < 256 ^ n:=by
     rw [Nat.pow_succ] at hx
     exact Nat.div_lt_of_lt_mul (by rw [Nat.mul_comm]; exact hx)
   obtain ⟨i1,i2⟩:=ih _ hx2
   have ha:x % 256 < 256:=Nat.mod_lt _ (by decide)
   obtain ⟨b1,b2,b3,b4,b5⟩:=pS ha
   have e:x=x % 256 + 256 * (x / 256):=by omega
   unfold cU
   have e1:s1 (85 + 256 * cU 85 n) x=s1 85 (x % 256) + 256 * s1 (cU 85 n) (x / 256):=by
     conv=>lhs; rw [e]
     exact uR _ _ _ ha
   rw [e1,uS _ _ _ (xP ha),va _ _ _ b4 b2 b3 i2,i1,b1]
   refine ⟨rfl,?_⟩
   omega
theorem wO (x:Nat) (hx:x < 18446744073709551616):s3 1085102592571150095 (s2 3689348814741910323 (s1 6148914691236517205 x))=pcs 8 x :=
 (ym 8 x hx).1
theorem yA (x:Nat):∃ p0 p1 p2 p3 p4 p5 p6 p7:Nat,pcs 8 x=p0 + 256 * (p1 + 256 * (p2 + 256 * (p3 + 256 * (p4 + 256 * (p5 + 256 * (p6 + 256 * (p7 + 256 * 0)))))))∧pc 64 x=p0 + p1 + p2 + p3 + p4 + p5 + p6 + p7∧p0≤8∧p1≤8∧p2≤8∧p3≤8∧p4≤8∧p5≤8∧p6≤8∧p7≤8:=by
 have h:∀ y,pc 8 (y % 256)≤8:=fun y=>(pS (Nat.mod_lt y (by decide))).2.2.2.2
 have g:∀ m y,pc (8 + m) y=pc 8 (y % 256) + pc m (y / 256):=fun m y=>by
   rw [qR 8 m]
   congr 1
   conv=>lhs; rw [show y=y % 256 + 256 * (y / 256) by omega]
   exact xR _ _ (Nat.mod_lt _ (by decide))
 refine ⟨_,_,_,_,_,_,_,_,rfl,?_,h _,h _,h _,h _,h _,h _,h _,h _⟩
 rw [show (64:Nat)=8 + (8 + (8 + (8 + (8 + (8 + (8 + (8 + 0))))))) from rfl,g,g,g,g,g,g,g,g]
 simp only [pc]
 omega
theorem dv {k L R x:Nat} (hk:0 < k) (h:x=L + k * R) (hL:L < k):x / k=R:=by
 rw [h,Nat.add_mul_div_left _ _ hk,Nat.div_eq_of_lt hL,Nat.zero_add]
theorem zO {y z u v s:Nat} {p0 p1 p2 p3 p4 p5 p6 p7:Nat} (hy:y=p0 + 256 * (p1 + 256 * (p2 + 256 * (p3 + 256 * (p4 + 256 * (p5 + 256 * (p6 + 256 * (p7 + 256 * 0)))))))) (hs:s=p0 + p1 + p2 + p3 + p4 + p5 + p6 + p7) (h0:p0≤8) (h1:p1≤8) (h2:p2≤8) (h3:p3≤8) (h4:p4≤8) (h5:p5≤8) (h6:p6≤8) (h7:p7≤8)
   (hz:z=y + y / 256) (hu:u=z + z / 65536) (hv:v=u + u / 4294967296):v % 128=s∧v < 9223372036854775808:=by
 have e1:y / 256=p1 + 256 * (p2 + 256 * (p3 + 256 * (p4 + 256 * (p5 + 256 * (p6 + 256 * p7))))):=dv (L:=p0) (by decide) (by rw [hy]; rfl) (by omega)
 rw [e1,hy] at hz
 have e2:z / 65536=(p2 + p3) + 256 * ((p3 + p4) + 256 * ((p4 + p5) + 256 * ((p5 + p6) + 256 * ((p6 + p7) + 256 * p7)))):=dv (L:=(p0 + p1) + 256 * (p1 + p2)) (by decide) (by rw [hz]; clear hz hu hv hy e1; omega) (by clear hz hu hv hy e1; omega)
 rw [e2,hz] at hu
 clear e1 e2 hz hy
 have e3:u / 4294967296=(p4 + p5 + p6 + p7) + 256 * ((p5 + p6 + p7) + 256 * ((p6 + p7) + 256 * p7)):=dv (L:=(p0 + p1 + p2 + p3) + 256 * ((p1 + p2 + p3 + p4) + 256 * ((p2 + p3 + p4 + p5) + 256 * (p3 + p4 + p5 + p6)))) (by decide) (by rw [hu]; clear hu hv; omega) (by clear hu hv; omega)
 rw [e3,hu] at hv
 clear e3 hu
 refine ⟨?_,by omega⟩
 have:v=s + 128 * (2 * ((p1+p2+p3+p4 + (p5+p6+p7)) + 256 * ((p2+p3+p4+p5 + (p6+p7)) + 256 * ((p3+p4+p5+p6 + p7) + 256 * ((p4+p5+p6+p7) + 256 * ((p5+p6+p7) + 256 * ((p6+p7) + 256 * p7))))))):=by rw [hv,hs]; clear hv hs; omega
 rw [this,Nat.add_mul_mod_self_left]
 exact Nat.mod_eq_of_lt (by omega)

def ocA (x m:Int):Int:=IntKind.wrap .u64 ((BitVec.ofInt (IntKind.bits .u64) x &&& BitVec.ofInt (IntKind.bits .u64) m).toNat:Int)
def ocS (x:Int) (k:Nat):Int:=Int.fdiv x (2 ^ (min k (IntKind.bits .u64)))
def oc1 (x:Int):Int:=IntKind.wrap .u64 (ocA (ocS x 1) 6148914691236517205 + ocA x 6148914691236517205)
def oc2 (x:Int):Int:=IntKind.wrap .u64 (ocA (ocS x 2) 3689348814741910323 + ocA x 3689348814741910323)
def oc3 (x:Int):Int:=ocA (IntKind.wrap .u64 (ocS x 4 + x)) 1085102592571150095
def oc4 (x:Int):Int:=IntKind.wrap .u64 (x + ocS x 8)
def oc5 (x:Int):Int:=IntKind.wrap .u64 (x + ocS x 16)
def oc6 (x:Int):Int:=IntKind.wrap .u64 (x + ocS x 32)
theorem ue (x:Int):iq x=some (IntKind.wrap .i64 ((BitVec.ofInt (IntKind.bits .i64) (IntKind.wrap .i64 (oc6 (oc5 (oc4 (oc3 (oc2 (oc1 x))))))) &&& BitVec.ofInt (IntKind.bits .i64) 127).toNat:Int)):=rfl
theorem gM (x m:Nat) (M:Int) (hM:M=(m:Int)) (hx:x < 18446744073709551616) (hm:m < 18446744073709551616):ocA (x:Int) M=((x &&& m:Nat):Int):=by
 rw [hM]
 exact sd x m hx hm
theorem fi (x k:Nat) (hk:k < 64):ocS (x:Int) k=((x / 2 ^ k:Nat):Int):=by
 unfold ocS
 have h1:min k (IntKind.bits .u64)=k:=Nat.min_eq_left (Nat.le_of_lt hk)
 have hp:((2:Int) ^ k)=((2 ^ k:Nat):Int):=by simp
 rw [h1,hp,Int.fdiv_eq_ediv_of_nonneg _ (Int.natCast_nonneg _)]
 rfl
theorem du (x m:Nat):x &&& m≤m:=Nat.and_le_right
theorem xp (x:Nat) (hx:x < 18446744073709551616):oc1 (x:Int)=((s1 6148914691236517205 x:Nat):Int):=by
 unfold oc1 s1
 rw [fi x 1 (by decide),gM (x / 2 ^ 1) 6148914691236517205 6148914691236517205 rfl (by omega) (by decide),gM x 6148914691236517205 6148914691236517205 rfl hx (by decide),← Int.natCast_add]
 have b1:=du (x / 2 ^ 1) 6148914691236517205
 have b2:=du x 6148914691236517205
 exact cb _ (by omega)
theorem xv (x:Nat) (hx:x < 18446744073709551616):oc2 (x:Int)=((s2 3689348814741910323 x:Nat):Int):=by
 unfold oc2 s2
 rw [fi x 2 (by decide),gM (x / 2 ^ 2) 3689348814741910323 3689348814741910323 rfl (by omega) (by decide),gM x 3689348814741910323 3689348814741910323 rfl hx (by decide),← Int.natCast_add]
 have b1:=du (x / 2 ^ 2) 3689348814741910323
 have b2:=du x 3689348814741910323
 exact cb _ (by omega)
theorem xz (z:Nat) (hz:z≤7378697629483820646):oc3 (z:Int)=((s3 1085102592571150095 z:Nat):Int):=by
 unfold oc3 s3
 rw [fi z 4 (by decide),← Int.natCast_add,cb _ (by omega),gM _ 1085102592571150095 1085102592571150095 rfl (by omega) (by decide)]
theorem yn (x:Nat):s1 6148914691236517205 x < 18446744073709551616:=by
 have b1:=du (x / 2) 6148914691236517205
 have b2:=du x 6148914691236517205
 unfold s1; omega
theorem yg (x:Nat):s2 3689348814741910323 x≤7378697629483820646:=by
 have b1:=du (x / 4) 3689348814741910323
 have b2:=du x 3689348814741910323
 unfold s2; omega
theorem xG (w:Nat) (h:w + w / 256 < 18446744073709551616):oc4 (w:Int)=((w + w / 256:Nat):Int):=by
 unfold oc4
 rw [fi w 8 (by decide),← Int.natCast_add]
 exact cb _ h
theorem xS (w:Nat) (h:w + w / 65536 < 18446744073709551616):oc5 (w:Int)=((w + w / 65536:Nat):Int):=by
 unfold oc5
 rw [fi w 16 (by decide),← Int.natCast_add]
 exact cb _ h
theorem xo (w:Nat) (h:w + w / 4294967296 < 18446744073709551616):oc6 (w:Int)=((w + w / 4294967296:Nat):Int):=by
 unfold oc6
 rw [fi w 32 (by decide),← Int.natCast_add]
 exact cb _ h
theorem ya (v:Nat) (h:v < 9223372036854775808):IntKind.wrap .i64 ((BitVec.ofInt (IntKind.bits .i64) (IntKind.wrap .i64 (v:Int)) &&& BitVec.ofInt (IntKind.bits .i64) 127).toNat:Int)=((v % 128:Nat):Int):=by
 rw [w64 (x:=(v:Int)) (by omega) (by omega)]
 show IntKind.wrap .i64 ((BitVec.ofInt 64 (v:Int) &&& BitVec.ofInt 64 ((127:Nat):Int)).toNat:Int)=_
 rw [df,df,BitVec.toNat_and,BitVec.toNat_ofNat,BitVec.toNat_ofNat,Nat.mod_eq_of_lt (by omega),Nat.mod_eq_of_lt (by decide),show (127:Nat)=2 ^ 7 - 1 from rfl,Nat.and_two_pow_sub_one_eq_mod]
 exact w64 (by omega) (by omega)
theorem vK (w s:Nat) (h:∃ p0 p1 p2 p3 p4 p5 p6 p7:Nat,w=p0 + 256 * (p1 + 256 * (p2 + 256 * (p3 + 256 * (p4 + 256 * (p5 + 256 * (p6 + 256 * (p7 + 256 * 0)))))))∧s=p0 + p1 + p2 + p3 + p4 + p5 + p6 + p7∧p0≤8∧p1≤8∧p2≤8∧p3≤8∧p4≤8∧p5≤8∧p6≤8∧p7≤8) :
   IntKind.wrap .i64 ((BitVec.ofInt (IntKind.bits .i64) (IntKind.wrap .i64 (oc6 (oc5 (oc4 (w:Int))))) &&& BitVec.ofInt (IntKind.bits .i64) 127).toNat:Int)=((s:Nat):Int):=by
 obtain ⟨p0,p1,p2,p3,p4,p5,p6,p7,q,qs,c0,c1,c2,c3,c4,c5,c6,c7⟩:=h
 obtain ⟨r1,r2⟩:=zO q qs c0 c1 c2 c3 c4 c5 c6 c7 rfl rfl rfl
 clear q qs c0 c1 c2 c3 c4 c5 c6 c7
 generalize h1:w + w / 256=w1 at *
 generalize h2:w1 + w1 / 65536=w2 at *
 generalize h3:w2 + w2 / 4294967296=w3 at *
 rw [xG w (by omega),h1,xS w1 (by omega),h2,xo w2 (by omega),h3,ya w3 r2,r1]
theorem w8 (x:Nat) (hx:x < 18446744073709551616):iq (x:Int)=some ((pc 64 x:Nat):Int):=by
 rw [ue,xp x hx,xv _ (yn x),xz _ (yg _),wO x hx]
 exact congrArg some (vK _ _ (yA x))
theorem kU:∀ (n x:Nat),pc n x=((List.range n).filter (fun i=>x.testBit i)).length
 | 0,_=>rfl
 | n + 1,x=>by
   have e:(fun i=>x.testBit i) ∘ Nat.succ=fun i=>(x / 2).testBit i:=funext fun i=>by
     show x.testBit (i + 1)=_
     rw [Nat.testBit_succ]
   rw [show pc (n + 1) x=x % 2 + pc n (x / 2) from rfl,kU n (x / 2),List.range_succ_eq_map,List.filter_cons,List.filter_map,e]
   have h0:x.testBit 0=decide (x % 2=1):=Nat.testBit_zero x
   rw [h0]
   by_cases h:x % 2=1
   . rw [if_pos (decide_eq_true h),List.length_cons,List.length_map,h]
     omega
   . rw [if_neg (by simpa using h),List.length_map]
     omega
def bO (l:List Int):Nat:=(l.map fun w=>pc 64 w.toNat).sum
theorem mem_cons (w:Int) (l:List Int) (i:Nat):mem (w :: l) i=if i < 64 then w.toNat.testBit i else mem l (i - 64):=by
 unfold mem
 by_cases h:i < 64
 . rw [if_pos h,Nat.div_eq_of_lt h,Nat.mod_eq_of_lt h]
   rfl
 . rw [if_neg h,show i / 64=(i - 64) / 64 + 1 by omega,show i % 64=(i - 64) % 64 by omega]
   rfl
theorem pY:∀ l:List Int,((List.range (64 * l.length)).filter (mem l)).length=bO l
 | []=>rfl
 | w :: l=>by
   rw [show 64 * (w :: l).length=64 + 64 * l.length by simp; omega,List.range_add,List.filter_append,List.length_append,List.filter_map,List.length_map]
   have e1:(List.range 64).filter (mem (w :: l))=(List.range 64).filter (fun i=>w.toNat.testBit i):=List.filter_congr fun i hi=>by
     rw [mem_cons,if_pos (List.mem_range.1 hi)]
   have e2:(mem (w :: l)) ∘ (64 + ·)=mem l:=funext fun i=>by
     show mem (w :: l) (64 + i)=_
     rw [mem_cons,if_neg (by omega),Nat.add_sub_cancel_left]
   rw [e1,e2,pY l,← kU]
   simp [bO]
theorem vS {n:Nat} {l:List Int} (h:Ds n l):(dH n l).length=bO l:=by
 have hl:=h.len
 rw [← pY]
 have:=n7 (p:=mem l) (c:=n) (64 * l.length - n) (fun j h1 _=>h.top j h1)
 rw [show n + (64 * l.length - n)=64 * l.length by omega] at this
 rw [this]
 rfl
theorem yh (n x:Nat):pc n x≤n:=by
 rw [kU]; exact kS _ _
theorem ow {l:List Int} {k:Nat} (hk:k < l.length):bO (l.take (k + 1))=bO (l.take k) + pc 64 (l[k]).toNat:=by
 unfold bO
 rw [gm hk,List.map_append,List.sum_append]
 simp
theorem tJ {n:Nat} {l:List Int} (h:Ds n l):eB (some ((n:Int),l))=some (((dH n l).length:Nat):Int):=by
 have hn:=h.hn
 have hl:=h.len
 have hb:∀ k,k≤l.length→bO (l.take k)≤64 * k:=fun k=>by
   induction k with
   | zero=>intro _; simp [bO]
   | succ k ih =>
     intro hk
     have:=ih (by omega)
     have h2:=yh 64 (l[k]).toNat
     rw [ow (by omega:k < l.length)]
     omega
 unfold eB
 have hlp:loop (fS ((n:Int),l)) ((0:Int),(0:Int))=some ((bO l:Nat):Int):=by
   have:=eP (body:=fS ((n:Int),l)) (fun k:Nat=>(((bO (l.take k):Nat):Int),(k:Int))) l.length (b:=((bO l:Nat):Int)) ?_ ?_
   . exact this
   . intro k hk
     unfold fS
     have hw:=h.wd _ (List.getElem_mem hk)
     unfold Wd at hw
     obtain ⟨x,hx⟩:=Int.eq_ofNat_of_zero_le hw.1
     have ho:=w8 x (by omega)
     rw [← hx] at ho
     have hp:l[k].toNat=x:=by omega
     have h1:=hb k (by omega)
     have h2:=hb (k + 1) (by omega)
     have e:bO (l.take (k + 1))=bO (l.take k) + pc 64 x:=by
       rw [ow hk,hp]
     simp only [dlt hk,cond_true,aD hk,ho,Option.bind_some]
     rw [aX hk (by omega),e,w64 (by omega) (by omega),← Int.natCast_add]
   . unfold fS
     simp
 simp only [Option.isNone_some,cond_false,Option.bind_some]
 rw [hlp,vS h]
 rfl
theorem oN:∀ {xs ys:List Int},xs.Pairwise (· < ·)→ys.Pairwise (· < ·)→(∀ a,a∈xs↔a∈ys)→xs=ys
 | [],[],_,_,_=>rfl
 | [],y :: ys,_,_,h=>by have:=(h y).2 (by simp); simp at this
 | x :: xs,[],_,_,h=>by have:=(h x).1 (by simp); simp at this
 | x :: xs,y :: ys,hx,hy,h=>by
   obtain ⟨hx1,hx2⟩:=List.pairwise_cons.1 hx
   obtain ⟨hy1,hy2⟩:=List.pairwise_cons.1 hy
   have e:x=y:=by
     have h1:=(h x).1 (by simp)
     have h2:=(h y).2 (by simp)
     rcases List.mem_cons.1 h1 with h1 | h1
     . exact h1
     . rcases List.mem_cons.1 h2 with h2 | h2
       . exact h2.symm
       . have:=hy1 x h1; have:=hx1 y h2; omega
   subst e
   rw [oN hx2 hy2 (fun a=>?_)]
   constructor
   . intro ha
     rcases List.mem_cons.1 ((h a).1 (by simp [ha])) with e | e
     . subst e; have:=hx1 a ha; omega
     . exact e
   . intro ha
     rcases List.mem_cons.1 ((h a).2 (by simp [ha])) with e | e
     . subst e; have:=hy1 a ha; omega
     . exact e
def ins (i:Int):List Int→List Int
 | []=>[i]
 | x :: l=>if i < x then i :: x :: l else x :: ins i l
theorem jl (i a:Int):∀ l,a∈ins i l↔a=i∨a∈l
 | []=>by simp [ins]
 | x :: l=>by
   unfold ins
   split
   . simp
   . rw [List.mem_cons,jl i a l,List.mem_cons]
     constructor
     . rintro (h | h | h) <;> simp [h]
     . rintro (h | h | h) <;> simp [h]
theorem mb (i:Int):∀ l:List Int,l.Pairwise (· < ·)→i∉l→(ins i l).Pairwise (· < ·)
 | [],_,_=>by simp [ins]
 | x :: l,h,hi=>by
   obtain ⟨h1,h2⟩:=List.pairwise_cons.1 h
   have hx:i≠x:=fun e=>hi (by simp [e])
   unfold ins
   split
   . rename_i hlt
     refine List.pairwise_cons.2 ⟨fun a ha=>?_,h⟩
     rcases List.mem_cons.1 ha with rfl | ha
     . exact hlt
     . have:=h1 a ha; omega
   . refine List.pairwise_cons.2 ⟨fun a ha=>?_,mb i l h2 (fun hm=>hi (by simp [hm]))⟩
     rcases (jl i a l).1 ha with rfl | ha
     . omega
     . exact h1 a ha
def rV (L:List Int) (i:Int):Bool:=decide (i∈L)
def cY (s:Int) (L:List Int) (i:Int):List Int:=if (0≤i∧i < s)∧i∉L then ins i L else L
def gJ (s:Int) (L:List Int) (i:Int):Bool:=decide ((0≤i∧i < s)∧i∉L)
def rOr (s:Int) (L:List Int):List Int→List Int×Bool
 | []=>(L,false)
 | x :: l=>((rOr s (cY s L x) l).1,gJ s L x||(rOr s (cY s L x) l).2)
theorem wS {s:Int} {L:List Int} (h:L.Pairwise (· < ·)) (i:Int):(cY s L i).Pairwise (· < ·):=by
 unfold cY
 split
 . rename_i h4; exact mb _ _ h h4.2
 . exact h
theorem lg {s:Int} {L:List Int} (i x:Int):x∈cY s L i↔x∈L∨(x=i∧0≤i∧i < s):=by
 unfold cY
 split
 . rename_i h4
   rw [jl]
   constructor
   . rintro (h | h)
     . exact .inr ⟨h,h4.1⟩
     . exact .inl h
   . rintro (h | h)
     . exact .inr h
     . exact .inl h.1
 . rename_i h4
   constructor
   . exact .inl
   . rintro (h | ⟨rfl,h⟩)
     . exact h
     . refine Classical.byContradiction fun h5=>h4 ⟨h,h5⟩
theorem rj (s:Int):∀ (l L:List Int),L.Pairwise (· < ·)→(rOr s L l).1.Pairwise (· < ·)
 | [],_,h=>h
 | x :: l,L,h=>rj s l _ (wS h x)
theorem qE (s:Int) (x:Int):∀ (l L:List Int),x∈(rOr s L l).1↔x∈L∨(x∈l∧0≤x∧x < s)
 | [],L=>by simp [rOr]
 | y :: l,L=>by
   unfold rOr
   dsimp only
   rw [qE s x l,lg,List.mem_cons]
   constructor
   . rintro ((h | ⟨h,h2⟩) | ⟨h,h2⟩)
     . exact .inl h
     . subst h; exact .inr ⟨.inl rfl,h2⟩
     . exact .inr ⟨.inr h,h2⟩
   . rintro (h | ⟨h | h,h2⟩)
     . exact .inl (.inl h)
     . subst h; exact .inl (.inr ⟨rfl,h2⟩)
     . exact .inr ⟨h,h2⟩
theorem qT (s:Int):∀ (l L:List Int),(rOr s L l).2=true↔∃ x∈l,(0≤x∧x < s)∧x∉L
 | [],L=>by simp [rOr]
 | y :: l,L=>by
   unfold rOr
   dsimp only
   rw [Bool.or_eq_true,qT s l]
   unfold gJ
   rw [decide_eq_true_eq]
   constructor
   . rintro (h | ⟨x,h1,h2,h3⟩)
     . exact ⟨y,by simp,h⟩
     . exact ⟨x,by simp [h1],h2,fun h=>h3 ((lg _ _).2 (.inl h))⟩
   . rintro ⟨x,h1,h2,h3⟩
     by_cases hy:(0≤y∧y < s)∧y∉L
     . exact .inl hy
     . rcases List.mem_cons.1 h1 with rfl | h1
       . exact absurd ⟨h2,h3⟩ hy
       . refine .inr ⟨x,h1,h2,fun h=>?_⟩
         rcases (lg _ _).1 h with h | ⟨rfl,h⟩
         . exact h3 h
         . exact hy ⟨h,h3⟩
structure Rp (n:Nat) (l:List Int) (L:List Int):Prop where
 ds:Ds n l
 rs:L.Pairwise (· < ·)
 mm:∀ x:Int,x∈L↔0≤x∧mem l x.toNat=true
theorem wh (M:List Nat) (x:Int):x∈liN M↔0≤x∧x.toNat∈M:=by
 unfold liN
 rw [List.mem_map]
 constructor
 . rintro ⟨a,ha,rfl⟩
   exact ⟨Int.natCast_nonneg _,by simpa using ha⟩
 . rintro ⟨h1,h2⟩
   exact ⟨x.toNat,h2,Int.toNat_of_nonneg h1⟩
theorem dN {n:Nat} {l:List Int} (h:Ds n l) {k:Nat} (hk:mem l k=true):k < n:=by
 rcases Nat.lt_or_ge k n with h1 | h1
 . exact h1
 . rw [h.top k h1] at hk; cases hk
theorem vO {n:Nat} {l:List Int} (h:Ds n l) (k:Nat):k∈dH n l↔mem l k=true:=by
 unfold dH
 rw [List.mem_filter,List.mem_range]
 exact ⟨fun h=>h.2,fun hk=>⟨dN h hk,hk⟩⟩
theorem xT (n:Nat) (l:List Int):(liN (dH n l)).Pairwise (· < ·):=by
 unfold liN dH
 rw [List.pairwise_map]
 refine List.Pairwise.imp (fun h=>?_) (List.Pairwise.filter (mem l) (List.pairwise_lt_range (n:=n)))
 exact Int.ofNat_lt.2 h
theorem Rp.eq {n:Nat} {l L:List Int} (h:Rp n l L):liN (dH n l)=L :=
 oN (xT n l) h.rs (fun x=>by rw [wh,vO h.ds,h.mm])
theorem Rp.len {n:Nat} {l L:List Int} (h:Rp n l L):(dH n l).length=L.length:=by
 rw [← h.eq]; simp [liN]
theorem Rp.le {n:Nat} {l L:List Int} (h:Rp n l L):L.length≤n:=by
 rw [← h.len]; exact kS _ _
theorem Rp.has {n:Nat} {l L:List Int} (h:Rp n l L) (i:Int):cG (some ((n:Int),l)) i=some (rV L i):=by
 rw [lw h.ds]
 congr 1
 unfold rV
 rw [Bool.eq_iff_iff,Bool.and_eq_true,decide_eq_true_eq,decide_eq_true_eq,h.mm]
 constructor
 . exact fun h=>⟨h.1.1,h.2⟩
 . intro h2
   have:=dN h.ds h2.2
   exact ⟨⟨h2.1,by omega⟩,h2.2⟩
theorem Rp.add {n:Nat} {l L:List Int} (h:Rp n l L) (i:Int):∃ l',db i n l=some (gJ n L i,l')∧Rp n l' (cY n L i):=by
 obtain ⟨l',h1,h2,h3⟩:=pF h.ds i
 have hm:=h.mm i
 have e:(decide (0≤i∧i < n)&&!mem l i.toNat)=gJ n L i:=by
   unfold gJ
   rw [Bool.eq_iff_iff,Bool.and_eq_true,decide_eq_true_eq,decide_eq_true_eq,hm]
   constructor
   . rintro ⟨h5,h6⟩
     exact ⟨h5,fun h7=>by rw [h7.2] at h6; cases h6⟩
   . rintro ⟨h5,h6⟩
     refine ⟨h5,?_⟩
     cases h7:mem l i.toNat with
     | false=>rfl
     | true=>exact absurd ⟨h5.1,h7⟩ h6
 refine ⟨l',by rw [h1,e],h2,?_,fun x=>?_⟩
 . unfold cY
   split
   . rename_i h4
     exact mb _ _ h.rs h4.2
   . exact h.rs
 . rw [h3]
   unfold cY
   split
   . rename_i h4
     rw [jl,h.mm,Bool.or_eq_true,decide_eq_true_eq]
     constructor
     . rintro (rfl | h5)
       . exact ⟨h4.1.1,.inr ⟨h4.1,rfl⟩⟩
       . exact ⟨h5.1,.inl h5.2⟩
     . rintro ⟨h5,h6 | h6⟩
       . exact .inr ⟨h5,h6⟩
       . exact .inl (by omega)
   . rename_i h4
     rw [h.mm,Bool.or_eq_true,decide_eq_true_eq]
     constructor
     . exact fun h5=>⟨h5.1,.inl h5.2⟩
     . rintro ⟨h5,h6 | h6⟩
       . exact ⟨h5,h6⟩
       . have hx:x=i:=by omega
         subst hx
         refine ⟨h5,?_⟩
         cases h7:mem l x.toNat with
         | true=>rfl
         | false=>exact absurd ⟨h6.1,fun h8=>by rw [(hm.1 h8).2] at h7; cases h7⟩ h4
theorem oq (x y:Nat) (hx:x < 18446744073709551616) (hy:y < 18446744073709551616):IntKind.wrap .u64 ((BitVec.ofInt (IntKind.bits .u64) (x:Int) &&& ~~~BitVec.ofInt (IntKind.bits .u64) (y:Int)).toNat:Int)=0↔∀ i,x.testBit i=true→y.testBit i=true:=by
 have e:IntKind.wrap .u64 ((BitVec.ofInt (IntKind.bits .u64) (x:Int) &&& ~~~BitVec.ofInt (IntKind.bits .u64) (y:Int)).toNat:Int)=(((BitVec.ofNat 64 x &&& ~~~BitVec.ofNat 64 y).toNat:Nat):Int):=by
   show IntKind.wrap .u64 ((BitVec.ofInt 64 (x:Int) &&& ~~~BitVec.ofInt 64 (y:Int)).toNat:Int)=_
   rw [df,df]
   exact cb _ (BitVec.isLt _)
 have hb:∀ i,(BitVec.ofNat 64 x &&& ~~~BitVec.ofNat 64 y).toNat.testBit i=(x.testBit i&&!y.testBit i):=fun i=>by
   rw [BitVec.testBit_toNat,BitVec.getLsbD_and,BitVec.getLsbD_not,BitVec.getLsbD_ofNat,BitVec.getLsbD_ofNat]
   by_cases hj:i < 64
   . simp [hj]
   . have:x.testBit i=false:=Nat.testBit_lt_two_pow (Nat.lt_of_lt_of_le hx (show 2 ^ 64≤2 ^ i from Nat.pow_le_pow_right (by decide) (by omega)))
     simp [hj,this]
 rw [e]
 constructor
 . intro h i hi
   have h0:(BitVec.ofNat 64 x &&& ~~~BitVec.ofNat 64 y).toNat=0:=by omega
   have:=hb i
   rw [h0,Nat.zero_testBit,hi] at this
   cases hy:y.testBit i with
   | true=>rfl
   | false=>rw [hy] at this; cases this
 . intro h
   have h0:(BitVec.ofNat 64 x &&& ~~~BitVec.ofNat 64 y).toNat=0:=Nat.eq_of_testBit_eq fun i=>by
     rw [hb,Nat.zero_testBit]
     cases hx:x.testBit i with
     | false=>rfl
     | true=>rw [h i hx]; rfl
   rw [h0]
   rfl
theorem qq {n:Nat} {l l':List Int} (h:Ds n l) (h':Ds n l'):∃ c q,bB n l n l'=some (c,q,l')∧Ds n q∧(∀ j,mem q j=(mem l j||mem l' j))∧(c=true↔∃ j,mem l' j=true∧mem l j=false):=by
 have hn:=h.hn
 have hl:=h.len
 have hl':=h'.len
 have wordOf:∀ {n:Nat} {l:List Int},(∀ w∈l,Wd w)→∀ (k:Nat) (hk:k < l.length),∃ x:Nat,l[k]=(x:Int)∧x < 18446744073709551616:=fun hw k hk=>by
   have:=hw _ (List.getElem_mem hk)
   unfold Wd at this
   exact ⟨_,(Int.toNat_of_nonneg this.1).symm,by omega⟩
 have key:=bf (body:=kv l') (fun s=>∃ k:Nat,k≤l'.length∧s.2.1=(k:Int)∧s.2.2.length=l.length∧(∀ w∈s.2.2,Wd w)∧(∀ j,mem s.2.2 j=if j / 64 < k then mem l j||mem l' j else mem l j)∧(s.1=true↔∃ j,j / 64 < k∧mem l' j=true∧mem l j=false)) (fun s=>l'.length - s.2.1.toNat)
   (Q:=fun r=>r.2.length=l.length∧(∀ w∈r.2,Wd w)∧(∀ j,mem r.2 j=(mem l j||mem l' j))∧(r.1=true↔∃ j,mem l' j=true∧mem l j=false)) ?_ (s:=(false,(0:Int),l)) ⟨0,Nat.zero_le _,rfl,rfl,h.wd,fun j=>by simp,by simp⟩
 . obtain ⟨⟨c,q⟩,hlp,q1,q2,q3,q4⟩:=key
   refine ⟨c,q,?_,⟨hn,by rw [q1]; exact hl,q2,fun j hj=>?_⟩,q3,q4⟩
   . unfold bB
     rw [hlp]
     simp
   . rw [q3,h.top j hj,h'.top j hj]; rfl
 . rintro ⟨c,i,q⟩ ⟨k,hk,rfl,g1,g2,g3,g4⟩
   dsimp only at g1 g2 g3 g4 ⊢
   unfold kv
   by_cases hkl:k < l'.length
   . left
     have hkq:k < q.length:=by omega
     obtain ⟨x,hx,hx2⟩:=wordOf (n:=n) h'.wd k hkl
     obtain ⟨y,hy,hy2⟩:=wordOf (n:=n) g2 k hkq
     have hxs:l'[k]? = some (x:Int):=by rw [List.getElem?_eq_getElem hkl,hx]
     have hys:q[k]? = some (y:Int):=by rw [List.getElem?_eq_getElem hkq,hy]
     have hmy:∀ j,j / 64=k→mem l j=y.testBit (j % 64):=fun j hj=>by
       have:=g3 j
       rw [if_neg (by omega),cu (by rw [hj]; exact hys)] at this
       exact this.symm
     have hmx:∀ j,j / 64=k→mem l' j=x.testBit (j % 64):=fun j hj=>cu (by rw [hj]; exact hxs)
     have ha:=oq x y hx2 hy2
     simp only [dlt hkl,cond_true,aD hkl,aD hkq,hx,hy,Option.bind_some,aX hkl (by omega),Int.toNat_natCast]
     by_cases hz:IntKind.wrap .u64 ((BitVec.ofInt (IntKind.bits .u64) (x:Int) &&& ~~~BitVec.ofInt (IntKind.bits .u64) (y:Int)).toNat:Int)=0
     . have hsub:=ha.1 hz
       have hsub2:∀ j,j / 64=k→mem l' j=true→mem l j=true:=fun j hj hm=>by
         rw [hmx j hj] at hm
         rw [hmy j hj]
         exact hsub _ hm
       refine ⟨(c,((k + 1:Nat):Int),q),by rw [decide_eq_true hz]; rfl,⟨k + 1,by omega,rfl,g1,g2,fun j=>?_,?_⟩,?_⟩
       . rw [g3]
         by_cases h1:j / 64 < k
         . rw [if_pos h1,if_pos (by omega)]
         . rw [if_neg h1]
           by_cases h2:j / 64=k
           . rw [if_pos (by omega)]
             cases hm:mem l' j with
             | false=>simp
             | true=>rw [hsub2 j h2 hm]; rfl
           . rw [if_neg (by omega)]
       . rw [g4]
         constructor
         . rintro ⟨j,h1,h2⟩; exact ⟨j,by omega,h2⟩
         . rintro ⟨j,h1,h2,h3⟩
           by_cases h4:j / 64=k
           . rw [hsub2 j h4 h2] at h3; cases h3
           . exact ⟨j,by omega,h2,h3⟩
       . show l'.length - ((k + 1:Nat):Int).toNat < l'.length - ((k:Nat):Int).toNat
         rw [Int.toNat_natCast,Int.toNat_natCast]; omega
     . have hw:IntKind.wrap .u64 ((BitVec.ofInt (IntKind.bits .u64) (y:Int) ||| BitVec.ofInt (IntKind.bits .u64) (x:Int)).toNat:Int)=((y ||| x:Nat):Int):=orU y x hy2 hx2
       have hex:∃ i,x.testBit i=true∧y.testBit i=false:=by
         refine Classical.byContradiction fun hc=>hz (ha.2 fun i hi=>?_)
         cases hyi:y.testBit i with
         | true=>rfl
         | false=>exact absurd ⟨i,hi,hyi⟩ hc
       obtain ⟨i,hi1,hi2⟩:=hex
       have hi64:i < 64:=by
         rcases Nat.lt_or_ge i 64 with h1 | h1
         . exact h1
         . rw [Nat.testBit_lt_two_pow (Nat.lt_of_lt_of_le hx2 (show 2 ^ 64≤2 ^ i from Nat.pow_le_pow_right (by decide) h1))] at hi1
           cases hi1
       refine ⟨(true,((k + 1:Nat):Int),q.set k ((y ||| x:Nat):Int)),by rw [decide_eq_false hz,hw]; rfl,⟨k + 1,by omega,rfl,by rw [List.length_set]; exact g1,fun w hw=>?_,fun j=>?_,?_⟩,?_⟩
       . rcases List.mem_or_eq_of_mem_set hw with hw | rfl
         . exact g2 w hw
         . have:=Nat.or_lt_two_pow (n:=64) hy2 hx2
           unfold Wd
           omega
       . dsimp only
         rw [pf hys]
         by_cases h2:j / 64=k
         . rw [if_pos h2,if_pos (by omega),Nat.testBit_or,hmy j h2,hmx j h2]
         . rw [if_neg h2,g3]
           by_cases h1:j / 64 < k
           . rw [if_pos h1,if_pos (by omega)]
           . rw [if_neg h1,if_neg (by omega)]
       . refine ⟨fun _=>⟨64 * k + i,by omega,?_,?_⟩,fun _=>rfl⟩
         . rw [hmx _ (by omega),show (64 * k + i) % 64=i by omega]; exact hi1
         . rw [hmy _ (by omega),show (64 * k + i) % 64=i by omega]; exact hi2
       . show l'.length - ((k + 1:Nat):Int).toNat < l'.length - ((k:Nat):Int).toNat
         rw [Int.toNat_natCast,Int.toNat_natCast]; omega
   . right
     have e:k=l'.length:=by omega
     subst e
     have hlt:∀ j,mem l' j=true→j / 64 < l'.length:=fun j hj=>by
       have:=dN h' hj
       omega
     refine ⟨(c,q),by simp,g1,g2,fun j=>?_,?_⟩
     . rw [g3]
       by_cases h1:j / 64 < l'.length
       . rw [if_pos h1]
       . rw [if_neg h1]
         cases hm:mem l' j with
         | false=>simp
         | true=>exact absurd (hlt j hm) h1
     . rw [g4]
       constructor
       . rintro ⟨j,_,h2⟩; exact ⟨j,h2⟩
       . rintro ⟨j,h2⟩; exact ⟨j,hlt j h2.1,h2⟩
theorem uF {n m:Nat} (h:n≠m) (l l':List Int):bB n l m l'=some (false,l,l'):=by
 unfold bB
 have:¬ ((n:Int)=(m:Int)):=by omega
 simp [this]
theorem Rp.or {n m:Nat} {l l' L L':List Int} (h:Rp n l L) (h':Rp m l' L'):∃ q,bB n l m l'=some (decide ((n:Int)=(m:Int))&&(rOr n L L').2,q,l')∧Rp n q (if (n:Int)=(m:Int) then (rOr n L L').1 else L):=by
 by_cases e:n=m
 . subst e
   obtain ⟨c,q,h1,h2,h3,h4⟩:=qq h.ds h'.ds
   refine ⟨q,?_,?_⟩
   . rw [h1]
     have:c=(rOr n L L').2:=by
       rw [Bool.eq_iff_iff,h4,qT]
       constructor
       . rintro ⟨j,h5,h6⟩
         have:=dN h'.ds h5
         refine ⟨(j:Int),(h'.mm _).2 ⟨Int.natCast_nonneg _,by simpa using h5⟩,⟨Int.natCast_nonneg _,by omega⟩,fun h7=>?_⟩
         have:=((h.mm _).1 h7).2
         rw [Int.toNat_natCast,h6] at this
         cases this
       . rintro ⟨x,h5,h6,h7⟩
         refine ⟨x.toNat,((h'.mm _).1 h5).2,?_⟩
         cases h8:mem l x.toNat with
         | false=>rfl
         | true=>exact absurd ((h.mm x).2 ⟨h6.1,h8⟩) h7
     rw [this]
     simp
   . rw [if_pos rfl]
     refine ⟨h2,rj _ _ _ h.rs,fun x=>?_⟩
     rw [qE,h3,Bool.or_eq_true,h.mm,h'.mm]
     constructor
     . rintro (h5 | ⟨h5,h6⟩)
       . exact ⟨h5.1,.inl h5.2⟩
       . exact ⟨h5.1,.inr h5.2⟩
     . rintro ⟨h5,h6 | h6⟩
       . exact .inl ⟨h5,h6⟩
       . have:=dN h'.ds h6
         exact .inr ⟨⟨h5,h6⟩,h5,by omega⟩
 . have e2:¬ ((n:Int)=(m:Int)):=by omega
   rw [uF e,if_neg e2,decide_eq_false e2]
   exact ⟨l,rfl,h⟩
abbrev MX:=List (Option (Int×List Int))
def au (x:Option (Int×List Int)) (c:Nat):Bool:=match x with | some e=>mem e.2 c | none=>false
def fA (M:MX) (r:Int):Option (Int×List Int):=if 0≤r then M[r.toNat]?.join else none
def has (M:MX) (r c:Nat):Bool:=au M[r]?.join c
def okR (C:Nat) (x:Option (Int×List Int)):Prop:=∀ e,x=some e→e.1=(C:Int)∧Ds C e.2
structure Mx (N C:Nat) (M:MX):Prop where
 hN:N≤65536
 hC:C≤65536
 len:M.length=N
 ok:∀ r:Nat,okR C M[r]?.join
theorem okR.lt {C:Nat} {x:Option (Int×List Int)} (h:okR C x) {c:Nat} (hc:au x c=true):c < C:=by
 cases x with
 | none=>cases hc
 | some e=>exact dN (h e rfl).2 hc
theorem okR.none {C:Nat}:okR C none:=fun e h=>by cases h
theorem ju {M:MX} {r:Nat} (h:r < M.length):M[r]?.join=M[r]:=by rw [List.getElem?_eq_getElem h]; rfl
theorem oA {M:MX} {r:Nat} (h:M.length≤r):M[r]?.join=none:=by rw [List.getElem?_eq_none h]; rfl
theorem Mx.lt {N C:Nat} {M:MX} (h:Mx N C M) {r c:Nat} (hm:has M r c=true):r < N∧c < C:=by
 refine ⟨?_,(h.ok r).lt hm⟩
 rcases Nat.lt_or_ge r N with h1 | h1
 . exact h1
 . unfold has at hm; rw [oA (by rw [h.len]; exact h1)] at hm; cases hm
theorem lf {M:MX} {r:Nat} (hr:r < M.length) (x:Option (Int×List Int)) (a:Nat):(M.set r x)[a]?.join=if a=r then x else M[a]?.join:=by
 rw [List.getElem?_set]
 by_cases h:r=a
 . subst h; simp [hr]
 . rw [if_neg h,if_neg (fun e=>h e.symm)]
theorem lO {M:MX} {r:Nat} (hr:r < M.length) (x:Option (Int×List Int)) (a c:Nat):has (M.set r x) a c=if a=r then au x c else has M a c:=by
 unfold has
 rw [lf hr]
 split <;> rfl
theorem Mx.set {N C:Nat} {M:MX} (h:Mx N C M) {r:Nat} (hr:r < N) {x:Option (Int×List Int)} (hx:okR C x):Mx N C (M.set r x) :=
 ⟨h.hN,h.hC,by rw [List.length_set]; exact h.len,fun a=>by
   rw [lf (by rw [h.len]; exact hr)]
   split
   . exact hx
   . exact h.ok a⟩
theorem xA {N C:Nat} (hN:N≤65536) (hC:C≤65536):Mx N C (List.replicate N none) :=
 ⟨hN,hC,List.length_replicate,fun r=>by
   rcases Nat.lt_or_ge r N with h | h
   . rw [List.getElem?_replicate,if_pos h]; exact okR.none
   . rw [List.getElem?_replicate,if_neg (by omega)]; exact okR.none⟩
theorem wx (N r c:Nat):has (List.replicate N none) r c=false:=by
 unfold has
 rw [List.getElem?_replicate]
 split <;> rfl
theorem wl (n c:Int):ga n c=if n < 0∨c < 0 then some (.inl 2) else if 65536 < n∨65536 < c then some (.inl 5) else some (.inr (0,c,List.replicate n.toNat none)):=by
 unfold ga
 by_cases h1:n < 0∨c < 0
 . rw [if_pos h1]
   have:(decide (n < 0)||decide (c < 0))=true:=by simpa using h1
   rw [this]; rfl
 . rw [if_neg h1]
   have:(decide (n < 0)||decide (c < 0))=false:=by
     rw [Bool.eq_false_iff]; simpa using h1
   rw [this]
   by_cases h2:65536 < n∨65536 < c
   . rw [if_pos h2]
     have:(decide (65536 < n)||decide (65536 < c))=true:=by simpa using h2
     rw [this]; rfl
   . rw [if_neg h2]
     have:(decide (65536 < n)||decide (65536 < c))=false:=by
       rw [Bool.eq_false_iff]; simpa using h2
     rw [this]
     simp only [cond_false]
     unfold mk
     rw [if_pos (by omega)]
     rfl
theorem vQ:iw none=some 0:=rfl
theorem nK (i:Int):dd none i=some false:=by
 unfold dd
 rw [vQ]
 by_cases h:0≤i
 . have h2:¬ i < 0:=by omega
   simp [h,h2]
 . simp [h]
theorem wU (i:Int):cG none i=some false:=by
 unfold cG
 rw [nK]
 rfl
theorem ur:eB none=some 0:=rfl
theorem vR (i:Int):cF none i=some (-1):=by
 unfold cF
 rw [nK]
 rfl
theorem xq (c:Int) (M:MX) (r:Int):ir (some (c,M)) r=some (fA M r):=by
 unfold ir kx
 rw [show ky (some (c,M))=some ((M.length:Nat):Int) from rfl]
 unfold fA
 by_cases h0:0≤r
 . rw [if_pos h0]
   by_cases h1:r < (M.length:Nat)
   . have hr:r.toNat < M.length:=by omega
     simp only [decide_eq_true h0,cond_true,Option.bind_some,decide_eq_true h1,Bool.not_true,cond_false]
     rw [show ae M r=some M[r.toNat] from qa (by omega) hr,ju hr]
     rfl
   . simp only [decide_eq_true h0,cond_true,Option.bind_some,decide_eq_false h1,Bool.not_false]
     rw [oA (by omega)]
 . rw [if_neg h0]
   simp [h0]
theorem okO {N C:Nat} {M:MX} (h:Mx N C M) (r:Int):okR C (fA M r):=by
 unfold fA
 split
 . exact h.ok _
 . exact okR.none
theorem hasO (M:MX) (r:Int) (c:Nat):au (fA M r) c=(decide (0≤r)&&has M r.toNat c):=by
 unfold fA has
 by_cases h:0≤r
 . simp [h]
 . simp [h,au]
theorem we {C:Nat} {x:Option (Int×List Int)} (h:okR C x) (c:Int):cG x c=some (decide (0≤c)&&au x c.toNat):=by
 cases x with
 | none=>rw [wU]; simp [au]
 | some e =>
   obtain ⟨s,l⟩:=e
   obtain ⟨h1,h2⟩:=h _ rfl
   dsimp only at h1 h2
   subst h1
   rw [lw h2]
   congr 1
   rw [Bool.eq_iff_iff]
   simp only [Bool.and_eq_true,decide_eq_true_eq,au]
   constructor
   . exact fun h=>⟨h.1.1,h.2⟩
   . intro h3
     have:=dN h2 h3.2
     exact ⟨⟨h3.1,by omega⟩,h3.2⟩
theorem wj {N C:Nat} {M:MX} (h:Mx N C M) (r c:Int):iu (some ((C:Int),M)) r c=some ((decide (0≤r)&&decide (0≤c))&&has M r.toNat c.toNat):=by
 unfold iu
 rw [xq]
 simp only [Option.bind_some,we (okO h r),hasO]
 congr 1
 cases decide (0≤r) <;> cases decide (0≤c) <;> simp
theorem pn (i:Int):br i i=some ():=by unfold br; simp
theorem fw {M:MX} {r:Nat} (h:r < M.length):ae M (r:Int)=some M[r]?.join:=by rw [aD h,ju h]
theorem jd {M:MX} {r:Nat} (h:r < M.length):M.set r M[r]?.join=M:=by rw [ju h]; exact List.set_getElem_self h
theorem p9 {C:Nat} (hC:C≤65536):ci (C:Int)=some (.inr (0,(C:Int),List.replicate ((C + 63) / 64) 0)):=by
 rw [vZ,if_neg (by omega),if_neg (by omega)]
 simp
theorem wM {N C:Nat} {M:MX} (h:Mx N C M) (r c:Int):∃ M',fN r c (C:Int) M=some (decide ((0≤r∧r < N)∧0≤c∧c < C)&&!has M r.toNat c.toNat,M')∧Mx N C M' ∧
   ∀ a b,has M' a b=(has M a b||decide (((0≤r∧r < N)∧0≤c∧c < C)∧r.toNat=a∧c.toNat=b)):=by
 have hN:=h.hN
 have hC:=h.hC
 have hlen:=h.len
 by_cases hin:(0≤r∧r < N)∧0≤c∧c < C
 . obtain ⟨k,rfl⟩:∃ k:Nat,r=(k:Int):=⟨r.toNat,by omega⟩
   have hk:k < M.length:=by omega
   have hk2:(k:Int) < ((M.length:Nat):Int):=by omega
   have e1:ek (k:Int) (C:Int) M=some (true,M):=by
     unfold ek
     rw [show cE (C:Int) M=some (((M.length:Nat):Int),M) from rfl]
     simp only [decide_eq_true hin.1.1,cond_true,Option.bind_some,decide_eq_true hk2]
   have e2:(((!true)||decide (c < 0))||decide ((C:Int)≤c))=false:=by simp; omega
   have main:∀ (s:Int) (l:List Int),s=(C:Int)→Ds C l→∃ l',db c s l=some (!mem l c.toNat,l')∧okR C (some (s,l'))∧∀ b,mem l' b=(mem l b||decide (c.toNat=b)):=by
     rintro s l rfl hl
     obtain ⟨l',q1,q2,q3⟩:=pF hl c
     refine ⟨l',?_,fun e he=>by cases he; exact ⟨rfl,q2⟩,fun b=>?_⟩
     . rw [q1]; simp [hin.2]
     . rw [q3]; simp [hin.2]
   unfold fN
   rw [e1]
   simp only [Option.bind_some,e2,cond_false,fw hk,pn,Int.toNat_natCast,jd hk]
   have hd:decide (((0:Int)≤(k:Int)∧(k:Int) < N)∧0≤c∧c < C)=true:=by simpa using hin
   have fin:∀ (x:Option (Int×List Int)) (l':List Int),M[k]?.join=x→(∀ b,mem l' b=(au x b||decide (c.toNat=b)))→∀ a b,has (M.set k (some ((C:Int),l'))) a b=(has M a b||decide ((((0:Int)≤(k:Int)∧(k:Int) < N)∧0≤c∧c < C)∧k=a∧c.toNat=b)):=fun x l' hx hl a b=>by
     rw [lO hk]
     by_cases hak:a=k
     . subst hak
       rw [if_pos rfl]
       show mem l' b=_
       rw [hl,← hx]
       simp [hin,has]
     . rw [if_neg hak]
       have:¬ k=a:=fun e=>hak e.symm
       simp [this]
   cases hx:M[k]?.join with
   | none =>
     have hk3:k < (M.set k (some ((C:Int),List.replicate ((C + 63) / 64) 0))).length:=by rw [List.length_set]; exact hk
     have e3:M.set k none=M:=by have:=jd hk; rw [hx] at this; exact this
     obtain ⟨l',q1,q2,q3⟩:=main (C:Int) _ rfl (qQ (n:=C) (by omega))
     simp only [Option.isNone_none,cond_true,e3,hx,Option.bind_some,p9 hC,fw hk3,lf hk,if_true,q1,List.set_set,fw hk]
     refine ⟨_,by rw [hd]; simp [hx,has,au,gE],h.set (by omega) q2,fin none l' hx (fun b=>by rw [q3,gE]; rfl)⟩
   | some e =>
     obtain ⟨s,l⟩:=e
     obtain ⟨p1,p2⟩:=h.ok k _ hx
     dsimp only at p1 p2
     subst p1
     have e3:M.set k (some ((C:Int),l))=M:=by have:=jd hk; rw [hx] at this; exact this
     obtain ⟨l',q1,q2,q3⟩:=main (C:Int) l rfl p2
     simp only [Option.isNone_some,cond_false,e3,hx,Option.bind_some,fw hk,q1]
     refine ⟨_,by rw [hd]; simp [hx,has,au],h.set (by omega) q2,fin _ l' hx (fun b=>by rw [q3]; rfl)⟩
 . have hout:∃ t,ek r (C:Int) M=some (t,M)∧(((!t)||decide (c < 0))||decide ((C:Int)≤c))=true:=by
     unfold ek
     rw [show cE (C:Int) M=some (((M.length:Nat):Int),M) from rfl]
     by_cases h0:0≤r
     . refine ⟨decide (r < ((M.length:Nat):Int)),by simp [h0],?_⟩
       simp
       omega
     . refine ⟨false,by simp [h0],by simp⟩
   obtain ⟨t,q1,q2⟩:=hout
   have hf:decide ((0≤r∧r < N)∧0≤c∧c < C)=false:=by simpa using hin
   refine ⟨M,?_,h,fun a b=>?_⟩
   . unfold fN
     rw [q1,hf]
     simp only [Option.bind_some,q2,cond_true,Bool.false_and]
   . have:¬ (((0≤r∧r < N)∧0≤c∧c < C)∧r.toNat=a∧c.toNat=b):=fun e=>hin e.1
     simp [this]
def bX (C:Nat) (f:Nat→Bool):List Nat:=(List.range C).filter f
theorem qG (C:Nat) (f:Nat→Bool):(bX C f).length≤C:=kS f C
def bQ (N C:Nat) (f:Nat→Nat→Bool):Nat:=((List.range N).map fun r=>(bX C (f r)).length).sum
theorem oX (N C:Nat) (f:Nat→Nat→Bool):bQ (N + 1) C f=bQ N C f + (bX C (f N)).length:=by
 unfold bQ
 rw [List.range_succ,List.map_append,List.sum_append]
 simp
theorem lW (N C:Nat) (f:Nat→Nat→Bool):bQ N C f≤N * C:=by
 induction N with
 | zero=>simp [bQ]
 | succ N ih=>rw [oX,Nat.succ_mul]; have:=qG C (f N); omega
theorem uv {C:Nat} {x:Option (Int×List Int)} (h:okR C x):eB x=some (((bX C (au x)).length:Nat):Int):=by
 cases x with
 | none =>
   rw [ur]
   have:bX C (au none)=[]:=List.filter_eq_nil_iff.2 (fun a _=>by simp [au])
   rw [this]; rfl
 | some e =>
   obtain ⟨s,l⟩:=e
   obtain ⟨h1,h2⟩:=h _ rfl
   dsimp only at h1 h2
   subst h1
   rw [tJ h2]; rfl
theorem ov {N C:Nat} {M:MX} (h:Mx N C M):fP (C:Int) M=some (((bQ N C (has M):Nat):Int),M):=by
 have hN:=h.hN
 have hC:=h.hC
 have hlen:=h.len
 unfold fP
 rw [show cE (C:Int) M=some (((M.length:Nat):Int),M) from rfl]
 simp only [Option.bind_some]
 have key:=eP (body:=ig ((M.length:Nat):Int)) (fun k=>(((bQ k C (has M):Nat):Int),(k:Int),M)) N (b:=(((bQ N C (has M):Nat):Int),M)) (fun k hk=>by
   have hk2:k < M.length:=by omega
   unfold ig
   have hle:=lW (k + 1) C (has M)
   have h1:(k + 1) * C≤65536 * 65536:=Nat.mul_le_mul (by omega) hC
   simp only [dlt hk2,cond_true,fw hk2,Option.bind_some,pn,uv (h.ok k),aX hk2 (by omega),Int.toNat_natCast,jd hk2]
   have e:((bQ k C (has M):Nat):Int) + (((bX C (au M[k]?.join)).length:Nat):Int)=((bQ (k + 1) C (has M):Nat):Int):=by rw [oX]; rfl
   rw [e,w64 (by omega) (by omega)]) (by
   unfold ig
   simp only [dge (show ¬ N < M.length by omega),cond_false])
 have e0:((0:Int),(0:Int),M)=(((bQ 0 C (has M):Nat):Int),((0:Nat):Int),M):=rfl
 rw [e0,key]
 rfl
theorem wa {n:Nat} {l:List Int} (h:Ds n l):fQ (n:Int) l=some (false,l):=by
 have hn:=h.hn
 have hl:=h.len
 unfold fQ
 have e:(!decide ((n:Int)=(n:Int)))=false:=by simp
 rw [e]
 simp only [cond_false]
 have key:=eP (body:=ip l) (fun k=>(false,l,(k:Int))) l.length (b:=(false,l)) (fun k hk=>by
   unfold ip
   have hw:=h.wd l[k] (List.getElem_mem hk)
   obtain ⟨x,hx,hx2⟩:∃ x:Nat,l[k]=(x:Int)∧x < 18446744073709551616:=by
     unfold Wd at hw
     exact ⟨_,(Int.toNat_of_nonneg hw.1).symm,by omega⟩
   have ha:=(oq x x hx2 hx2).2 (fun i h=>h)
   simp only [dlt hk,cond_true,aD hk,Option.bind_some,hx,ha,aX hk (by omega)]
   simp) (by
   unfold ip
   simp only [dge (Nat.lt_irrefl _),cond_false])
 have e0:(false,l,(0:Int))=(false,l,((0:Nat):Int)):=rfl
 rw [e0,key]
 rfl
theorem orR {C:Nat} {s l:List Int} (h:Ds C s) (h':Ds C l):∃ b q,bB (C:Int) s (C:Int) l=some (b,q,l)∧okR C (some ((C:Int),q))∧(∀ c,mem q c=(mem s c||mem l c))∧(b=true↔∃ c,mem l c=true∧mem s c=false):=by
 obtain ⟨b,q,h1,h2,h3,h4⟩:=qq h h'
 exact ⟨b,q,h1,fun e he=>by cases he; exact ⟨rfl,h2⟩,h3,h4⟩
theorem xE {N C:Nat} {M:MX} (h:Mx N C M) {j:Nat} (hj:j < N) (k:Int) {x:Option (Int×List Int)} (hx:okR C x) (hsub:∀ c,has M j c=true→au x c=true) :
   ∃ b x',orH k (C:Int) M j x=some (b,x')∧okR C x'∧(∀ c,au x' c=(au x c||(decide (0≤k)&&has M k.toNat c)))∧(b=true↔∃ c,(decide (0≤k)&&has M k.toNat c)=true∧au x c=false)∧(x≠none→x'≠none):=by
 have hC:=h.hC
 have hlen:=h.len
 have same:(∀ c,(decide (0≤k)&&has M k.toNat c)=true→au x c=true)→orH k (C:Int) M j x=some (false,x)→∃ b x',orH k (C:Int) M j x=some (b,x')∧okR C x'∧(∀ c,au x' c=(au x c||(decide (0≤k)&&has M k.toNat c)))∧(b=true↔∃ c,(decide (0≤k)&&has M k.toNat c)=true∧au x c=false)∧(x≠none→x'≠none):=fun hs he =>
   ⟨false,x,he,hx,fun c=>by
     cases hq:(decide (0≤k)&&has M k.toNat c) with
     | false=>simp
     | true=>rw [hs c hq]; rfl,Iff.intro (fun h=>(by cases h)) (fun ⟨c,h1,h2⟩=>(by rw [hs c h1] at h2; cases h2)),id⟩
 by_cases hk:0≤k∧k < (M.length:Int)
 . obtain ⟨k',rfl⟩:∃ k':Nat,k=(k':Int):=⟨k.toNat,by omega⟩
   have hk2:k' < M.length:=by omega
   by_cases hkj:k'=j
   . subst hkj
     refine same (fun c hc=>hsub c (by simpa using hc)) ?_
     unfold orH
     rw [if_pos hk,if_pos (Int.toNat_natCast _)]
     cases x with
     | none=>rfl
     | some e =>
       obtain ⟨s,l⟩:=e
       obtain ⟨p1,p2⟩:=hx _ rfl
       dsimp only at p1 p2
       subst p1
       simp only [wa p2,Option.bind_some]
   . have hd : decide ((0 : Int) ≤ (k' : Int)) = true := by simp
     simp only [hd,Bool.true_and,Int.toNat_natCast] at same ⊢
     have hun:orH (k':Int) (C:Int) M j x=(match (generalizing:=false) M[k']?.join with
         | some b=>(match (generalizing:=false) x with
           | some s=>(bB s.1 s.2 b.1 b.2).bind fun r=>some (r.1,some (s.1,r.2.1))
           | none=>(ci (C:Int)).bind fun o=>(match (generalizing:=false) o with
             | .inl _=>none
             | .inr q=>(bB q.2.1 q.2.2 b.1 b.2).bind fun r=>some (r.1,some (q.2.1,r.2.1))))
         | none=>some (false,x)):=by
       unfold orH
       rw [if_pos hk,if_neg (show ¬ ((k':Int)).toNat=j by rw [Int.toNat_natCast]; exact hkj)]
       rfl
     cases hy:M[k']?.join with
     | none =>
       have hM:M[k']? = some none:=by
         rw [ju hk2] at hy
         rw [List.getElem?_eq_getElem hk2,hy]
       refine same (fun c hc=>?_) (by rw [hun,hy])
       unfold has at hc
       rw [hy] at hc; cases hc
     | some b =>
       obtain ⟨bs,bl⟩:=b
       obtain ⟨p1,p2⟩:=h.ok k' _ hy
       dsimp only at p1 p2
       subst p1
       have hh:∀ c,has M k' c=mem bl c:=fun c=>by unfold has; rw [hy]; rfl
       cases x with
       | none =>
         obtain ⟨b,q,q1,q2,q3,q4⟩:=orR (qQ (n:=C) (by omega)) p2
         refine ⟨b,some ((C:Int),q),?_,q2,fun c=>?_,?_,fun h=>absurd rfl h⟩
         . rw [hun,hy]
           simp only [p9 hC,Option.bind_some,q1]
         . show mem q c=_
           rw [q3,gE,hh]; rfl
         . rw [q4]
           constructor
           . rintro ⟨c,h1,_⟩; exact ⟨c,by rw [hh]; exact h1,rfl⟩
           . rintro ⟨c,h1,_⟩; exact ⟨c,by rw [← hh]; exact h1,gE _ _⟩
       | some e =>
         obtain ⟨s,l⟩:=e
         obtain ⟨p3,p4⟩:=hx _ rfl
         dsimp only at p3 p4
         subst p3
         obtain ⟨b,q,q1,q2,q3,q4⟩:=orR p4 p2
         refine ⟨b,some ((C:Int),q),?_,q2,fun c=>?_,?_,fun _ h=>by cases h⟩
         . rw [hun,hy]
           simp only [Option.bind_some,q1]
         . show mem q c=_
           rw [q3,hh]; rfl
         . rw [q4]
           constructor
           . rintro ⟨c,h1,h2⟩; exact ⟨c,by rw [hh]; exact h1,h2⟩
           . rintro ⟨c,h1,h2⟩; exact ⟨c,by rw [← hh]; exact h1,h2⟩
 . refine same (fun c hc=>?_) ?_
   . simp only [Bool.and_eq_true,decide_eq_true_eq] at hc
     have:=h.lt hc.2
     exact absurd ⟨hc.1,by omega⟩ hk
   . unfold orH
     rw [if_neg hk]
theorem pt {C:Nat} {x:Option (Int×List Int)} (h:okR C x) (i:Int):∃ q,cF x i=some q∧((q = -1∧∀ c:Nat,i≤(c:Int)→au x c=false)∨∃ k:Nat,q=(k:Int)∧i≤(k:Int)∧au x k=true∧∀ c:Nat,i≤(c:Int)→c < k→au x c=false):=by
 cases x with
 | none=>exact ⟨-1,vR i,.inl ⟨rfl,fun c _=>rfl⟩⟩
 | some e =>
   obtain ⟨s,l⟩:=e
   obtain ⟨h1,h2⟩:=h _ rfl
   dsimp only at h1 h2
   subst h1
   exact ug h2 i
structure Wid (N C:Nat) (M:MX) (r:Nat) (x:Option (Int×List Int)):Prop where
 ok:okR C x
 sup:∀ c,has M r c=true→au x c=true
 snd:∀ S:Nat→Prop,(∀ c,has M r c=true→S c)→(∀ k c,S k→has M k c=true→S c)→∀ c,au x c=true→S c
theorem vY {N C:Nat} {M:MX} (h:Mx N C M) {r:Nat} (hr:r < N):∃ b M',ik (r:Int) (C:Int) M=some (b,M')∧Mx N C M'∧(∀ a c,a≠r→has M' a c=has M a c)∧(∀ c,has M r c=true→has M' r c=true) ∧
   (∀ S:Nat→Prop,(∀ c,has M r c=true→S c)→(∀ k c,S k→has M k c=true→S c)→∀ c,has M' r c=true→S c) ∧
   (b=false→(∀ c,has M' r c=has M r c)∧∀ k c,has M r k=true→has M k c=true→has M r c=true)∧(b=true→∃ c,has M' r c=true∧has M r c=false):=by
 have hN:=h.hN
 have hC:=h.hC
 have hlen:=h.len
 have hr2:r < M.length:=by omega
 have key:∀ (i0:Int),((i0 = -1∧∀ c:Nat,(0:Int)≤(c:Int)→au M[r]?.join c=false)∨∃ k:Nat,i0=(k:Int)∧(0:Int)≤(k:Int)∧au M[r]?.join k=true∧∀ c:Nat,(0:Int)≤(c:Int)→c < k→au M[r]?.join c=false) →
     ∃ z:Bool×MX×Int×Option (Int×List Int),loop (ie (r:Int) (C:Int)) (i0,false,M,(r:Int),M[r]?.join)=some z∧(z.2.1=M∧z.2.2.1=(r:Int)∧Wid N C M r z.2.2.2 ∧
       (z.1=false→(∀ c,au z.2.2.2 c=has M r c)∧∀ k c,has M r k=true→has M k c=true→has M r c=true)∧(z.1=true→∃ c,au z.2.2.2 c=true∧has M r c=false)):=by
   intro i0 hi0
   refine bf (I:=fun s=>s.2.2.1=M∧s.2.2.2.1=(r:Int)∧Wid N C M r s.2.2.2.2∧(s.2.1=false→∀ c,au s.2.2.2.2 c=has M r c)∧(s.2.1=true→∃ c,au s.2.2.2.2 c=true∧has M r c=false) ∧
     ∃ f:Nat,((s.1 = -1∧∀ c:Nat,(f:Int)≤(c:Int)→au s.2.2.2.2 c=false)∨∃ k:Nat,s.1=(k:Int)∧(f:Int)≤(k:Int)∧au s.2.2.2.2 k=true∧∀ c:Nat,(f:Int)≤(c:Int)→c < k→au s.2.2.2.2 c=false) ∧
       (s.2.1=false→∀ k c,k < f→has M r k=true→has M k c=true→has M r c=true)) (fun s=>if s.1 < 0 then 0 else C + 1 - s.1.toNat) ?_ ?_
   . rintro ⟨i,t,l,j,x⟩ ⟨rfl,rfl,hw,ht,ht2,f,hi,hp⟩
     dsimp only at *
     rcases hi with ⟨rfl,hi⟩ | ⟨k,rfl,hfk,hk,hlt⟩
     . right
       refine ⟨(t,l,(r:Int),x),by unfold ie; rfl,rfl,rfl,hw,fun h0=>⟨ht h0,fun k c h1 h2=>?_⟩,ht2⟩
       refine hp h0 k c ?_ h1 h2
       rcases Nat.lt_or_ge k f with h3 | h3
       . exact h3
       . have:=hi k (by omega)
         rw [hw.sup k h1] at this; cases this
     . left
       have hkC:k < C:=hw.ok.lt hk
       obtain ⟨b,x',q1,q2,q3,q4,q5⟩:=xE h hr (k:Int) hw.ok hw.sup
       have hd:decide ((0:Int)≤(k:Int))=true:=by simp
       simp only [hd,Bool.true_and,Int.toNat_natCast] at q3 q4
       have hxn:x≠none:=fun e=>by rw [e] at hk; cases hk
       have eO:ep (r:Int) (k:Int) (C:Int) l (r:Int) x=some (b,l,(r:Int),x'):=by
         unfold ep
         rw [if_pos rfl]
         cases x with
         | none=>exact absurd rfl hxn
         | some e=>simp only [Int.toNat_natCast,q1,Option.bind_some]
       obtain ⟨i',n1,n2⟩:=pt q2 (((k + 1:Nat):Int))
       have hw':Wid N C l r x':=⟨q2,fun c hc=>by rw [q3,hw.sup c hc]; rfl,fun S s1 s2 c hc=>by
         rw [q3,Bool.or_eq_true] at hc
         rcases hc with hc | hc
         . exact hw.snd S s1 s2 c hc
         . exact s2 k c (hw.snd S s1 s2 k hk) hc⟩
       have hmu:(if i' < 0 then 0 else C + 1 - i'.toNat) < (if ((k:Nat):Int) < 0 then 0 else C + 1 - ((k:Nat):Int).toNat):=by
         rw [if_neg (by omega:¬ ((k:Nat):Int) < 0),Int.toNat_natCast]
         rcases n2 with ⟨rfl,_⟩ | ⟨k',rfl,k1,k2,_⟩
         . simp; omega
         . rw [if_neg (by omega),Int.toNat_natCast]
           have:=q2.lt k2
           omega
       refine ⟨(i',(t||b),l,(r:Int),x'),?_,⟨rfl,rfl,hw',?_,?_,k + 1,n2,?_⟩,hmu⟩
       . unfold ie
         simp only [hd,cond_true,eO,Option.bind_some,aX (show k < 65536 by omega) (by omega),n1]
         cases b <;> cases t <;> rfl
       . intro h0 c
         simp only [Bool.or_eq_false_iff] at h0
         rw [q3,ht h0.1]
         cases hc:has l k c with
         | false=>simp
         | true =>
           have:¬ ∃ c,has l k c=true∧au x c=false:=fun e=>by rw [q4.2 e] at h0; cases h0.2
           have h5:au x c=true:=by
             cases h6:au x c with
             | true=>rfl
             | false=>exact absurd ⟨c,hc,h6⟩ this
           rw [ht h0.1] at h5
           rw [h5]; rfl
       . intro h0
         simp only [Bool.or_eq_true] at h0
         rcases h0 with h0 | h0
         . obtain ⟨c,c1,c2⟩:=ht2 h0
           exact ⟨c,by rw [q3,c1]; rfl,c2⟩
         . obtain ⟨c,c1,c2⟩:=q4.1 h0
           refine ⟨c,by rw [q3,c1]; simp,?_⟩
           cases h6:has l r c with
           | false=>rfl
           | true=>rw [hw.sup c h6] at c2; cases c2
       . intro h0 k' c hk' h1 h2
         simp only [Bool.or_eq_false_iff] at h0
         rcases Nat.lt_or_ge k' f with h3 | h3
         . exact hp h0.1 k' c h3 h1 h2
         . have h4:=hw.sup k' h1
           rcases Nat.lt_or_ge k' k with h5 | h5
           . rw [hlt k' (by omega) h5] at h4; cases h4
           . obtain rfl:k'=k:=by omega
             have:¬ ∃ c,has l k' c=true∧au x c=false:=fun e=>by rw [q4.2 e] at h0; cases h0.2
             have h5:au x c=true:=by
               cases h6:au x c with
               | true=>rfl
               | false=>exact absurd ⟨c,h2,h6⟩ this
             rw [ht h0.1] at h5; exact h5
   . exact ⟨rfl,rfl,⟨h.ok r,fun c hc=>hc,fun S s1 s2 c hc=>s1 c hc⟩,fun _ c=>rfl,(fun h0=>by cases h0),0,hi0,fun _ k c h0=>by omega⟩
 obtain ⟨i0,n1,n2⟩:=pt (h.ok r) 0
 obtain ⟨⟨t,l,j,x⟩,z1,z2,z3,z4,z5,z6⟩:=key i0 n2
 dsimp only at z2 z3 z4 z5 z6
 subst z2 z3
 have hx:∀ c,has (l.set r x) r c=au x c:=fun c=>by rw [lO hr2,if_pos rfl]
 refine ⟨t,l.set r x,?_,h.set hr z4.ok,fun a c ha=>by rw [lO hr2,if_neg ha],fun c hc=>by rw [hx]; exact z4.sup c hc,fun S s1 s2 c hc=>by rw [hx] at hc; exact z4.snd S s1 s2 c hc,fun h0=>⟨fun c=>by rw [hx]; exact (z5 h0).1 c,(z5 h0).2⟩,fun h0=>?_⟩
 . unfold ik
   have eR:en (r:Int) (C:Int) l (r:Int) l[r]?.join=some (l,(r:Int),l[r]?.join):=by unfold en; rw [if_pos rfl]
   simp only [fw hr2,Option.bind_some,eR,n1,z1,Int.toNat_natCast]
 . obtain ⟨c,c1,c2⟩:=z6 h0
   exact ⟨c,by rw [hx]; exact c1,c2⟩
theorem wQ {C:Nat} {f g:Nat→Bool} (hs:∀ c,f c=true→g c=true) {c:Nat} (hc:c < C) (h1:g c=true) (h2:f c=false):(bX C f).length < (bX C g).length:=by
 unfold bX
 induction C with
 | zero=>omega
 | succ C ih =>
   have le:∀ n,((List.range n).filter f).length≤((List.range n).filter g).length:=fun n=>by
     induction n with
     | zero=>simp
     | succ n ih =>
       rw [List.range_succ,List.filter_append,List.filter_append,List.length_append,List.length_append]
       have:(List.filter f [n]).length≤(List.filter g [n]).length:=by
         cases hf:f n with
         | false=>simp [List.filter_cons,hf]
         | true=>simp [List.filter_cons,hf,hs n hf]
       omega
   rw [List.range_succ,List.filter_append,List.filter_append,List.length_append,List.length_append]
   by_cases hcC:c=C
   . subst hcC
     have:=le c
     simp [List.filter_cons,h1,h2]
     omega
   . have:=ih (by omega)
     have:(List.filter f [C]).length≤(List.filter g [C]).length:=by
       cases hf:f C with
       | false=>simp [List.filter_cons,hf]
       | true=>simp [List.filter_cons,hf,hs C hf]
     omega
theorem uB {N C:Nat} {M:MX} (h:Mx N C M) {r:Nat} (hr:r < N):∃ M',loop (ij (C:Int) (r:Int)) M=some M'∧(Mx N C M'∧(∀ a c,a≠r→has M' a c=has M a c)∧(∀ c,has M r c=true→has M' r c=true) ∧
   (∀ S:Nat→Prop,(∀ c,has M r c=true→S c)→(∀ k c,S k→has M k c=true→S c)→∀ c,has M' r c=true→S c)∧∀ k c,has M' r k=true→has M' k c=true→has M' r c=true):=by
 refine bf (I:=fun M1=>Mx N C M1∧(∀ a c,a≠r→has M1 a c=has M a c)∧(∀ c,has M r c=true→has M1 r c=true)∧(∀ S:Nat→Prop,(∀ c,has M r c=true→S c)→(∀ k c,S k→has M k c=true→S c)→∀ c,has M1 r c=true→S c))
   (fun M1=>C - (bX C (has M1 r)).length) ?_ ⟨h,fun _ _ _=>rfl,fun _ hc=>hc,fun S s1 s2 c hc=>s1 c hc⟩
 rintro M1 ⟨g1,g2,g3,g4⟩
 obtain ⟨b,M2,q1,q2,q3,q4,q5,q6,q7⟩:=vY g1 hr
 have e:ij (C:Int) (r:Int) M1=cond b (some (.inl M2)) (some (.inr M2)):=by
   unfold ij
   rw [q1]; rfl
 have snd2:∀ S:Nat→Prop,(∀ c,has M r c=true→S c)→(∀ k c,S k→has M k c=true→S c)→∀ c,has M2 r c=true→S c:=fun S s1 s2 c0 hc0=>by
   refine q5 S (fun c hc=>g4 S s1 s2 c hc) (fun k c hk hc=>?_) c0 hc0
   clear hc0
   by_cases hkr:k=r
   . subst hkr; exact g4 S s1 s2 c hc
   . rw [g2 k c hkr] at hc; exact s2 k c hk hc
 have I2:Mx N C M2∧(∀ a c,a≠r→has M2 a c=has M a c)∧(∀ c,has M r c=true→has M2 r c=true):=⟨q2,fun a c ha=>(q3 a c ha).trans (g2 a c ha),fun c hc=>q4 c (g3 c hc)⟩
 cases b with
 | true =>
   left
   obtain ⟨c,c1,c2⟩:=q7 rfl
   refine ⟨M2,e,⟨I2.1,I2.2.1,I2.2.2,snd2⟩,?_⟩
   have h1:=wQ (f:=has M1 r) (g:=has M2 r) q4 (q2.lt c1).2 c1 c2
   have h2:=qG C (has M2 r)
   show C - (bX C (has M2 r)).length < C - (bX C (has M1 r)).length
   omega
 | false =>
   right
   obtain ⟨h1,h2⟩:=q6 rfl
   refine ⟨M2,e,I2.1,I2.2.1,I2.2.2,snd2,fun k c hk hc=>?_⟩
   rw [h1] at hk ⊢
   have hc':has M1 k c=true:=by
     by_cases hkr:k=r
     . subst hkr; rw [h1] at hc; exact hc
     . rw [q3 k c hkr] at hc; exact hc
   exact h2 k c hk hc'
inductive TC (R:Nat→Nat→Bool):Nat→Nat→Prop where
 | base {a b:Nat}:R a b=true→TC R a b
 | step {a b c:Nat}:TC R a b→R b c=true→TC R a c
theorem TC.trans {R:Nat→Nat→Bool} {a b c:Nat} (h:TC R a b) (k:TC R b c):TC R a c:=by
 induction k with
 | base h1=>exact .step h h1
 | step _ h1 ih=>exact .step ih h1
theorem TC.least {R:Nat→Nat→Bool} {T:Nat→Nat→Prop} (h1:∀ a b,R a b=true→T a b) (h2:∀ a b c,T a b→T b c→T a c) {a b:Nat} (h:TC R a b):T a b:=by
 induction h with
 | base h=>exact h1 _ _ h
 | step _ h ih=>exact h2 _ _ _ ih (h1 _ _ h)
theorem ud {N:Nat} {M:MX} (h:Mx N N M):∃ M',im (N:Int) M=some (((bQ N N (has M'):Nat):Int) - ((bQ N N (has M):Nat):Int),M')∧Mx N N M'∧∀ a c,has M' a c=true↔TC (has M) a c:=by
 have hN:=h.hN
 have hlen:=h.len
 have key:=bf (body:=ii (N:Int) (N:Int)) (fun s=>∃ k:Nat,s.1=(k:Int)∧k≤N∧Mx N N s.2∧(∀ a c,has M a c=true→has s.2 a c=true)∧(∀ a c,has s.2 a c=true→TC (has M) a c)∧∀ a c,a < k→TC (has M) a c→has s.2 a c=true) (fun s=>N - s.1.toNat)
   (Q:=fun M'=>Mx N N M'∧∀ a c,has M' a c=true↔TC (has M) a c) ?_ (s:=((0:Int),M)) ⟨0,rfl,Nat.zero_le _,h,fun _ _ hc=>hc,fun a c hc => .base hc,fun a c h0=>by omega⟩
 . obtain ⟨M',k1,k2,k3⟩:=key
   refine ⟨M',?_,k2,k3⟩
   unfold im
   have er:∀ M1:MX,Mx N N M1→cE (N:Int) M1=some ((N:Int),M1):=fun M1 h1=>by
     show some (((M1.length:Nat):Int),M1)=_
     rw [h1.len]
   have ec:∀ M1:MX,kw (N:Int) M1=some ((N:Int),M1):=fun M1=>rfl
   have e0:(!decide ((N:Int)=(N:Int)))=false:=by simp
   have b1:=lW N N (has M')
   have b2:=lW N N (has M)
   have b3:N * N≤65536 * 65536:=Nat.mul_le_mul hN hN
   simp only [er M h,ec,Option.bind_some,e0,cond_false,ov h,k1,ov k2]
   rw [w64 (by omega) (by omega)]
   rfl
 . rintro ⟨i,M1⟩ ⟨k,rfl,hk,g1,g2,g3,g4⟩
   dsimp only at *
   by_cases hkN:k < N
   . left
     obtain ⟨M2,q1,q2,q3,q4,q5,q6⟩:=uB g1 hkN
     refine ⟨(((k + 1:Nat):Int),M2),?_,⟨k + 1,rfl,hkN,q2,fun a c hc=>?_,fun a c hc=>?_,fun a c ha hc=>?_⟩,?_⟩
     . unfold ii
       simp only [dlt hkN,cond_true,q1,Option.bind_some,aX hkN (by omega)]
     . by_cases hak:a=k
       . subst hak; exact q4 c (g2 _ c hc)
       . rw [q3 a c hak]; exact g2 a c hc
     . by_cases hak:a=k
       . subst hak
         exact q5 (fun c=>TC (has M) a c) (fun c hc=>g3 _ c hc) (fun k' c hk' hc=>hk'.trans (g3 _ c hc)) c hc
       . rw [q3 a c hak] at hc; exact g3 a c hc
     . by_cases hak:a=k
       . have up:∀ b c,has M b c=true→has M2 b c=true:=fun b d hd=>by
           by_cases hb:b=k
           . rw [hb] at hd ⊢; exact q4 d (g2 _ d hd)
           . rw [q3 b d hb]; exact g2 b d hd
         subst hak
         have all:∀ {c},TC (has M) a c→has M2 a c=true:=fun {c} hc=>by
           induction hc with
           | base h1=>exact up _ _ h1
           | step _ h1 ih=>exact q6 _ _ ih (up _ _ h1)
         exact all hc
       . rw [q3 a c hak]; exact g4 a c (by omega) hc
     . show N - ((k + 1:Nat):Int).toNat < N - ((k:Nat):Int).toNat
       rw [Int.toNat_natCast,Int.toNat_natCast]; omega
   . right
     obtain rfl:k=N:=by omega
     refine ⟨M1,?_,g1,fun a c=>⟨g3 a c,fun hc=>?_⟩⟩
     . unfold ii
       simp only [dge (Nat.lt_irrefl _),cond_false]
     . refine g4 a c ?_ hc
       have:∀ {a c},TC (has M) a c→a < k:=fun {a c} hc=>by
         induction hc with
         | base h1=>exact (h.lt h1).1
         | step _ _ ih=>exact ih
       exact this hc
def zr (M:List (List Int)):Nat:=(M.map fun r=>r.count 0).sum
theorem uu (i:Int):br i i=some ():=by unfold br; simp
theorem count_set {r:List Int} {c:Nat} (h:c < r.length) (h0:r[c]=0):(r.set c 1).count 0 + 1=r.count 0:=by
 rw [List.count_set h]
 have:0 < r.count 0:=List.count_pos_iff.2 (h0 ▸ List.getElem_mem h)
 simp [h0]
 omega
theorem qr:∀ {l:List Nat} {a:Nat} (h:a < l.length) {n:Nat},n + 1=l[a]→(l.set a n).sum + 1=l.sum
 | [],a,h,n,e=>by cases h
 | x :: l,0,h,n,e=>by simp at e ⊢; omega
 | x :: l,a + 1,h,n,e=>by
   have:=qr (l:=l) (a:=a) (by simpa using h) (n:=n) (by simpa using e)
   simp only [List.set_cons_succ,List.sum_cons]; omega
theorem xt {M:List (List Int)} {a c:Nat} (h:a < M.length) (hc:c < M[a].length) (h0:M[a][c]=0):zr (M.set a (M[a].set c 1)) + 1=zr M:=by
 unfold zr
 rw [List.map_set]
 refine qr (by simpa using h) ?_
 rw [List.getElem_map]
 exact count_set hc h0
def at2 (M:List (List Int)) (a b:Nat):Int:=((M[a]?.getD [])[b]?).getD 0
structure Rl (U:Nat) (M:List (List Int)):Prop where
 len:M.length=U
 row:∀ a (h:a < M.length),M[a].length=U
 bit:∀ a b,at2 M a b=0∨at2 M a b=1
theorem dY {M:List (List Int)} {a b:Nat} (ha:a < M.length) (hb:b < M[a].length):M[a][b]=at2 M a b:=by
 unfold at2; rw [List.getElem?_eq_getElem ha,Option.getD_some,List.getElem?_eq_getElem hb,Option.getD_some]
theorem Rl.lt {U:Nat} {M:List (List Int)} (h:Rl U M) {a b:Nat} (h1:at2 M a b=1):a < U∧b < U:=by
 rcases Nat.lt_or_ge a M.length with h2 | h2
 . rcases Nat.lt_or_ge b M[a].length with h3 | h3
   . exact ⟨h.len ▸ h2,h.row a h2 ▸ h3⟩
   . unfold at2 at h1; rw [List.getElem?_eq_getElem h2,Option.getD_some,List.getElem?_eq_none h3] at h1; cases h1
 . unfold at2 at h1; rw [List.getElem?_eq_none h2] at h1; cases h1
theorem lJ {M:List (List Int)} {a c:Nat} (h:a < M.length) (hc:c < M[a].length) (p q:Nat):at2 (M.set a (M[a].set c 1)) p q=if p=a∧q=c then 1 else at2 M p q:=by
 unfold at2
 rw [List.getElem?_set]
 by_cases hp:a=p
 . subst hp
   rw [if_pos rfl,if_pos h,Option.getD_some,List.getElem?_set]
   by_cases hq:c=q
   . subst hq; rw [if_pos rfl,if_pos hc]; simp
   . rw [if_neg hq,if_neg (fun e=>hq e.2.symm),List.getElem?_eq_getElem h]; rfl
 . rw [if_neg hp,if_neg (fun e=>hp e.1.symm)]
theorem Rl.set {U:Nat} {M:List (List Int)} (h:Rl U M) {a c:Nat} (ha:a < M.length) (hc:c < M[a].length):Rl U (M.set a (M[a].set c 1)):=by
 refine ⟨by rw [List.length_set]; exact h.len,fun q hq=>?_,fun p q=>?_⟩
 . rw [List.length_set] at hq
   by_cases e:a=q
   . subst e; rw [List.getElem_set_self,List.length_set]; exact h.row a hq
   . rw [List.getElem_set_ne e]; exact h.row q hq
 . rw [lJ ha hc]
   split
   . exact .inr rfl
   . exact h.bit p q
def Snd (M0 M:List (List Int)):Prop:=∀ T:Nat→Nat→Prop,(∀ p q r,T p q→T q r→T p r)→(∀ p q,at2 M0 p q=1→T p q)→∀ p q,at2 M p q=1→T p q
structure St (U:Nat) (t0:Bool) (M0:List (List Int)) (r:Bool×List (List Int)) (P:List (List Int)→Prop):Prop where
 rl:Rl U r.2
 up:∀ p q,at2 M0 p q=1→at2 r.2 p q=1
 snd:Snd M0 r.2
 le:zr r.2≤zr M0
 lt:r.1=true→t0=true∨zr r.2 < zr M0
 no:r.1=false→r.2=M0∧t0=false∧P M0
theorem St.refl {U:Nat} {t:Bool} {M:List (List Int)} (h:Rl U M) {P:List (List Int)→Prop} (hp:P M):St U t M (t,M) P :=
 ⟨h,fun _ _ k=>k,fun _ _ k=>k,Nat.le_refl _,fun k => .inl k,fun k=>⟨rfl,k,hp⟩⟩
theorem St.trans {U:Nat} {t0 t1:Bool} {M0 M1:List (List Int)} {r:Bool×List (List Int)} {P Q:List (List Int)→Prop} (h:St U t0 M0 (t1,M1) P) (k:St U t1 M1 r Q):St U t0 M0 r (fun M=>P M∧Q M) where
 rl:=k.rl
 up:=fun p q e=>k.up p q (h.up p q e)
 snd:=fun T t1 t2=>k.snd T t1 (h.snd T t1 t2)
 le:=Nat.le_trans k.le h.le
 lt:=fun e=>by
   rcases k.lt e with e1 | e1
   . rcases h.lt e1 with e2 | e2
     . exact .inl e2
     . exact .inr (Nat.lt_of_le_of_lt k.le e2)
   . exact .inr (Nat.lt_of_lt_of_le e1 h.le)
 no:=fun e=>by
   obtain ⟨k1,k2,k3⟩:=k.no e
   obtain ⟨h1,h2,h3⟩:=h.no k2
   dsimp only at h1
   subst h1
   exact ⟨k1,h2,h3,k3⟩
theorem St.imp {U:Nat} {t0:Bool} {M0:List (List Int)} {r:Bool×List (List Int)} {P Q:List (List Int)→Prop} (h:St U t0 M0 r P) (i:P M0→Q M0):St U t0 M0 r Q :=
 ⟨h.rl,h.up,h.snd,h.le,h.lt,fun e=>let ⟨a,b,c⟩:=h.no e; ⟨a,b,i c⟩⟩
theorem rl4 {U:Nat} (hU:U≤65536) {a b:Nat} (ha:a < U) (hb:b < U) {t0:Bool} {M0:List (List Int)} (h0:Rl U M0) :
   ∃ r,loop (iG (U:Int) (a:Int) (b:Int)) (t0,0,M0)=some r∧St U t0 M0 r (fun M=>∀ d,d < U→at2 M a b=1→at2 M b d=1→at2 M a d=1):=by
 refine bf (body:=iG (U:Int) (a:Int) (b:Int)) (fun s=>∃ c:Nat,s.2.1=(c:Int)∧c≤U∧St U t0 M0 (s.1,s.2.2) (fun M=>∀ d,d < c→at2 M a b=1→at2 M b d=1→at2 M a d=1)) (fun s=>U - s.2.1.toNat) ?_ ⟨0,rfl,Nat.zero_le _,.refl h0 (fun d h=>absurd h (Nat.not_lt_zero d))⟩
 rintro ⟨t,i,M⟩ ⟨c,rfl,hc,hs⟩
 dsimp only at hs ⊢
 have hM:Rl U M:=hs.rl
 unfold iG
 dsimp only
 by_cases hcU:c < U
 . left
   have la:a < M.length:=by rw [hM.len]; exact ha
   have lb:b < M.length:=by rw [hM.len]; exact hb
   have lc:c < M[a].length:=by rw [hM.row a la]; exact hcU
   have lab:b < M[a].length:=by rw [hM.row a la]; exact hb
   have lbc:c < M[b].length:=by rw [hM.row b lb]; exact hcU
   have sa:M.set a M[a]=M:=List.set_getElem_self la
   have sb:M.set b M[b]=M:=List.set_getElem_self lb
   have dn:∀ k:Nat,k=c + 1→U - k < U - c:=fun k e=>by omega
   have ext:∀ r:Bool×List (List Int),St U t M r (fun M=>at2 M a b=1→at2 M b c=1→at2 M a c=1)→St U t0 M0 (r.1,r.2) (fun M=>∀ d,d < c + 1→at2 M a b=1→at2 M b d=1→at2 M a d=1):=fun r hr=>(hs.trans hr).imp (fun ⟨k1,k2⟩ d hd=>by
     by_cases e:d=c
     . subst e; exact k2
     . exact k1 d (by omega))
   rw [dlt hcU,cond_true,aD la]
   simp only [Option.bind_some,uu,Int.toNat_natCast,aD lab,aD lc,aD lb,aD lbc,sa,sb,aD la,aX hcU (by omega:U≤9223372036854775807),dY la lab,dY lb lbc,dY la lc]
   by_cases g1:at2 M a b=1
   . rw [decide_eq_true g1,cond_true]
     by_cases g2:at2 M b c=1
     . rw [decide_eq_true g2,cond_true]
       by_cases g3:at2 M a c=0
       . rw [decide_eq_true g3,cond_true]
         have hzz:=xt la lc (by rw [dY la lc]; exact g3)
         refine ⟨_,rfl,⟨c + 1,rfl,by omega,ext (true,M.set a (M[a].set c 1)) ?_⟩,by dsimp only; omega⟩
         refine ⟨hM.set la lc,fun p q e=>?_,fun T t1 t2 p q e=>?_,?_,fun _ => .inr ?_,fun e=>by cases e⟩
         . dsimp only; rw [lJ la lc]; split
           . rfl
           . exact e
         . dsimp only at e; rw [lJ la lc] at e
           split at e
           . rename_i k; obtain ⟨rfl,rfl⟩:=k
             exact t1 _ _ _ (t2 _ _ g1) (t2 _ _ g2)
           . exact t2 p q e
         . dsimp only; omega
         . dsimp only; omega
       . rw [decide_eq_false g3,cond_false]
         exact ⟨_,rfl,⟨c + 1,rfl,by omega,ext (t,M) (.refl hM (fun _ _=>(hM.bit a c).resolve_left g3))⟩,by dsimp only; omega⟩
     . rw [decide_eq_false g2,cond_false]
       exact ⟨_,rfl,⟨c + 1,rfl,by omega,ext (t,M) (.refl hM (fun _ k=>absurd k g2))⟩,by dsimp only; omega⟩
   . rw [decide_eq_false g1,cond_false]
     exact ⟨_,rfl,⟨c + 1,rfl,by omega,ext (t,M) (.refl hM (fun k=>absurd k g1))⟩,by dsimp only; omega⟩
 . right
   obtain rfl:c=U:=by omega
   rw [dge hcU,cond_false]
   exact ⟨_,rfl,hs⟩
theorem rl5 {U:Nat} (hU:U≤65536) {a:Nat} (ha:a < U) {t0:Bool} {M0:List (List Int)} (h0:Rl U M0) :
   ∃ r,loop (iI (U:Int) (a:Int)) (t0,0,M0)=some r∧St U t0 M0 r (fun M=>∀ b,b < U→∀ d,d < U→at2 M a b=1→at2 M b d=1→at2 M a d=1):=by
 refine bf (body:=iI (U:Int) (a:Int)) (fun s=>∃ c:Nat,s.2.1=(c:Int)∧c≤U∧St U t0 M0 (s.1,s.2.2) (fun M=>∀ b,b < c→∀ d,d < U→at2 M a b=1→at2 M b d=1→at2 M a d=1)) (fun s=>U - s.2.1.toNat) ?_ ⟨0,rfl,Nat.zero_le _,.refl h0 (fun d h=>absurd h (Nat.not_lt_zero d))⟩
 rintro ⟨t,i,M⟩ ⟨c,rfl,hc,hs⟩
 dsimp only at hs ⊢
 have hM:Rl U M:=hs.rl
 unfold iI
 dsimp only
 by_cases hcU:c < U
 . left
   obtain ⟨⟨t1,M1⟩,e,hr⟩:=rl4 hU ha hcU (t0:=t) hM
   rw [dlt hcU,cond_true,e]
   simp only [Option.bind_some,aX hcU (by omega:U≤9223372036854775807)]
   refine ⟨_,rfl,⟨c + 1,rfl,by omega,(hs.trans hr).imp (fun ⟨k1,k2⟩ d hd=>?_)⟩,by dsimp only; rw [Int.toNat_natCast,Int.toNat_natCast]; omega⟩
   by_cases e:d=c
   . subst e; exact k2
   . exact k1 d (by omega)
 . right
   obtain rfl:c=U:=by omega
   rw [dge hcU,cond_false]
   exact ⟨_,rfl,hs⟩
theorem rl6 {U:Nat} (hU:U≤65536) {M0:List (List Int)} (h0:Rl U M0) :
   ∃ r,loop (iA (U:Int)) (false,0,M0)=some r∧St U false M0 r (fun M=>∀ a,a < U→∀ b,b < U→∀ d,d < U→at2 M a b=1→at2 M b d=1→at2 M a d=1):=by
 refine bf (body:=iA (U:Int)) (fun s=>∃ c:Nat,s.2.1=(c:Int)∧c≤U∧St U false M0 (s.1,s.2.2) (fun M=>∀ a,a < c→∀ b,b < U→∀ d,d < U→at2 M a b=1→at2 M b d=1→at2 M a d=1)) (fun s=>U - s.2.1.toNat) ?_ ⟨0,rfl,Nat.zero_le _,.refl h0 (fun d h=>absurd h (Nat.not_lt_zero d))⟩
 rintro ⟨t,i,M⟩ ⟨c,rfl,hc,hs⟩
 dsimp only at hs ⊢
 have hM:Rl U M:=hs.rl
 unfold iA
 dsimp only
 by_cases hcU:c < U
 . left
   obtain ⟨⟨t1,M1⟩,e,hr⟩:=rl5 hU hcU (t0:=t) hM
   rw [dlt hcU,cond_true,e]
   simp only [Option.bind_some,aX hcU (by omega:U≤9223372036854775807)]
   refine ⟨_,rfl,⟨c + 1,rfl,by omega,(hs.trans hr).imp (fun ⟨k1,k2⟩ d hd=>?_)⟩,by dsimp only; rw [Int.toNat_natCast,Int.toNat_natCast]; omega⟩
   by_cases e:d=c
   . subst e; exact k2
   . exact k1 d (by omega)
 . right
   obtain rfl:c=U:=by omega
   rw [dge hcU,cond_false]
   exact ⟨_,rfl,hs⟩
theorem rl7 {U:Nat} (hU:U≤65536) {M0:List (List Int)} (h0:Rl U M0):∃ M,loop (iH (U:Int)) (true,M0)=some M∧Rl U M∧(∀ p q,at2 M0 p q=1→at2 M p q=1)∧Snd M0 M∧∀ a b d,at2 M a b=1→at2 M b d=1→at2 M a d=1:=by
 refine bf (body:=iH (U:Int)) (fun s=>Rl U s.2∧(∀ p q,at2 M0 p q=1→at2 s.2 p q=1)∧Snd M0 s.2∧(s.1=false→∀ a b d,at2 s.2 a b=1→at2 s.2 b d=1→at2 s.2 a d=1)) (fun s=>2 * zr s.2 + (if s.1=true then 1 else 0)) ?_ ⟨h0,fun _ _ k=>k,fun _ _ k=>k,fun e=>by cases e⟩
 rintro ⟨t,M⟩ ⟨hM,m1,m2,m3⟩
 dsimp only at hM m1 m2 m3 ⊢
 unfold iH
 dsimp only
 cases t with
 | true =>
   left
   obtain ⟨⟨t1,M1⟩,e,hr⟩:=rl6 hU hM
   rw [cond_true,e]
   refine ⟨_,rfl,⟨hr.rl,fun p q k=>hr.up p q (m1 p q k),fun T a b=>hr.snd T a (m2 T a b),fun ht=>?_⟩,?_⟩
   . obtain ⟨k1,_,k2⟩:=hr.no ht
     dsimp only at k1
     subst k1
     exact fun a b d g1 g2=>k2 a (hM.lt g1).1 b (hM.lt g1).2 d (hM.lt g2).2 g1 g2
   . dsimp only
     have h2:zr M1≤zr M:=hr.le
     cases t1 with
     | true =>
       rcases hr.lt rfl with k | k
       . cases k
       . have k:zr M1 < zr M:=k
         simp; omega
     | false=>simp; omega
 | false=>right; exact ⟨_,rfl,hM,m1,m2,m3 rfl⟩
def cT (xb:List (Int×Int)) (a b:Nat):Prop:=a=b∨a=0∨((a:Int),(b:Int))∈xb
theorem rl1 (xb:List (Int×Int)) (hb:xb.length≤1000000) (a c:Nat) (v0:Int) (h0:v0=0∨v0=1):∃ v,loop (iB xb (a:Int) (c:Int)) (v0,0)=some v∧(v=0∨v=1)∧(v=1↔v0=1∨((a:Int),(c:Int))∈xb):=by
 refine bf (body:=iB xb (a:Int) (c:Int)) (fun s=>∃ k:Nat,s.2=(k:Int)∧k≤xb.length∧(s.1=0∨s.1=1)∧(s.1=1↔v0=1∨((a:Int),(c:Int))∈xb.take k)) (fun s=>xb.length - s.2.toNat) ?_ ⟨0,rfl,Nat.zero_le _,h0,by simp⟩
 rintro ⟨v,i⟩ ⟨k,rfl,hk,hv,hw⟩
 dsimp only at hv hw ⊢
 unfold iB
 dsimp only
 by_cases hkl:k < xb.length
 . left
   rw [dlt hkl,cond_true,aD hkl]
   simp only [Option.bind_some,aX hkl (by omega:xb.length≤9223372036854775807)]
   have dn:xb.length - ((k + 1:Nat):Int).toNat < xb.length - ((k:Nat):Int).toNat:=by rw [Int.toNat_natCast,Int.toNat_natCast]; omega
   have tk:xb.take (k + 1)=xb.take k++[xb[k]]:=by rw [List.take_succ_eq_append_getElem hkl]
   have no:¬ (((a:Int),(c:Int))=xb[k])→(v=1↔v0=1∨((a:Int),(c:Int))∈xb.take (k + 1)):=fun hn=>by
     rw [hw,tk,List.mem_append,List.mem_singleton]
     simp [hn]
   by_cases q1:xb[k].1=(a:Int)
   . by_cases q2:xb[k].2=(c:Int)
     . simp only [decide_eq_true q1,decide_eq_true q2,cond_true,Option.bind_some]
       refine ⟨_,rfl,⟨k + 1,rfl,by omega,.inr rfl,?_⟩,dn⟩
       rw [tk,List.mem_append,List.mem_singleton]
       simp [← q1,← q2]
     . simp only [decide_eq_true q1,decide_eq_false q2,cond_true,cond_false,Option.bind_some]
       exact ⟨_,rfl,⟨k + 1,rfl,by omega,hv,no (fun e=>q2 (by rw [← e]))⟩,dn⟩
   . simp only [decide_eq_false q1,cond_false,Option.bind_some]
     exact ⟨_,rfl,⟨k + 1,rfl,by omega,hv,no (fun e=>q1 (by rw [← e]))⟩,dn⟩
 . right
   rw [dge hkl,cond_false]
   rw [List.take_of_length_le (by omega)] at hw
   exact ⟨_,rfl,hv,hw⟩
theorem rl2 {U:Nat} (hU:U≤65536) (xb:List (Int×Int)) (hb:xb.length≤1000000) (a:Nat):∃ r,loop (iD (U:Int) xb (a:Int)) ([],0)=some r∧r.length=U∧∀ b (h:b < r.length),(r[b]=0∨r[b]=1)∧(r[b]=1↔cT xb a b):=by
 refine bf (body:=iD (U:Int) xb (a:Int)) (fun s=>∃ k:Nat,s.2=(k:Int)∧k≤U∧s.1.length=k∧∀ b (h:b < s.1.length),(s.1[b]=0∨s.1[b]=1)∧(s.1[b]=1↔cT xb a b)) (fun s=>U - s.2.toNat) ?_ ⟨0,rfl,Nat.zero_le _,rfl,fun b h=>absurd h (Nat.not_lt_zero _)⟩
 rintro ⟨r,i⟩ ⟨k,rfl,hk,hl,hr⟩
 dsimp only at hl hr ⊢
 unfold iD
 dsimp only
 by_cases hkU:k < U
 . left
   rw [dlt hkU,cond_true]
   have hs : ∃ s0 : Int, (cond ((decide ((a : Int) = (k : Int))) || (decide ((a : Int) = 0))) (some (1)) (some (0)) : Option Int) = some s0 ∧ (s0 = 0 ∨ s0 = 1) ∧ (s0 = 1 ↔ a = k ∨ a = 0) := by
     by_cases e:a=k
     . exact ⟨1,by simp [e],.inr rfl,by simp [e]⟩
     . by_cases e0:a=0
       . exact ⟨1,by simp [e0],.inr rfl,by simp [e0]⟩
       . exact ⟨0,by
           have h1:¬ ((a:Int)=(k:Int)):=by omega
           have h2:¬ ((a:Int)=0):=by omega
           rw [decide_eq_false h1,decide_eq_false h2]; rfl,.inl rfl,by simp [e,e0]⟩
   obtain ⟨s0,e0,e1,e2⟩:=hs
   obtain ⟨v,g1,g2,g3⟩:=rl1 xb hb a k s0 e1
   rw [e0]
   simp only [Option.bind_some,g1]
   rw [bN (by simp; omega)]
   simp only [Option.bind_some,aX hkU (by omega:U≤9223372036854775807)]
   refine ⟨_,rfl,⟨k + 1,rfl,by omega,by simp [hl],fun b h=>?_⟩,by dsimp only; rw [Int.toNat_natCast,Int.toNat_natCast]; omega⟩
   dsimp only at h ⊢
   rw [List.length_append,List.length_singleton] at h
   by_cases e:b=k
   . subst e
     have e4:(r++[v])[b]=v:=by rw [List.getElem_append_right (by omega)]; simp [hl]
     rw [e4]
     refine ⟨g2,?_⟩
     rw [g3,e2]; unfold cT; rw [or_assoc]
   . rw [List.getElem_append_left (by omega)]
     exact hr b (by omega)
 . right
   have e:k=U:=by omega
   subst e
   rw [dge hkU,cond_false]
   exact ⟨_,rfl,hl,hr⟩
theorem rl3 {U:Nat} (hU:U≤65536) (xb:List (Int×Int)) (hb:xb.length≤1000000):∃ M,loop (f7 (U:Int) xb) ([],0)=some M∧Rl U M∧∀ a b,at2 M a b=1↔(a < U∧b < U)∧cT xb a b:=by
 have key:∃ M,loop (f7 (U:Int) xb) ([],0)=some M∧M.length=U∧∀ q (h:q < M.length),M[q].length=U∧∀ b (h2:b < M[q].length),(M[q][b]=0∨M[q][b]=1)∧(M[q][b]=1↔cT xb q b):=by
   refine bf (body:=f7 (U:Int) xb) (fun s=>∃ k:Nat,s.2=(k:Int)∧k≤U∧s.1.length=k∧∀ q (h:q < s.1.length),s.1[q].length=U∧∀ b (h2:b < s.1[q].length),(s.1[q][b]=0∨s.1[q][b]=1)∧(s.1[q][b]=1↔cT xb q b)) (fun s=>U - s.2.toNat) ?_ ⟨0,rfl,Nat.zero_le _,rfl,fun q h=>absurd h (Nat.not_lt_zero _)⟩
   rintro ⟨M,i⟩ ⟨k,rfl,hk,hl,hr⟩
   dsimp only at hl hr ⊢
   unfold f7
   dsimp only
   by_cases hkU:k < U
   . left
     obtain ⟨r,e,r1,r2⟩:=rl2 hU xb hb k
     rw [dlt hkU,cond_true,e]
     simp only [Option.bind_some]
     rw [bN (by simp; omega)]
     simp only [Option.bind_some,aX hkU (by omega:U≤9223372036854775807)]
     refine ⟨_,rfl,⟨k + 1,rfl,by omega,by simp [hl],fun q h=>?_⟩,by dsimp only; rw [Int.toNat_natCast,Int.toNat_natCast]; omega⟩
     dsimp only at h ⊢
     rw [List.length_append,List.length_singleton] at h
     by_cases e2:q=k
     . subst e2
       have e4:(M++[r])[q]=r:=by rw [List.getElem_append_right (by omega)]; simp [hl]
       simp only [e4]
       exact ⟨r1,r2⟩
     . have e4:(M++[r])[q]=M[q]:=by rw [List.getElem_append_left (by omega)]
       simp only [e4]
       exact hr q (by omega)
   . right
     have e:k=U:=by omega
     subst e
     rw [dge hkU,cond_false]
     exact ⟨_,rfl,hl,hr⟩
 obtain ⟨M,e,h1,h2⟩:=key
 refine ⟨M,e,⟨h1,fun a h=>(h2 a h).1,fun a b=>?_⟩,fun a b=>?_⟩
 . rcases Nat.lt_or_ge a M.length with ha | ha
   . rcases Nat.lt_or_ge b M[a].length with hb | hb
     . rw [← dY ha hb]; exact ((h2 a ha).2 b hb).1
     . left; unfold at2; rw [List.getElem?_eq_getElem ha,Option.getD_some,List.getElem?_eq_none hb]; rfl
   . left; unfold at2; rw [List.getElem?_eq_none ha]; rfl
 . rcases Nat.lt_or_ge a M.length with ha | ha
   . rcases Nat.lt_or_ge b M[a].length with hb | hb
     . rw [← dY ha hb,((h2 a ha).2 b hb).2]
       have:=(h2 a ha).1
       exact ⟨fun k=>⟨⟨by omega,by omega⟩,k⟩,fun k=>k.2⟩
     . have:=(h2 a ha).1
       have e0:at2 M a b=0:=by unfold at2; rw [List.getElem?_eq_getElem ha,Option.getD_some,List.getElem?_eq_none hb]; rfl
       rw [e0]
       constructor
       . intro k; cases k
       . rintro ⟨k,_⟩; omega
   . have e0:at2 M a b=0:=by unfold at2; rw [List.getElem?_eq_none ha]; rfl
     rw [e0]
     constructor
     . intro k; cases k
     . rintro ⟨k,_⟩; omega
structure Ff (U:Nat) (xb:List (Int×Int)) (f:Nat→Nat→Bool):Prop where
 lt:∀ {a b},f a b=true→a < U∧b < U
 ini:∀ {a b},a < U→b < U→cT xb a b→f a b=true
 cl:∀ {a b c},f a b=true→f b c=true→f a c=true
 least:∀ T:Nat→Nat→Prop,(∀ p q r,T p q→T q r→T p r)→(∀ a b,a < U→b < U→cT xb a b→T a b)→∀ {a b},f a b=true→T a b
def f31 (M:List (List Int)) (a b:Nat):Bool:=decide (at2 M a b=1)
theorem yb {U:Nat} (hU:U≤65536) (xb:List (Int×Int)) (hb:xb.length≤1000000):∃ M,de (U:Int) xb=some M∧Rl U M∧Ff U xb (f31 M):=by
 obtain ⟨M0,e0,h0,h2⟩:=rl3 hU xb hb
 obtain ⟨M,e1,h1,k1,k2,k3⟩:=rl7 hU h0
 refine ⟨M,?_,h1,?_⟩
 . unfold de
   have n1:¬ ((U:Int) < 0):=by omega
   have n2:¬ (65536 < (U:Int)):=by omega
   rw [decide_eq_false n1,decide_eq_false n2,Bool.or_self,cond_false,e0]
   simp only [Option.bind_some,e1]
 . refine ⟨fun h=>h1.lt (of_decide_eq_true h),fun ha hb hi=>decide_eq_true (k1 _ _ ((h2 _ _).2 ⟨⟨ha,hb⟩,hi⟩)),fun g1 g2=>decide_eq_true (k3 _ _ _ (of_decide_eq_true g1) (of_decide_eq_true g2)),fun T t1 t2 a b h=>?_⟩
   exact k2 T t1 (fun p q h=>by
     obtain ⟨⟨a1,a2⟩,a3⟩:=(h2 p q).1 h
     exact t2 p q a1 a2 a3) a b (of_decide_eq_true h)
theorem pV {n:Int} (h:n < 0∨65536 < n) (xb:List (Int×Int)):de n xb=some []:=by
 unfold de
 have:(decide (n < 0)||decide (65536 < n))=true:=by simp; exact h
 rw [this]; rfl
def aG (f:Nat→Nat→Bool) (a b:Int):Bool:=(decide (0≤a)&&decide (0≤b))&&f a.toNat b.toNat
theorem w7 {U:Nat} {M:List (List Int)} (h:Rl U M) (p q:Int):iO M p q=some (aG (f31 M) p q):=by
 unfold iO aG
 by_cases g:((((decide (0≤p))&&(decide (p < (((M.length:Nat):Int)))))&&(decide (0≤q)))&&(decide (q < (((M.length:Nat):Int)))))=true
 . rw [g,cond_true]
   simp only [Bool.and_eq_true,decide_eq_true_eq] at g
   obtain ⟨⟨⟨g1,g2⟩,g3⟩,g4⟩:=g
   obtain ⟨a,rfl⟩:=Int.eq_ofNat_of_zero_le g1
   obtain ⟨b,rfl⟩:=Int.eq_ofNat_of_zero_le g3
   have la:a < M.length:=by omega
   have m1:=h.row a la
   have hl:=h.len
   have lb:b < M[a].length:=by rw [m1]; omega
   rw [aD la]
   simp only [Option.bind_some,aD lb,dY la lb,Int.toNat_natCast]
   rw [decide_eq_true g1,decide_eq_true g3]; rfl
 . rw [Bool.eq_false_iff.2 g,cond_false]
   simp only [Option.bind_some,Option.some.injEq]
   symm
   rw [Bool.and_eq_false_iff]
   by_cases h0:0≤p∧0≤q
   . right
     refine decide_eq_false (fun e=>g ?_)
     have:=h.lt e
     have:=h.len
     simp only [Bool.and_eq_true,decide_eq_true_eq]
     omega
   . left
     rw [Bool.and_eq_false_iff]
     simp only [decide_eq_false_iff_not]
     omega
section
theorem mfS {α:Type} [DecidableEq α] (k:α):∀ (l:List (α×Int)) (i:Nat),(az k l i).isSome=decide (k∈l.map (·.1))
 | [],i=>rfl
 | p :: l,i=>by
   unfold az
   by_cases h:p.1=k
   . simp [h]
   . rw [if_neg h,mfS k l (i + 1)]
     have h2:¬ k=p.1:=fun e=>h e.symm
     simp [h2]
def inE (U:Nat) (e:Int×Int):Prop:=(0≤e.1∧e.1 < (U:Int))∧0≤e.2∧e.2 < (U:Int)
theorem gQ (r:Int) (U:Nat) (l:List Int) (m:Option (List (Int×Int))) (x:Option (Int×MX)):cg r (U:Int) l m x=some (decide (0≤r∧r < (U:Int)),l,m,x):=by
 unfold cg
 by_cases h:0≤r
 . rw [decide_eq_true h,cond_true]
   show some _=_
   simp [h]
 . rw [decide_eq_false h,cond_false]
   simp [h]
theorem qK (r:Int) (U:Int) {l:List Int} (m:List (Int×Int)) (x:Option (Int×MX)) (hm:∀ q,q∈m.map (·.1)↔q∈l) (hl:l.length≤1000000000) :
   ∃ m',fO r U l (some m) x=some (if r∈l then l else l++[r],some m',x)∧∀ q,q∈m'.map (·.1)↔q∈(if r∈l then l else l++[r]):=by
 unfold fO
 simp only [Option.bind_some,mfS]
 by_cases h:r∈l
 . have h1:r∈m.map (·.1):=(hm r).2 h
   refine ⟨m,?_,?_⟩
   . rw [decide_eq_true h1,Bool.not_true,cond_false,if_pos h]
   . rw [if_pos h]; exact hm
 . have h1:¬ r∈m.map (·.1):=fun k=>h ((hm r).1 k)
   refine ⟨bL r 0 m,?_,?_⟩
   . rw [decide_eq_false h1,Bool.not_false,cond_true,bN (by simp; omega),if_neg h]; rfl
   . intro q
     rw [if_neg h,lI,hm,List.mem_append,List.mem_singleton]
structure Nms (U:Nat) (es:List (Int×Int)) (l:List Int) (m:List (Int×Int)):Prop where
 nd:l.Nodup
 len:l.length≤2 * es.length
 key:∀ q,q∈m.map (·.1)↔q∈l
 mem:∀ q,q∈l↔∃ e∈es,inE U e∧(q=e.1∨q=e.2)
theorem qS {l:List Int} (h:l.Nodup) (r:Int):(if r∈l then l else l++[r]).Nodup∧(if r∈l then l else l++[r]).length≤l.length + 1∧∀ q,q∈(if r∈l then l else l++[r])↔q∈l∨q=r:=by
 by_cases hr:r∈l
 . rw [if_pos hr]
   refine ⟨h,by omega,fun q=>⟨.inl,?_⟩⟩
   rintro (k | rfl)
   . exact k
   . exact hr
 . rw [if_neg hr]
   refine ⟨?_,by simp,fun q=>by simp⟩
   rw [List.nodup_append]
   exact ⟨h,by simp,fun a ha b hb e=>hr (by rw [List.mem_singleton] at hb; rw [← hb,← e]; exact ha)⟩
theorem yz {U:Nat} (xb:List (Int×Int)) (hb:xb.length≤1000000):∃ r,loop (iK (U:Int) xb) (0,[],some [],none)=some r∧∃ l m,r=(l,some m,none)∧Nms U xb l m:=by
 refine bf (body:=iK (U:Int) xb) (fun s=>∃ k:Nat,k≤xb.length∧∃ l m,s=((k:Int),l,some m,none)∧Nms U (xb.take k) l m) (fun s=>xb.length - s.1.toNat) ?_ ⟨0,Nat.zero_le _,[],[],rfl,⟨List.nodup_nil,by simp,by simp,by simp⟩⟩
 rintro s ⟨k,hk,l,m,rfl,hn⟩
 unfold iK
 dsimp only
 by_cases hkl:k < xb.length
 . left
   rw [dlt hkl,cond_true,aD hkl]
   simp only [Option.bind_some,aX hkl (by omega:xb.length≤9223372036854775807),gQ]
   have tk:xb.take (k + 1)=xb.take k++[xb[k]]:=by rw [List.take_succ_eq_append_getElem hkl]
   have tl:(xb.take (k + 1)).length=(xb.take k).length + 1:=by rw [tk,List.length_append,List.length_singleton]
   have tl2:(xb.take k).length≤xb.length:=by rw [List.length_take]; omega
   have hlen:=hn.len
   have dn:∀ z:Nat,z=k + 1→xb.length - z < xb.length - k:=fun z e=>by omega
   have no:¬ inE U xb[k]→Nms U (xb.take (k + 1)) l m:=fun hi=>⟨hn.nd,by omega,hn.key,fun q=>by
     rw [hn.mem,tk]
     constructor
     . rintro ⟨e,e1,e2⟩; exact ⟨e,List.mem_append_left _ e1,e2⟩
     . rintro ⟨e,e1,e2⟩
       rw [List.mem_append,List.mem_singleton] at e1
       rcases e1 with e1 | rfl
       . exact ⟨e,e1,e2⟩
       . exact absurd e2.1 hi⟩
   by_cases h1:0≤xb[k].1∧xb[k].1 < (U:Int)
   . by_cases h2:0≤xb[k].2∧xb[k].2 < (U:Int)
     . rw [decide_eq_true h1,decide_eq_true h2,cond_true,cond_true]
       obtain ⟨m1,p1,p2⟩:=qK xb[k].1 (U:Int) m none hn.key (by omega)
       obtain ⟨n1,n2,n3⟩:=qS hn.nd xb[k].1
       rw [p1]
       simp only [Option.bind_some]
       generalize hl1:(if xb[k].1∈l then l else l++[xb[k].1])=l1 at p2 n1 n2 n3
       obtain ⟨m2,q1,q2⟩:=qK xb[k].2 (U:Int) m1 none p2 (by omega)
       obtain ⟨o1,o2,o3⟩:=qS n1 xb[k].2
       rw [q1]
       simp only [Option.bind_some]
       refine ⟨_,rfl,⟨k + 1,hkl,_,m2,rfl,⟨o1,by omega,q2,fun q=>?_⟩⟩,by dsimp only; rw [Int.toNat_natCast,Int.toNat_natCast]; omega⟩
       rw [o3,n3,hn.mem,tk]
       constructor
       . rintro ((⟨e,e1,e2⟩ | h) | h)
         . exact ⟨e,List.mem_append_left _ e1,e2⟩
         . exact ⟨xb[k],List.mem_append_right _ (List.mem_singleton.2 rfl),⟨h1,h2⟩,.inl h⟩
         . exact ⟨xb[k],List.mem_append_right _ (List.mem_singleton.2 rfl),⟨h1,h2⟩,.inr h⟩
       . rintro ⟨e,e1,e2,e3⟩
         rw [List.mem_append,List.mem_singleton] at e1
         rcases e1 with e1 | rfl
         . exact .inl (.inl ⟨e,e1,e2,e3⟩)
         . rcases e3 with e3 | e3
           . exact .inl (.inr e3)
           . exact .inr e3
     . rw [decide_eq_true h1,decide_eq_false h2,cond_true,cond_false]
       exact ⟨_,rfl,⟨k + 1,hkl,l,m,rfl,no (fun h=>h2 h.2)⟩,by dsimp only; rw [Int.toNat_natCast,Int.toNat_natCast]; omega⟩
   . rw [decide_eq_false h1,cond_false]
     exact ⟨_,rfl,⟨k + 1,hkl,l,m,rfl,no (fun h=>h1 h.1)⟩,by dsimp only; rw [Int.toNat_natCast,Int.toNat_natCast]; omega⟩
 . right
   rw [dge hkl,cond_false]
   rw [List.take_of_length_le (by omega)] at hn
   exact ⟨_,rfl,l,m,rfl,hn⟩
theorem xO {L:List Int} (h:L.length≤1073741824):∃ S,srt L=some S∧S.Pairwise (·≤·)∧S.Perm L:=by
 refine ⟨_,by unfold srt; rw [if_pos h],?_,List.mergeSort_perm _ _⟩
 have hs:=List.pairwise_mergeSort (le:=fun x y:Int=>decide (x≤y)) (fun a b c h1 h2=>by simp at *; omega) (fun a b=>by simp; omega) L
 exact hs.imp (fun h=>by simpa using h)
theorem yq {S:List Int} (hn:S.Nodup) (hl:S.length≤9000000) {m:List (Int×Int)} (hm:∀ q,q∈m.map (·.1)↔q∈S):∃ r,loop (iN S) (0,some m)=some r∧∃ m',r=some m'∧(∀ q,q∈m'.map (·.1)↔q∈S)∧∀ j (h:j < S.length),aK S[j] m'=(j:Int):=by
 refine bf (body:=iN S) (fun s=>∃ k:Nat,k≤S.length∧∃ m',s=((k:Int),some m')∧(∀ q,q∈m'.map (·.1)↔q∈S)∧∀ j (h:j < S.length),j < k→aK S[j] m'=(j:Int)) (fun s=>S.length - s.1.toNat) ?_ ⟨0,Nat.zero_le _,m,rfl,hm,fun j _ h=>absurd h (Nat.not_lt_zero _)⟩
 rintro s ⟨k,hk,m',rfl,h1,h2⟩
 unfold iN
 dsimp only
 by_cases hkl:k < S.length
 . left
   rw [dlt hkl,cond_true,aD hkl]
   simp only [Option.bind_some,aX hkl (by omega:S.length≤9223372036854775807)]
   refine ⟨_,rfl,⟨k + 1,hkl,_,rfl,fun q=>?_,fun j hj hjk=>?_⟩,by dsimp only; rw [Int.toNat_natCast,Int.toNat_natCast]; omega⟩
   . rw [lI,h1]
     constructor
     . rintro (h | rfl)
       . exact h
       . exact List.getElem_mem hkl
     . exact .inl
   . rw [pz]
     by_cases e:j=k
     . subst e; rw [if_pos rfl]
     . rw [if_neg (fun h=>e ((List.getElem_inj hn).1 h)),h2 j hj (by omega)]
 . right
   rw [dge hkl,cond_false]
   exact ⟨_,rfl,m',rfl,h1,fun j hj=>h2 j hj (by omega)⟩
theorem yw {U:Nat} {xb:List (Int×Int)} (hb:xb.length≤1000000) {S:List Int} (hn:S.Nodup) {m:List (Int×Int)} (hg:∀ j (h:j < S.length),aK S[j] m=(j:Int)) (hS:∀ q,q∈S↔∃ e∈xb,inE U e∧(q=e.1∨q=e.2)) (hN:S.length≤65536) :
   ∃ r,loop (iL (U:Int) xb) (0,S,some m,some ((S.length:Int),List.replicate S.length none))=some r∧∃ M,r=(S,some m,some ((S.length:Int),M))∧Mx S.length S.length M∧∀ a b,has M a b=true↔∃ e∈xb,inE U e∧S[a]? = some e.1∧S[b]? = some e.2:=by
 refine bf (body:=iL (U:Int) xb) (fun s=>∃ k:Nat,k≤xb.length∧∃ M,s=((k:Int),S,some m,some ((S.length:Int),M))∧Mx S.length S.length M∧∀ a b,has M a b=true↔∃ e∈xb.take k,inE U e∧S[a]? = some e.1∧S[b]? = some e.2) (fun s=>xb.length - s.1.toNat) ?_ ⟨0,Nat.zero_le _,_,rfl,xA hN hN,fun a b=>by rw [wx]; simp⟩
 rintro s ⟨k,hk,M,rfl,hM,hh⟩
 unfold iL
 dsimp only
 by_cases hkl:k < xb.length
 . left
   rw [dlt hkl,cond_true,aD hkl]
   simp only [Option.bind_some,aX hkl (by omega:xb.length≤9223372036854775807),gQ]
   have tk:xb.take (k + 1)=xb.take k++[xb[k]]:=by rw [List.take_succ_eq_append_getElem hkl]
   have no:¬ inE U xb[k]→∀ a b,has M a b=true↔∃ e∈xb.take (k + 1),inE U e∧S[a]? = some e.1∧S[b]? = some e.2:=fun hi a b=>by
     rw [hh,tk]
     constructor
     . rintro ⟨e,e1,e2⟩; exact ⟨e,List.mem_append_left _ e1,e2⟩
     . rintro ⟨e,e1,e2⟩
       rw [List.mem_append,List.mem_singleton] at e1
       rcases e1 with e1 | rfl
       . exact ⟨e,e1,e2⟩
       . exact absurd e2.1 hi
   by_cases h1:0≤xb[k].1∧xb[k].1 < (U:Int)
   . by_cases h2:0≤xb[k].2∧xb[k].2 < (U:Int)
     . rw [decide_eq_true h1,decide_eq_true h2,cond_true,cond_true]
       have m1:xb[k].1∈S:=(hS _).2 ⟨xb[k],List.getElem_mem hkl,⟨h1,h2⟩,.inl rfl⟩
       have m2:xb[k].2∈S:=(hS _).2 ⟨xb[k],List.getElem_mem hkl,⟨h1,h2⟩,.inr rfl⟩
       obtain ⟨i,hi,e1⟩:=List.getElem_of_mem m1
       obtain ⟨j,hj,e2⟩:=List.getElem_of_mem m2
       have g1:aK xb[k].1 m=(i:Int):=by rw [← e1]; exact hg i hi
       have g2:aK xb[k].2 m=(j:Int):=by rw [← e2]; exact hg j hj
       obtain ⟨M',p1,p2,p3⟩:=wM hM (i:Int) (j:Int)
       rw [g1,g2,p1]
       simp only [Option.bind_some]
       refine ⟨_,rfl,⟨k + 1,hkl,M',rfl,p2,fun a b=>?_⟩,by dsimp only; rw [Int.toNat_natCast,Int.toNat_natCast]; omega⟩
       rw [p3,Bool.or_eq_true,hh,decide_eq_true_eq,tk,Int.toNat_natCast,Int.toNat_natCast]
       constructor
       . rintro (⟨e,q1,q2⟩ | ⟨_,rfl,rfl⟩)
         . exact ⟨e,List.mem_append_left _ q1,q2⟩
         . exact ⟨xb[k],List.mem_append_right _ (List.mem_singleton.2 rfl),⟨h1,h2⟩,by rw [List.getElem?_eq_getElem hi,e1],by rw [List.getElem?_eq_getElem hj,e2]⟩
       . rintro ⟨e,q1,q2,q3,q4⟩
         rw [List.mem_append,List.mem_singleton] at q1
         rcases q1 with q1 | rfl
         . exact .inl ⟨e,q1,q2,q3,q4⟩
         . right
           obtain ⟨ha,q3⟩:=List.getElem?_eq_some_iff.1 q3
           obtain ⟨hb',q4⟩:=List.getElem?_eq_some_iff.1 q4
           have r1:i=a:=(List.getElem_inj hn).1 (e1.trans q3.symm)
           have r2:j=b:=(List.getElem_inj hn).1 (e2.trans q4.symm)
           exact ⟨by omega,r1,r2⟩
     . rw [decide_eq_true h1,decide_eq_false h2,cond_true,cond_false]
       exact ⟨_,rfl,⟨k + 1,hkl,M,rfl,hM,no (fun h=>h2 h.2)⟩,by dsimp only; rw [Int.toNat_natCast,Int.toNat_natCast]; omega⟩
   . rw [decide_eq_false h1,cond_false]
     exact ⟨_,rfl,⟨k + 1,hkl,M,rfl,hM,no (fun h=>h1 h.1)⟩,by dsimp only; rw [Int.toNat_natCast,Int.toNat_natCast]; omega⟩
 . right
   rw [dge hkl,cond_false]
   rw [List.take_of_length_le (by omega)] at hh
   exact ⟨_,rfl,M,rfl,hM,hh⟩
theorem px:∀ {S:List Int} {a:Int} {n:Nat},S.Pairwise (· < ·)→(∀ q∈S,a≤q∧q < a + n)→S.length≤n
 | [],a,n,_,_=>Nat.zero_le _
 | x :: S,a,n,hp,hb=>by
   have hx:=hb x (List.mem_cons_self ..)
   cases n with
   | zero=>omega
   | succ n =>
     rw [List.pairwise_cons] at hp
     have:=px (S:=S) (a:=a + 1) (n:=n) hp.2 (fun q hq=>by
       have h1:=hp.1 q hq
       have h2:=hb q (List.mem_cons_of_mem _ hq)
       omega)
     simp only [List.length_cons]; omega
theorem wZ {S:List Int} (h:S.Pairwise (·≤·)) (hn:S.Nodup):S.Pairwise (· < ·):=by
 have:=List.Pairwise.and h hn
 exact this.imp (fun ⟨h1,h2⟩=>by omega)
structure Kr (U:Nat) (xb:List (Int×Int)) (S:List Int) (m:List (Int×Int)) (M:MX):Prop where
 rise:S.Pairwise (· < ·)
 key:∀ q,q∈m.map (·.1)↔q∈S
 place:∀ j (h:j < S.length),aK S[j] m=(j:Int)
 mem:∀ q,q∈S↔∃ e∈xb,inE U e∧(q=e.1∨q=e.2)
 mx:Mx S.length S.length M
 tc:∃ R,(∀ a b,R a b=true↔∃ e∈xb,inE U e∧S[a]? = some e.1∧S[b]? = some e.2)∧∀ a b,has M a b=true↔TC R a b
theorem yo {U:Nat} (hU:U≤65536) {xb:List (Int×Int)} (hb:xb.length≤1000000):∃ S m M,eI (U:Int) xb=some ((U:Int),S,some m,some ((S.length:Int),M))∧Kr U xb S m M:=by
 obtain ⟨_,a1,l,m0,rfl,hn⟩:=yz (U:=U) xb hb
 have hlen:=hn.len
 obtain ⟨S,s1,s2,s3⟩:=xO (L:=l) (by omega)
 have snd:S.Nodup:=s3.nodup_iff.2 hn.nd
 have sm:∀ q,q∈S↔q∈l:=fun q=>s3.mem_iff
 have rise:=wZ s2 snd
 have hS:∀ q,q∈S↔∃ e∈xb,inE U e∧(q=e.1∨q=e.2):=fun q=>(sm q).trans (hn.mem q)
 have hN:S.length≤U:=px (a:=0) rise (fun q hq=>by
   obtain ⟨e,_,⟨⟨e1,e2⟩,e3,e4⟩,rfl | rfl⟩:=(hS q).1 hq <;> omega)
 obtain ⟨_,b1,m,rfl,b2,b3⟩:=yq snd (by omega) (m:=m0) (fun q=>(hn.key q).trans (sm q).symm)
 obtain ⟨_,c1,M,rfl,c2,c3⟩:=yw (U:=U) hb snd b3 hS (by omega)
 obtain ⟨M',d1,d2,d3⟩:=ud c2
 refine ⟨S,m,M',?_,⟨rise,b2,b3,hS,d2,has M,c3,d3⟩⟩
 unfold eI
 have n1:¬ ((U:Int) < 0):=by omega
 have n2:¬ (65536 < (U:Int)):=by omega
 have n3:¬ ((S.length:Int) < 0∨(S.length:Int) < 0):=by omega
 have n4:¬ (65536 < (S.length:Int)∨65536 < (S.length:Int)):=by omega
 rw [decide_eq_false n1,decide_eq_false n2,Bool.or_self,cond_false,a1]
 simp only [Option.bind_some,s1,b1,wl,if_neg n3,if_neg n4,agr,Int.toNat_natCast]
 simp only [Option.bind_some,c1,d1,if_true]
theorem xZ {n:Int} (h:n < 0∨65536 < n) (xb:List (Int×Int)):eI n xb=some (0,[],none,none):=by
 unfold eI
 have:(decide (n < 0)||decide (65536 < n))=true:=by simp; exact h
 rw [this]; rfl
def ldP (S:List Int) (M:MX) (a b:Int):Prop:=∃ i j:Nat,S[i]? = some a∧S[j]? = some b∧has M i j=true
section
variable {U:Nat} {xb:List (Int×Int)} {S:List Int} {m:List (Int×Int)} {M:MX}
theorem Kr.nd (h:Kr U xb S m M):S.Nodup:=h.rise.imp (fun h=>by omega)
theorem Kr.idx (h:Kr U xb S m M) {a:Int} (ha:a∈S):∃ i:Nat,S[i]? = some a∧aK a m=(i:Int):=by
 obtain ⟨i,hi,e⟩:=List.getElem_of_mem ha
 exact ⟨i,by rw [List.getElem?_eq_getElem hi,e],by rw [← e]; exact h.place i hi⟩
theorem Kr.uniq (h:Kr U xb S m M) {a:Int} {i j:Nat} (hi:S[i]? = some a) (hj:S[j]? = some a):i=j:=by
 obtain ⟨h1,e1⟩:=List.getElem?_eq_some_iff.1 hi
 obtain ⟨h2,e2⟩:=List.getElem?_eq_some_iff.1 hj
 exact (List.getElem_inj h.nd).1 (e1.trans e2.symm)
theorem Kr.ld_trans (h:Kr U xb S m M) {a b c:Int} (h1:ldP S M a b) (h2:ldP S M b c):ldP S M a c:=by
 obtain ⟨i,j,a1,a2,a3⟩:=h1
 obtain ⟨j',k,b1,b2,b3⟩:=h2
 obtain rfl:=h.uniq a2 b1
 obtain ⟨R,_,t⟩:=h.tc
 exact ⟨i,k,a1,b2,(t _ _).2 (((t _ _).1 a3).trans ((t _ _).1 b3))⟩
theorem Kr.ld_base (h:Kr U xb S m M) {e:Int×Int} (he:e∈xb) (hi:inE U e):ldP S M e.1 e.2:=by
 obtain ⟨i,i1,_⟩:=h.idx ((h.mem e.1).2 ⟨e,he,hi,.inl rfl⟩)
 obtain ⟨j,j1,_⟩:=h.idx ((h.mem e.2).2 ⟨e,he,hi,.inr rfl⟩)
 obtain ⟨R,r,t⟩:=h.tc
 exact ⟨i,j,i1,j1,(t _ _).2 (.base ((r _ _).2 ⟨e,he,hi,i1,j1⟩))⟩
theorem Kr.ld_f (h:Kr U xb S m M) {f:Nat→Nat→Bool} (hf:Ff U xb f) {a b:Int} (hl:ldP S M a b):f a.toNat b.toNat=true:=by
 obtain ⟨i,j,h1,h2,h3⟩:=hl
 obtain ⟨R,r,t⟩:=h.tc
 have key:=TC.least (T:=fun i j:Nat=>∃ a b:Int,S[i]? = some a∧S[j]? = some b∧f a.toNat b.toNat=true) (R:=R) (fun i j hr=>by
   obtain ⟨e,e1,e2,e3,e4⟩:=(r i j).1 hr
   obtain ⟨⟨p1,p2⟩,p3,p4⟩:=e2
   refine ⟨e.1,e.2,e3,e4,hf.ini (by omega) (by omega) (.inr (.inr ?_))⟩
   rw [Int.toNat_of_nonneg p1,Int.toNat_of_nonneg p3]
   exact e1) (fun i j k hij hjk=>by
   obtain ⟨a,b,q1,q2,q3⟩:=hij
   obtain ⟨b',c,w1,w2,w3⟩:=hjk
   rw [q2] at w1; cases w1
   exact ⟨a,c,q1,w2,hf.cl q3 w3⟩) ((t i j).1 h3)
 obtain ⟨a',b',q1,q2,q3⟩:=key
 rw [h1] at q1; rw [h2] at q2; cases q1; cases q2
 exact q3
theorem Kr.leads_eq (h:Kr U xb S m M) (a b:Int):∃ t,fM a b (U:Int) S (some m) (some ((S.length:Int),M))=some (t,S,some m,some ((S.length:Int),M))∧(t=true↔ldP S M a b):=by
 unfold fM
 simp only [Option.bind_some,mfS]
 by_cases ha:a∈S
 . by_cases hb:b∈S
   . rw [decide_eq_true ((h.key a).2 ha),decide_eq_true ((h.key b).2 hb),Bool.and_self,cond_true]
     obtain ⟨i,i1,i2⟩:=h.idx ha
     obtain ⟨j,j1,j2⟩:=h.idx hb
     rw [i2,j2,wj h.mx]
     simp only [Option.bind_some,Int.toNat_natCast]
     refine ⟨_,rfl,?_⟩
     have e:(decide (0≤(i:Int))&&decide (0≤(j:Int))&&has M i j)=has M i j:=by simp
     rw [e]
     constructor
     . exact fun k=>⟨i,j,i1,j1,k⟩
     . rintro ⟨i',j',k1,k2,k3⟩
       rw [h.uniq i1 k1,h.uniq j1 k2]; exact k3
   . have:¬ b∈m.map (·.1):=fun k=>hb ((h.key b).1 k)
     rw [decide_eq_false this,Bool.and_false,cond_false]
     refine ⟨_,rfl,fun k=>(by cases k),fun ⟨i,j,k1,k2,_⟩=>absurd (List.mem_of_getElem? k2) hb⟩
 . have:¬ a∈m.map (·.1):=fun k=>ha ((h.key a).1 k)
   rw [decide_eq_false this,Bool.false_and,cond_false]
   refine ⟨_,rfl,fun k=>(by cases k),fun ⟨i,j,k1,k2,_⟩=>absurd (List.mem_of_getElem? k1) ha⟩
theorem Kr.all_eq (h:Kr U xb S m M) (a:Int):∃ t,ic a (U:Int) S (some m) (some ((S.length:Int),M))=some (t,S,some m,some ((S.length:Int),M))∧(t=true↔a=0∨ldP S M a 0):=by
 unfold ic
 by_cases h0:a=0
 . rw [decide_eq_true h0,cond_true]; exact ⟨_,rfl,fun _ => .inl h0,fun _=>rfl⟩
 . rw [decide_eq_false h0,cond_false]
   obtain ⟨t,e,k⟩:=h.leads_eq a 0
   rw [e]
   refine ⟨t,rfl,k.trans ⟨.inr,fun g=>g.resolve_left h0⟩⟩
theorem Kr.f_iff (h:Kr U xb S m M) {f:Nat→Nat→Bool} (hf:Ff U xb f) (a b:Int):aG f a b=true↔((0≤a∧a < (U:Int))∧0≤b∧b < (U:Int))∧(a=b∨a=0∨ldP S M a 0∨ldP S M a b):=by
 unfold aG
 simp only [Bool.and_eq_true,decide_eq_true_eq]
 constructor
 . rintro ⟨⟨ha,hb⟩,hab⟩
   obtain ⟨u1,u2⟩:=hf.lt hab
   refine ⟨⟨⟨ha,by omega⟩,hb,by omega⟩,?_⟩
   have key:=hf.least (fun p q=>(p:Int)=(q:Int)∨(p:Int)=0∨ldP S M (p:Int) 0∨ldP S M (p:Int) (q:Int)) (fun p q r g1 g2=>by
     rcases g1 with g1 | g1 | g1 | g1
     . rw [g1]; exact g2
     . exact .inr (.inl g1)
     . exact .inr (.inr (.inl g1))
     . rcases g2 with g2 | g2 | g2 | g2
       . rw [← g2]; exact .inr (.inr (.inr g1))
       . rw [g2] at g1; exact .inr (.inr (.inl g1))
       . exact .inr (.inr (.inl (h.ld_trans g1 g2)))
       . exact .inr (.inr (.inr (h.ld_trans g1 g2)))) (fun p q hp hq g=>by
     rcases g with g | g | g
     . exact .inl (by rw [g])
     . exact .inr (.inl (by rw [g]; rfl))
     . exact .inr (.inr (.inr (h.ld_base g ⟨⟨by omega,by omega⟩,by omega,by omega⟩)))) hab
   rw [Int.toNat_of_nonneg ha,Int.toNat_of_nonneg hb] at key
   exact key
 . rintro ⟨⟨⟨a1,a2⟩,b1,b2⟩,g⟩
   refine ⟨⟨a1,b1⟩,?_⟩
   rcases g with g | g | g | g
   . exact hf.ini (by omega) (by omega) (.inl (by rw [g]))
   . exact hf.ini (by omega) (by omega) (.inr (.inl (by omega)))
   . exact hf.cl (h.ld_f hf g) (hf.ini (by omega) (by omega) (.inr (.inl rfl)))
   . exact h.ld_f hf g
theorem Kr.has_eq (h:Kr U xb S m M) {f:Nat→Nat→Bool} (hf:Ff U xb f) (a b:Int):dJ a b (U:Int) S (some m) (some ((S.length:Int),M))=some (aG f a b,S,some m,some ((S.length:Int),M)):=by
 have hi:=h.f_iff hf a b
 have no:¬ (((0≤a∧a < (U:Int))∧0≤b∧b < (U:Int))∧(a=b∨a=0∨ldP S M a 0∨ldP S M a b))→aG f a b=false:=fun k=>Bool.eq_false_iff.2 (fun e=>k (hi.1 e))
 unfold dJ
 rw [gQ]
 simp only [Option.bind_some]
 by_cases h1:0≤a∧a < (U:Int)
 . rw [decide_eq_true h1,cond_true,gQ]
   simp only [Option.bind_some]
   by_cases h2:0≤b∧b < (U:Int)
   . rw [decide_eq_true h2,cond_true]
     by_cases h3:a=b
     . rw [decide_eq_true h3,cond_true,hi.2 ⟨⟨h1,h2⟩,.inl h3⟩]
     . rw [decide_eq_false h3,cond_false]
       obtain ⟨t,e,k⟩:=h.all_eq a
       rw [e]
       simp only [Option.bind_some]
       cases t with
       | true =>
         have k:=k.1 rfl
         rw [cond_true,hi.2 ⟨⟨h1,h2⟩,.inr (k.imp id .inl)⟩]
       | false =>
         obtain ⟨t2,e2,k2⟩:=h.leads_eq a b
         rw [cond_false,e2]
         simp only [Option.bind_some]
         cases t2 with
         | true=>rw [hi.2 ⟨⟨h1,h2⟩,.inr (.inr (.inr (k2.1 rfl)))⟩]
         | false =>
           rw [no]
           rintro ⟨_,g | g | g | g⟩
           . exact h3 g
           . exact absurd (k.2 (.inl g)) (by simp)
           . exact absurd (k.2 (.inr g)) (by simp)
           . exact absurd (k2.2 g) (by simp)
   . rw [decide_eq_false h2,cond_false,no (fun g=>h2 g.1.2)]
 . rw [decide_eq_false h1,cond_false,no (fun g=>h1 g.1.1)]
end
end
section
section
variable {U:Nat} {S:List Int} {m:Option (List (Int×Int))} {x:Option (Int×MX)} {f:Nat→Nat→Bool}
end
theorem kF (xa xb:List (Int×Int)) (hn:xa.length≤1073741824):eC xa xb=some (decide (xa=xb)):=by
 unfold eC
 by_cases hl:xa.length=xb.length
 . rw [zi hl,cond_false,tS (body:=iv xa xb) xa xb (.inr false) (.inl ()) hl ?_ ?_]
   . by_cases h:xa=xb <;> simp [h]
   . intro k hk
     have h2:k < xb.length:=by omega
     unfold iv
     simp only [dlt hk,cond_true,aD hk,aD h2,Option.bind_some,aX hk (by omega:xa.length≤9223372036854775807)]
     generalize xa[k]=a
     generalize xb[k]=b
     obtain ⟨a1,a2⟩:=a
     obtain ⟨b1,b2⟩:=b
     by_cases q:a1=b1 <;> by_cases q2:a2=b2 <;> simp [q,q2]
   . simp [iv]
 . rw [yf hl,cond_true]
   have:¬ xa=xb:=fun h=>hl (by rw [h])
   simp [this]
theorem qC {U:Nat} {M:List (List Int)} (h:Rl U M) (l:List (Int×Int)) (hl:l.length≤1000000000):iP M l=some (l.all fun e=>aG (f31 M) e.1 e.2):=by
 unfold iP
 rw [uG (body:=iy M l) l (fun e=>!aG (f31 M) e.1 e.2) (.inr false) (.inl ()) ?_ ?_]
 . rw [List.any_eq_not_all_not]
   simp only [Bool.not_not]
   cases l.all fun e=>aG (f31 M) e.1 e.2 <;> rfl
 . intro k hk
   unfold iy
   simp only [dlt hk,cond_true,aD hk,Option.bind_some,w7 h,aX hk (by omega:l.length≤9223372036854775807)]
   cases aG (f31 M) l[k].1 l[k].2 <;> rfl
 . unfold iy
   rw [dge (by omega),cond_false]
end
section
abbrev Pr:=Int×Int
def ltP (x y:Pr):Prop:=x.1 < y.1∨(x.1=y.1∧x.2 < y.2)
instance (x y:Pr):Decidable (ltP x y):=by unfold ltP; infer_instance
theorem cQ (x:Pr):¬ ltP x x:=by unfold ltP; omega
theorem gO {x y z:Pr} (h:ltP x y) (k:ltP y z):ltP x z:=by unfold ltP at *; omega
theorem gz (x y:Pr):ltP x y∨x=y∨ltP y x:=by
 obtain ⟨a,b⟩:=x; obtain ⟨c,d⟩:=y
 unfold ltP; simp only [Prod.mk.injEq]; omega
theorem xI {x y z:Pr} (h:¬ ltP x y) (k:ltP x z):ltP y z:=by
 rcases gz x y with g | rfl | g
 . exact absurd g h
 . exact k
 . exact gO g k
theorem qn:∀ {xs ys:List Pr},xs.Pairwise ltP→ys.Pairwise ltP→(∀ a,a∈xs↔a∈ys)→xs=ys
 | [],[],_,_,_=>rfl
 | [],y :: ys,_,_,h=>by have:=(h y).2 (by simp); simp at this
 | x :: xs,[],_,_,h=>by have:=(h x).1 (by simp); simp at this
 | x :: xs,y :: ys,hx,hy,h=>by
   obtain ⟨hx1,hx2⟩:=List.pairwise_cons.1 hx
   obtain ⟨hy1,hy2⟩:=List.pairwise_cons.1 hy
   have e:x=y:=by
     have h1:=(h x).1 (by simp)
     have h2:=(h y).2 (by simp)
     rcases List.mem_cons.1 h1 with h1 | h1
     . exact h1
     . rcases List.mem_cons.1 h2 with h2 | h2
       . exact h2.symm
       . exact absurd (gO (hy1 x h1) (hx1 y h2)) (cQ _)
   subst e
   rw [qn hx2 hy2 (fun a=>?_)]
   constructor
   . intro ha
     rcases List.mem_cons.1 ((h a).1 (by simp [ha])) with e | e
     . subst e; exact absurd (hx1 a ha) (cQ _)
     . exact e
   . intro ha
     rcases List.mem_cons.1 ((h a).2 (by simp [ha])) with e | e
     . subst e; exact absurd (hy1 a ha) (cQ _)
     . exact e
theorem rD {zs:List Pr} (hs:zs.Pairwise (fun x y=>¬ ltP y x)):∀ m,m≤zs.length→(Lib.compactUpTo zs.toArray m).Pairwise ltP∧∀ a,a∈Lib.compactUpTo zs.toArray m↔a∈zs.take m
 | 0,_=>by simp [Lib.compactUpTo]
 | m + 1,h=>by
   obtain ⟨h1,h2⟩:=rD hs m (by omega)
   have hm:m < zs.length:=by omega
   have e:zs.toArray[m]! = zs[m]:=by simp [getElem!_pos,hm]
   rw [Lib.compactUpTo_succ,e]
   have htk:zs.take (m + 1)=zs.take m++[zs[m]]:=List.take_succ_eq_append_getElem hm
   have hle:∀ a∈zs.take m,¬ ltP zs[m] a:=by
     intro a ha
     have:=hs.sublist (List.take_sublist (m + 1) zs)
     rw [htk] at this
     exact (List.pairwise_append.1 this).2.2 a ha _ (by simp)
   rw [htk]
   cases hk:Lib.keeps zs.toArray m with
   | false =>
     simp only [Bool.false_eq_true,if_false,List.append_nil]
     refine ⟨h1,fun a=>?_⟩
     rw [h2,List.mem_append]
     have hm0:m≠0:=by rintro rfl; simp [Lib.keeps] at hk
     have he:zs.toArray[m]! = zs.toArray[m - 1]!:=by
       simp [Lib.keeps,hm0] at hk; simpa using hk
     have hp:m - 1 < zs.length:=by omega
     have e2:zs.toArray[m - 1]! = zs[m - 1]:=by simp [getElem!_pos,hp]
     rw [e,e2] at he
     constructor
     . exact .inl
     . rintro (h | h)
       . exact h
       . simp at h; rw [h,he]
         exact List.mem_take_iff_getElem.2 ⟨m - 1,by omega,rfl⟩
   | true =>
     simp only [if_true]
     refine ⟨List.pairwise_append.2 ⟨h1,by simp,fun a ha b hb=>?_⟩,fun a=>by rw [List.mem_append,List.mem_append,h2]⟩
     simp only [List.mem_singleton] at hb; subst hb
     have ha':=(h2 a).1 ha
     rcases gz a zs[m] with h | h | h
     . exact h
     . exfalso
       obtain ⟨j,hj,rfl⟩:=List.mem_take_iff_getElem.1 ha'
       have hm0:m≠0:=by omega
       have hp:m - 1 < zs.length:=by omega
       have e2:zs.toArray[m - 1]! = zs[m - 1]:=by simp [getElem!_pos,hp]
       have hne:zs[m]≠zs[m - 1]:=by
         intro q
         simp only [Lib.keeps,e,e2] at hk
         simp [hm0,q] at hk
       have a2:¬ ltP zs[m] zs[m - 1]:=List.pairwise_iff_getElem.1 hs (m - 1) m _ _ (by omega)
       have a1:¬ ltP zs[m - 1] zs[j]:=by
         rcases Nat.lt_or_ge j (m - 1) with q | q
         . exact List.pairwise_iff_getElem.1 hs j (m - 1) _ _ q
         . have:j=m - 1:=by omega
           subst this; exact cQ _
       rw [h] at a1
       rcases gz zs[m] zs[m - 1] with g | g | g
       . exact a2 g
       . exact hne g
       . exact a1 g
     . exact absurd h (hle a ha')
theorem vX {zs:List Pr} (hs:zs.Pairwise (fun x y=>¬ ltP y x)):(Lib.compact zs).Pairwise ltP∧∀ a,a∈Lib.compact zs↔a∈zs:=by
 have:=rD hs zs.length (Nat.le_refl _)
 rw [List.take_length] at this
 exact this
theorem xN (x y:Pr):ltOf bI x y=true↔ltP x y:=by
 rw [ltB]; unfold ltP; simp
theorem tB (xs:List Pr):(bJ xs).Pairwise (fun x y=>¬ ltP y x)∧∀ a,a∈bJ xs↔a∈xs:=by
 have hl:∀ x y:Pr,(!(ltOf bI) y x)=true↔¬ ltP y x:=fun x y=>by
   rw [Bool.not_eq_true',← Bool.not_eq_true,xN]
 refine ⟨?_,fun a=>(List.mergeSort_perm xs _).mem_iff⟩
 have:=List.pairwise_mergeSort (le:=fun x y:Pr=>!(ltOf bI) y x) (fun a b c h1 h2=>by
   rw [hl] at h1 h2 ⊢
   exact fun h=>h1 (xI h2 h)) (fun a b=>by
   rw [Bool.or_eq_true,hl,hl]
   rcases gz a b with g | rfl | g
   . exact .inl fun h=>cQ _ (gO g h)
   . exact .inl (cQ _)
   . exact .inr fun h=>cQ _ (gO g h)) xs
 exact this.imp (fun {a b} h=>(hl a b).1 h)
structure Tdy (l T:List Pr):Prop where
 st:T.Pairwise ltP
 mem:∀ a,a∈T↔a∈l
 len:T.length≤l.length
theorem Tdy.eq {l T T':List Pr} (h:Tdy l T) (h':Tdy l T'):T=T':=qn h.st h'.st fun a=>(h.mem a).trans (h'.mem a).symm
theorem q8 (xa:List Pr) (hn:xa.length≤1073741824):fL xa=some xa:=by
 unfold fL
 cases xa with
 | nil=>unfold dG; simp [app,ke,agr]
 | cons x xs=>simp [dG,app,hn] <;> simpa using hn
theorem qF (l:List Pr) (hn:l.length≤1000000):∃ T,f9 l=some T∧Tdy l T:=by
 have h1:=tB l
 have hl:(bJ l).length=l.length:=List.length_mergeSort l
 have h2:=vX h1.1
 refine ⟨Lib.compact (bJ l),?_,h2.1,fun a=>(h2.2 a).trans (h1.2 a),Nat.le_trans (Lib.compact_length_le _) (by omega)⟩
 unfold f9
 rw [q8 l (by omega),Option.bind_some]
 unfold sortB
 rw [if_pos (by omega),Option.bind_some]
 unfold gW
 rw [if_pos (by omega),Option.bind_some]
def ahB (e x:Pr):Bool:=decide (e.1 < x.1)||(decide (e.1=x.1)&&decide (e.2 < x.2))
theorem qA (e x:Pr):ahB e x=true↔ltP e x:=by unfold ahB ltP; simp
structure Td (L:List Pr) (x:Pr) (k:Nat) (N:List Pr) (p:Bool):Prop where
 st:N.Pairwise ltP
 mem:∀ a,a∈N↔a∈L.take k∨(p=true∧a=x)
 no:p=false→∀ a∈L.take k,ltP a x
 yes:p=true→∃ a∈L.take k,¬ ltP a x
 len:N.length≤k + p.toNat
theorem Td.put {L:List Pr} {x:Pr} {k:Nat} {N:List Pr} (h:Td L x k N false):N.Pairwise ltP∧(N++[x]).Pairwise ltP∧(∀ a,a∈N++[x]↔a∈L.take k∨a=x)∧N.length≤k:=by
 refine ⟨h.st,List.pairwise_append.2 ⟨h.st,by simp,fun a ha b hb=>?_⟩,fun a=>by rw [List.mem_append,List.mem_singleton,h.mem]; simp,?_⟩
 . rw [List.mem_singleton] at hb; subst hb
   rcases (h.mem a).1 ha with g | ⟨g,_⟩
   . exact h.no rfl a g
   . cases g
 . exact h.len
theorem wW {xs L:List Pr} {i:Nat} (hi:i < xs.length) (hL:L.Pairwise ltP) (hn:L.length≤1000000) :
   ∃ r,loop (ix xs L (i:Int)) ([],false,0)=some r∧Td L xs[i] L.length r.1 r.2:=by
 refine bf (body:=ix xs L (i:Int)) (fun s=>∃ k:Nat,s.2.2=(k:Int)∧k≤L.length∧Td L xs[i] k s.1 s.2.1) (fun s=>L.length - s.2.2.toNat) ?_ ⟨0,rfl,Nat.zero_le _,by constructor <;> simp⟩
 rintro ⟨N,p,k'⟩ ⟨k,rfl,hk,h⟩
 dsimp only at h ⊢
 generalize hx:xs[i]=x at *
 unfold ix
 dsimp only
 by_cases hc:k < L.length
 . left
   have htk:=gm hc
   generalize he:L[k]=e at *
   have hlt:∀ a∈L.take k,ltP a e:=by
     intro a ha
     have:=hL.sublist (List.take_sublist (k + 1) L)
     rw [htk] at this
     exact (List.pairwise_append.1 this).2.2 a ha _ (by simp)
   have dn:L.length - (((k + 1:Nat):Int)).toNat < L.length - ((k:Int)).toNat:=by omega
   -- what stands ahead of e, x put or not
   have go : ∀ N' p', N'.Pairwise ltP → (∀ a, a ∈ N' ↔ a ∈ L.take k ∨ (p' = true ∧ a = x)) → (p' = false → ltP e x ∧ ∀ a ∈ L.take k, ltP a x) → (p' = true → ¬ ltP e x) → N'.length ≤ k + p'.toNat →
       ∃ s',(cond (!((decide (e.1=x.1))&&((decide (e.2=x.2))))) ((ae L (k:Int)).bind fun x43358=>(app N' (([(x43358.1,x43358.2)]:List (Int×Int)))).bind fun z43368=>some (.inl ((z43368,p',IntKind.wrap .i64 ((k:Int) + 1))))) (some (.inl ((N',p',IntKind.wrap .i64 ((k:Int) + 1))))):Option ((List Pr×Bool×Int)⊕(List Pr×Bool)))=some (.inl s')∧(∃ k:Nat,s'.2.2=(k:Int)∧k≤L.length∧Td L x k s'.1 s'.2.1)∧L.length - s'.2.2.toNat < L.length - ((k:Int)).toNat:=by
     intro N' p' n1 n2 n3 n4 n5
     have n6:p'.toNat≤1:=by cases p' <;> decide
     rw [aD hc,he,aX hc (by omega)]
     by_cases ex:e=x
     . subst ex
       have hp:p'=true:=by
         cases p'
         . exact absurd (n3 rfl).1 (cQ _)
         . rfl
       subst hp
       refine ⟨(N',true,((k + 1:Nat):Int)),by simp,⟨k + 1,rfl,hc,?_⟩,dn⟩
       refine ⟨n1,fun a=>?_,fun g=>(by cases g),fun _=>⟨e,by rw [htk]; simp,cQ _⟩,by dsimp only at n5 ⊢; omega⟩
       rw [n2,htk]; simp
     . have ce:((decide (e.1=x.1))&&((decide (e.2=x.2))))=false:=by
         rw [← Bool.not_eq_true]; simp only [Bool.and_eq_true,decide_eq_true_eq]
         exact fun g=>ex (Prod.ext g.1 g.2)
       rw [ce,Bool.not_false,cond_true]
       simp only [Option.bind_some]
       rw [bN (by simp; omega),Option.bind_some]
       have pw:(N'++[(e.1,e.2)]).Pairwise ltP:=by
         refine List.pairwise_append.2 ⟨n1,by simp,fun a ha b hb=>?_⟩
         rw [List.mem_singleton] at hb; subst hb
         rcases (n2 a).1 ha with g | ⟨g,rfl⟩
         . exact hlt a g
         . rcases gz a e with q | q | q
           . exact q
           . exact absurd q.symm ex
           . exact absurd q (n4 g)
       refine ⟨(N'++[(e.1,e.2)],p',((k + 1:Nat):Int)),rfl,⟨k + 1,rfl,hc,pw,fun a=>?_,fun g a ha=>?_,fun g=>⟨e,by rw [htk]; simp,n4 g⟩,?_⟩,dn⟩
       . dsimp only
         rw [List.mem_append,n2,htk,List.mem_append,List.mem_singleton]
         constructor
         . rintro ((q | q) | q)
           . exact .inl (.inl q)
           . exact .inr q
           . exact .inl (.inr q)
         . rintro ((q | q) | q)
           . exact .inl (.inl q)
           . exact .inr q
           . exact .inl (.inr q)
       . rw [htk,List.mem_append,List.mem_singleton] at ha
         rcases ha with q | rfl
         . exact (n3 g).2 a q
         . exact (n3 g).1
       . dsimp only; rw [List.length_append,List.length_singleton]; omega
   rw [dlt hc,cond_true,aD hc,aD hi,hx,he]
   simp only [Option.bind_some]
   cases p with
   | false =>
     obtain ⟨a1,a2,a3,a4⟩:=h.put
     simp only [Bool.not_false,cond_true,dK,Option.bind_some]
     by_cases hb:ltP e x
     . have:(decide (e.1 < x.1)||(decide (e.1=x.1)&&decide (e.2 < x.2)))=true:=(qA e x).2 hb
       rw [this]
       simp only [Bool.not_true,cond_false,Option.bind_some]
       have:=go N false a1 (fun a=>by rw [h.mem]) (fun _=>⟨hb,h.no rfl⟩) (fun g=>by cases g) a4
       rw [aD hc,he] at this
       exact this
     . have:(decide (e.1 < x.1)||(decide (e.1=x.1)&&decide (e.2 < x.2)))=false:=by rw [← Bool.not_eq_true]; exact fun g=>hb ((qA e x).1 g)
       rw [this]
       simp only [Bool.not_false,cond_true,Option.bind_some]
       rw [bN (by simp; omega),Option.bind_some]
       simp only [Option.bind_some]
       have:=go (N++[(x.1,x.2)]) true a2 (fun a=>by rw [show (x.1,x.2)=x from rfl,a3]; simp) (fun g=>by cases g) (fun _=>hb) (by simp; omega)
       rw [aD hc,he] at this
       exact this
   | true =>
     simp only [Bool.not_true,cond_false,Option.bind_some]
     obtain ⟨a,ha,hax⟩:=h.yes rfl
     have:=go N true h.st h.mem (fun g=>by cases g) (fun _ g=>hax (gO (hlt a ha) g)) h.len
     rw [aD hc,he] at this
     exact this
 . right
   obtain rfl:k=L.length:=by omega
   rw [dge hc,cond_false]
   exact ⟨_,rfl,h⟩
theorem pA (l:List Pr) (hn:l.length≤1000000):∃ T,ge l=some T∧Tdy l T:=by
 unfold ge
 have key:=bf (body:=kA l) (fun s=>∃ k:Nat,s.2=(k:Int)∧k≤l.length∧Tdy (l.take k) s.1) (fun s=>l.length - s.2.toNat) (Q:=fun T=>Tdy l T) ?_ (s:=([],0)) ⟨0,rfl,Nat.zero_le _,by simp,by simp,by simp⟩
 . obtain ⟨T,e,h⟩:=key
   exact ⟨T,by rw [e]; rfl,h⟩
 . rintro ⟨L,k'⟩ ⟨k,rfl,hk,h⟩
   dsimp only at h ⊢
   unfold kA
   dsimp only
   by_cases hc:k < l.length
   . left
     have hll:=h.len
     rw [List.length_take] at hll
     obtain ⟨⟨N,p⟩,e,t⟩:=wW (L:=L) hc h.st (by omega)
     rw [dlt hc,cond_true,e]
     simp only [Option.bind_some,aX hc (by omega:l.length≤9223372036854775807)]
     have dn:l.length - (((k + 1:Nat):Int)).toNat < l.length - ((k:Int)).toNat:=by omega
     have htk:=gm hc
     have tl:=t.len
     cases p with
     | false =>
       obtain ⟨a1,a2,a3,a4⟩:=t.put
       dsimp only at a1 a2 a3 a4
       rw [Bool.not_false,cond_true,aD hc]
       simp only [Option.bind_some]
       rw [bN (by simp; omega),Option.bind_some]
       refine ⟨_,rfl,⟨k + 1,rfl,hc,a2,fun a=>?_,?_⟩,dn⟩
       . dsimp only
         rw [show (l[k].1,l[k].2)=l[k] from rfl,a3,List.take_length,h.mem,htk,List.mem_append,List.mem_singleton]
       . dsimp only; rw [List.length_append,List.length_take,List.length_singleton]; omega
     | true =>
       rw [Bool.not_true,cond_false]
       refine ⟨_,rfl,⟨k + 1,rfl,hc,t.st,fun a=>?_,?_⟩,dn⟩
       . have:=t.mem a
         dsimp only at this ⊢
         rw [this,List.take_length,h.mem,htk,List.mem_append,List.mem_singleton]; simp
       . have:true.toNat=1:=rfl
         dsimp only at tl ⊢; rw [List.length_take]; omega
   . right
     obtain rfl:k=l.length:=by omega
     rw [dge hc,cond_false]
     rw [List.take_length] at h
     exact ⟨_,rfl,h⟩
end
def dD (n:Int) (D:List Pr):List (List Int):=(de n D).getD []
def kn (n:Int) (D:List Pr) (e:Pr):Bool:=aG (f31 (dD n D)) e.1 e.2
theorem rA:f31 []=fun _ _=>false:=by funext a b; unfold f31 at2; simp
theorem mg {n:Int} (h:n < 0∨65536 < n) (D:List Pr) (e:Pr):kn n D e=false:=by
 unfold kn dD
 rw [pV h,Option.getD_some,rA]
 unfold aG; rw [Bool.and_false]
theorem fv {U:Nat} (hU:U≤65536) {D:List Pr} (hD:D.length≤1000000):de (U:Int) D=some (dD U D)∧Rl U (dD U D)∧Ff U D (f31 (dD U D)):=by
 obtain ⟨M,e,h,hf⟩:=yb hU D hD
 have:dD U D=M:=by unfold dD; rw [e]; rfl
 rw [this]; exact ⟨e,h,hf⟩
theorem dom (n:Int):(n < 0∨65536 < n)∨∃ U:Nat,n=(U:Int)∧U≤65536:=by
 by_cases h:n < 0∨65536 < n
 . exact .inl h
 . exact .inr ⟨n.toNat,by omega,by omega⟩
theorem mq {n:Int} {D D':List Pr} (hD:D.length≤1000000) (hD':D'.length≤1000000) (hs:∀ e∈D,e∈D') {e:Pr} (h:kn n D e=true):kn n D' e=true:=by
 rcases dom n with g | ⟨U,rfl,hU⟩
 . rw [mg g] at h; cases h
 . obtain ⟨_,_,hf⟩:=fv hU hD
   obtain ⟨_,_,hf'⟩:=fv hU hD'
   unfold kn aG at h ⊢
   simp only [Bool.and_eq_true,decide_eq_true_eq] at h ⊢
   refine ⟨h.1,hf.least (fun p q=>f31 (dD U D') p q=true) (fun p q r h1 h2=>hf'.cl h1 h2) (fun a b ha hb hi=>hf'.ini ha hb ?_) h.2⟩
   rcases hi with hi | hi | hi
   . exact .inl hi
   . exact .inr (.inl hi)
   . exact .inr (.inr (hs _ hi))
theorem vM {n:Int} {D D':List Pr} (hD:D.length≤1000000) (hD':D'.length≤1000000) (hs:∀ e,e∈D↔e∈D') (e:Pr):kn n D e=kn n D' e:=by
 rw [Bool.eq_iff_iff]
 exact ⟨mq hD hD' fun e h=>(hs e).1 h,mq hD' hD fun e h=>(hs e).2 h⟩
theorem rP {U:Nat} {S:List Int} {m:Option (List (Int×Int))} {x:Option (Int×MX)} {f:Nat→Nat→Bool} (hh:∀ a b:Int,dJ a b (U:Int) S m x=some (aG f a b,S,m,x)) (l:List (Int×Int)) (hl:l.length≤1000000000):io l (U:Int) S m x=some (l.all fun e=>aG f e.1 e.2,S,m,x):=by
 unfold io ko kr
 have key:=bf (body:=kp l (U:Int)) (fun s=>∃ k:Nat,k≤l.length∧s=((k:Int),S,m,x)∧∀ e∈l.take k,aG f e.1 e.2=true) (fun s=>l.length - s.1.toNat)
   (Q:=fun r=>(r = .inl (S,m,x)∧(l.all fun e=>aG f e.1 e.2)=true)∨∃ k:Nat,r = .inr ((k:Int),S,m,x)∧(l.all fun e=>aG f e.1 e.2)=false) ?_ (s:=(0,S,m,x)) ⟨0,Nat.zero_le _,rfl,by simp⟩
 . obtain ⟨r,e,h1⟩:=key
   rw [e]
   rcases h1 with ⟨rfl,h1⟩ | ⟨k,rfl,h1⟩
   . rw [h1]; rfl
   . rw [h1]
     simp only [Option.bind_some]
     have:decide (0≤(k:Int))=true:=by simp
     rw [this]; rfl
 . rintro s ⟨k,hk,rfl,hs⟩
   unfold kp
   dsimp only
   by_cases hkl:k < l.length
   . rw [dlt hkl,cond_true,aD hkl]
     simp only [Option.bind_some]
     unfold ku
     rw [hh]
     simp only [Option.bind_some,aX hkl (by omega:l.length≤9223372036854775807)]
     cases hc:aG f l[k].1 l[k].2 with
     | true =>
       left
       refine ⟨_,rfl,⟨k + 1,hkl,rfl,fun e he=>?_⟩,by dsimp only; rw [Int.toNat_natCast,Int.toNat_natCast]; omega⟩
       rw [gm hkl,List.mem_append,List.mem_singleton] at he
       rcases he with he | rfl
       . exact hs e he
       . exact hc
     | false =>
       right
       refine ⟨_,rfl,.inr ⟨k,rfl,?_⟩⟩
       rw [List.all_eq_false]
       exact ⟨l[k],List.getElem_mem hkl,by rw [hc]; simp⟩
   . right
     rw [dge hkl,cond_false]
     rw [List.take_of_length_le (by omega)] at hs
     exact ⟨_,rfl,.inl ⟨rfl,List.all_eq_true.2 hs⟩⟩
theorem xn (a b:Int):dJ a b ((0:Nat):Int) [] none none=some (aG (fun _ _=>false) a b,[],none,none):=by
 have r:cg a ((0:Nat):Int) [] none none=some (false,[],none,none):=by
   rw [gQ]
   have:¬ (0≤a∧a < ((0:Nat):Int)):=by omega
   rw [decide_eq_false this]
 have h0:aG (fun _ _=>false) a b=false:=by unfold aG; rw [Bool.and_false]
 unfold dJ
 rw [r,h0]; rfl
theorem wC {n:Int} (h0:0≤n) (h1:n≤1000000000):ib n=some []:=by
 unfold ib
 have e0:IntKind.wrap .i64 ((0:Int) - 0)=0:=by rw [w64 (by omega) (by omega)]; rfl
 have e1:IntKind.wrap .i64 (n - 0)=n:=by rw [w64 (by omega) (by omega)]; omega
 rw [e0,e1,decide_eq_false (show ¬ n < 0 by omega),cond_false,Option.bind_some]
 by_cases h:0 < n
 . rw [decide_eq_true h,cond_true]
   unfold mk
   simp only [subL,List.length_nil]
   rw [if_pos ⟨by omega,by omega,by omega⟩,Option.bind_some,if_pos ⟨by omega,by omega,by omega⟩,Option.bind_some,bN (by simp; omega),Option.bind_some,if_pos ⟨by omega,by omega,by omega⟩]
   simp
 . rw [decide_eq_false h,cond_false]
theorem kT {B C:List Pr} (h:B.length + C.length≤1000000):ej [B,C]=some (B++C):=by
 unfold ej
 have w1:IntKind.wrap .i64 ((0:Int) + ((B.length:Nat):Int))=(B.length:Int):=by rw [w64 (by omega) (by omega)]; omega
 have w2:IntKind.wrap .i64 (((B.length:Nat):Int) + ((C.length:Nat):Int))=((B.length + C.length:Nat):Int):=by rw [w64 (by omega) (by omega)]; omega
 have a1:IntKind.wrap .i64 ((0:Int) + 1)=1:=by decide
 have a2:IntKind.wrap .i64 ((1:Int) + 1)=2:=by decide
 have g0:ae [B,C] (0:Int)=some B:=rfl
 have g1:ae [B,C] (1:Int)=some C:=rfl
 have c1:¬ ((B.length:Nat):Int) < 0:=by omega
 have c2:¬ ((B.length + C.length:Nat):Int) < 0:=by omega
 have l1:loop (hZ [B,C]) (0,0)=some ((B.length + C.length:Nat):Int):=by
   rw [cj (s':=(((B.length:Nat):Int),1)),cj (s':=(((B.length + C.length:Nat):Int),2)),ca]
   . rfl
   . unfold hZ
     dsimp only
     rw [show decide ((1:Int) < (([B,C].length:Nat):Int))=true from rfl,cond_true,g1,Option.bind_some,w2,a2,decide_eq_false c2]; rfl
   . unfold hZ
     dsimp only
     rw [show decide ((0:Int) < (([B,C].length:Nat):Int))=true from rfl,cond_true,g0,Option.bind_some,w1,a1,decide_eq_false c1]; rfl
 have l2:loop (ia [B,C]) ([],0)=some (B++C):=by
   rw [cj (s':=(B,1)),cj (s':=(B++C,2)),ca]
   . rfl
   . unfold ia
     dsimp only
     rw [show decide ((1:Int) < (([B,C].length:Nat):Int))=true from rfl,cond_true,g1,Option.bind_some,bN (by omega),a2]; rfl
   . unfold ia
     dsimp only
     rw [show decide ((0:Int) < (([B,C].length:Nat):Int))=true from rfl,cond_true,g0,Option.bind_some,bN (by simp; omega),a1]; rfl
 rw [l1,Option.bind_some,wC (by omega) (by omega),Option.bind_some,l2]; rfl
theorem lU (n:Int) {B C L:List Pr} (h:B.length + C.length≤1000000) (hL:L.length≤1000000000):eD n B C L=some (L.all (kn n (B++C))):=by
 unfold eD
 rw [kT h,Option.bind_some]
 have hl:(B++C).length≤1000000:=by rw [List.length_append]; omega
 rcases dom n with g | ⟨U,rfl,hU⟩
 . rw [xZ g,Option.bind_some]
   have:=rP (U:=0) xn L hL
   dsimp only
   rw [show ((0:Nat):Int)=0 from rfl] at this
   rw [this,Option.bind_some]
   have e:(fun e:Pr=>aG (fun _ _=>false) e.1 e.2)=kn n (B++C):=by
     funext e; rw [mg g]; unfold aG; rw [Bool.and_false]
   rw [e]
 . obtain ⟨_,_,hf⟩:=fv hU hl
   obtain ⟨S,m,M,e,h⟩:=yo hU hl
   rw [e,Option.bind_some]
   dsimp only
   rw [rP (h.has_eq hf) L hL,Option.bind_some]; rfl
theorem qw (n:Int) {B C L:List Pr} (h:B.length + C.length≤1000000) (hL:L.length≤1000000000):fZ n B C L=some (L.all (kn n (B++C))):=by
 unfold fZ
 rw [bN (by simp; omega),Option.bind_some,List.nil_append,bN (by omega),Option.bind_some]
 have hl:(B++C).length≤1000000:=by rw [List.length_append]; omega
 rcases dom n with g | ⟨U,rfl,hU⟩
 . rw [pV g,Option.bind_some,qC ⟨rfl,fun a h=>absurd h (Nat.not_lt_zero _),fun a b => .inl (by unfold at2; simp)⟩ L hL,Option.bind_some]
   have e:(fun e:Pr=>aG (f31 []) e.1 e.2)=kn n (B++C):=by
     funext e; rw [mg g,rA]; unfold aG; rw [Bool.and_false]
   rw [e]
 . obtain ⟨e,hr,hf⟩:=fv hU hl
   rw [e,Option.bind_some,qC hr L hL,Option.bind_some]; rfl
def gr (K:List Pr→Pr→Bool):List Pr→List Pr→List Pr
 | [],kept=>kept
 | x :: rp,kept=>bif K (rp.reverse++kept) x then gr K rp kept else gr K rp (x :: kept)
theorem gA (K:List Pr→Pr→Bool) (x:Pr) (rp kept:List Pr):gr K (x :: rp) kept=bif K (rp.reverse++kept) x then gr K rp kept else gr K rp (x :: kept):=rfl
theorem gH (K:List Pr→Pr→Bool):∀ rp kept,(gr K rp kept).length≤rp.length + kept.length
 | [],kept=>by simp [gr]
 | x :: rp,kept=>by
   unfold gr
   cases K (rp.reverse++kept) x with
   | true=>have:=gH K rp kept; rw [cond_true,List.length_cons]; omega
   | false=>have:=gH K rp (x :: kept); rw [cond_false]; rw [List.length_cons] at this ⊢; omega
theorem lV (K:List Pr→Pr→Bool) (b:List Pr):∀ a kept,gr K (a++b) kept=gr K b (gr (fun S x=>K (b.reverse++S) x) a kept)
 | [],kept=>rfl
 | x :: a,kept=>by
   rw [List.cons_append,gA,gA,List.reverse_append,List.append_assoc,lV K b a kept,lV K b a (x :: kept)]
   cases K (b.reverse++(a.reverse++kept)) x <;> rfl
theorem lH {K K':List Pr→Pr→Bool} {late:List Pr}:∀ (b kept:List Pr),(∀ S x,S.length≤b.length + kept.length→K (S++late) x=K' S x)→gr K b (kept++late)=gr K' b kept++late
 | [],kept,_=>rfl
 | x :: b,kept,h=>by
   rw [gA,gA,← List.append_assoc,h _ _ (by simp),lH b kept (fun S y hS=>h S y (by rw [List.length_cons]; omega)),show x :: (kept++late)=(x :: kept)++late from rfl,lH b (x :: kept) (fun S y hS=>h S y (by rw [List.length_cons] at hS ⊢; omega))]
   cases K' (b.reverse++kept) x <;> rfl
theorem qv {K:List Pr→Pr→Bool}:∀ (b kept:List Pr),(∀ x∈b,∀ S,S.length≤b.length + kept.length→K S x=true)→gr K b kept=kept
 | [],kept,_=>rfl
 | x :: b,kept,h=>by
   rw [gA,h x List.mem_cons_self _ (by simp),cond_true]
   exact qv b kept fun y hy S hS=>h y (List.mem_cons_of_mem _ hy) S (by rw [List.length_cons]; omega)
theorem lG (n:Int):∀ (k:Nat) (D row:List Pr),row.length≤k→D.length + row.length≤1000000→iz (k + 1) n D row=some (gr (fun S x=>kn n (D++S) x) row.reverse [])
 | k, D, row, hk, hl => by
   show iJ (iz k) n D row=_
   unfold iJ
   rw [lU n (by simp; omega) (by omega),Option.bind_some,List.append_nil]
   by_cases hc:row.all (kn n D)=true
   . rw [hc,cond_true,qv]
     intro x hx S hS
     rw [List.length_reverse,List.length_nil] at hS
     exact mq (by omega) (by rw [List.length_append]; omega) (fun e he=>List.mem_append_left _ he) (List.all_eq_true.1 hc x (List.mem_reverse.1 hx))
   . rw [Bool.eq_false_iff.2 hc,cond_false]
     by_cases h1:row.length=1
     . rw [decide_eq_true (by omega),cond_true]
       obtain ⟨x,rfl⟩:=List.length_eq_one_iff.1 h1
       rw [q8 _ (by simp),Option.bind_some]
       have hx:kn n D x=false:=by simpa using hc
       simp [gr,hx]
     . rw [decide_eq_false (by omega),cond_false]
       have h0:row.length≠0:=by
         intro h; rw [List.length_eq_zero_iff] at h; subst h; exact hc rfl
       cases k with
       | zero=>omega
       | succ k =>
       obtain ⟨m,hm⟩:∃ m,m=row.length / 2:=⟨_,rfl⟩
       have ht:IntKind.wrap .i64 (Int.tdiv (((row.length:Nat):Int)) 2)=(m:Int):=by
         have:Int.tdiv (((row.length:Nat):Int)) 2=(m:Int):=by rw [hm]; rfl
         rw [this,w64 (by omega) (by omega)]
       rw [ht,qf (by omega) (by omega) (by omega),Option.bind_some,qf (by omega) (by omega) (by omega),Option.bind_some]
       have e1:(row.take ((m:Int)).toNat).drop ((0:Int)).toNat=row.take m:=by simp
       have e2:(row.take ((((row.length:Nat):Int))).toNat).drop ((m:Int)).toNat=row.drop m:=by simp
       rw [e1,e2]
       have l1:(row.take m).length=m:=by rw [List.length_take]; omega
       have l2:(row.drop m).length=row.length - m:=List.length_drop
       rw [kT (by omega),Option.bind_some,lG n k (D++row.take m) (row.drop m) (by omega) (by rw [List.length_append]; omega),Option.bind_some,Option.bind_some]
       generalize hL:gr (fun S x=>kn n ((D++row.take m)++S) x) (row.drop m).reverse []=late
       have hll:late.length≤row.length - m:=by
         have:=gH (fun S x=>kn n ((D++row.take m)++S) x) (row.drop m).reverse []
         rw [hL,List.length_reverse,l2] at this; simpa using this
       rw [kT (by omega),Option.bind_some,lG n k (D++late) (row.take m) (by omega) (by rw [List.length_append]; omega),Option.bind_some]
       have g1:=gH (fun S x=>kn n ((D++late)++S) x) (row.take m).reverse []
       rw [List.length_reverse,List.length_nil] at g1
       rw [bN (by omega),Option.bind_some]
       congr 1
       have er:row.reverse=(row.drop m).reverse++(row.take m).reverse:=by rw [← List.reverse_append,List.take_append_drop]
       rw [er,lV,List.reverse_reverse]
       have:(fun S x=>kn n (D++(row.take m++S)) x)=fun S x=>kn n ((D++row.take m)++S) x:=by
         funext S x; rw [List.append_assoc]
       rw [this,hL]
       refine (lH (late:=late) (row.take m).reverse [] (fun S x hS=>?_)).symm
       rw [List.length_reverse,List.length_nil] at hS
       refine vM (by simp only [List.length_append]; omega) (by simp only [List.length_append]; omega) (fun e=>?_) x
       simp only [List.mem_append]
       constructor
       . rintro (h | h | h)
         . exact .inl (.inl h)
         . exact .inr h
         . exact .inl (.inr h)
       . rintro ((h | h) | h)
         . exact .inl h
         . exact .inr (.inr h)
         . exact .inr (.inl h)
theorem pN (n:Int) (D l:List Pr) (h:D.length + l.length≤1000000):∃ T,Tdy l T∧eE n D l=some (gr (fun S x=>kn n (D++S) x) T.reverse []):=by
 obtain ⟨T,e,t⟩:=qF l (by omega)
 refine ⟨T,t,?_⟩
 unfold eE
 have:=t.len
 rw [e,Option.bind_some,show kD n D T=_ from xB (T.length + 1) (fun q hq=>by
   obtain ⟨k,rfl⟩:∃ k,q=k + 1:=⟨q - 1,by omega⟩
   exact lG n k D T (by omega) (by omega)),Option.bind_some]
theorem ub (out:List Pr) {i:Nat} (hi:i < out.length) (hn:out.length≤1000000):loop (fW out (i:Int)) ([],0)=some (out.eraseIdx i):=by
 have:=eP (body:=fW out (i:Int)) (b:=out.eraseIdx i) (fun k=>((out.take k).eraseIdx i,(k:Int))) out.length ?_ ?_
 . simpa using this
 . intro k hk
   unfold fW
   dsimp only
   have lk:(out.take k).length=k:=by rw [List.length_take]; omega
   have le:=List.length_eraseIdx_le (out.take k) i
   rw [dlt hk,cond_true,aD hk,Option.bind_some,aX hk (by omega),gm hk,bN (by simp; omega),Option.bind_some]
   rcases Nat.lt_trichotomy k i with h | h | h
   . rw [show decide ((k:Int)=(i:Int))=false from decide_eq_false (by omega),Bool.not_false,cond_true,List.eraseIdx_append_of_length_le (by omega),List.eraseIdx_of_length_le (by omega),List.eraseIdx_of_length_le (by simp; omega)]
   . subst h
     rw [decide_eq_true rfl,Bool.not_true,cond_false,List.eraseIdx_append_of_length_le (by omega),List.eraseIdx_of_length_le (by omega),lk,Nat.sub_self]
     simp
   . rw [show decide ((k:Int)=(i:Int))=false from decide_eq_false (by omega),Bool.not_false,cond_true,List.eraseIdx_append_of_lt_length (by omega)]
 . unfold fW
   dsimp only
   rw [dge (by omega),cond_false,List.take_length]
theorem kH (n:Int) (D:List Pr):∀ (rp kept:List Pr),D.length + rp.length + kept.length≤1000000→loop (fV n D) (rp.reverse++kept,((rp.length:Nat):Int) - 1)=some (gr (fun S x=>kn n (D++S) x) rp kept)
 | [],kept,h=>by
   refine ca ?_
   unfold fV
   dsimp only
   rw [show decide ((0:Int)≤(([]:List Pr).length:Nat) - 1)=false from rfl,cond_false]; rfl
 | x :: rp,kept,h=>by
   rw [List.length_cons] at h
   have e0:(((x :: rp).length:Nat):Int) - 1=((rp.length:Nat):Int):=by rw [List.length_cons]; omega
   have eo:(x :: rp).reverse++kept=rp.reverse++x :: kept:=by simp
   have lo:(rp.reverse++x :: kept).length=rp.length + kept.length + 1:=by simp; omega
   have gx:ae (rp.reverse++x :: kept) ((rp.length:Nat):Int)=some x:=by
     rw [aD (by omega)]; simp
   have ee:(rp.reverse++x :: kept).eraseIdx rp.length=rp.reverse++kept:=by
     rw [List.eraseIdx_append_of_length_le (by simp)]; simp
   rw [e0,eo]
   have st:fV n D (rp.reverse++x :: kept,((rp.length:Nat):Int))=some (.inl (bif kn n (D++(rp.reverse++kept)) x then rp.reverse++kept else rp.reverse++x :: kept,((rp.length:Nat):Int) - 1)):=by
     unfold fV
     dsimp only
     rw [decide_eq_true (by omega),cond_true,ub _ (by omega) (by omega),Option.bind_some,gx,Option.bind_some,ee,qw n (by simp; omega) (by simp),Option.bind_some,w64 (by omega) (by omega)]
     simp only [List.all_cons,List.all_nil,Bool.and_true]
     cases kn n (D++(rp.reverse++kept)) x <;> rfl
   rw [cj st]
   show _=some (bif kn n (D++(rp.reverse++kept)) x then gr (fun S x=>kn n (D++S) x) rp kept else gr (fun S x=>kn n (D++S) x) rp (x :: kept))
   cases kn n (D++(rp.reverse++kept)) x with
   | true=>exact kH n D rp kept (by omega)
   | false=>exact kH n D rp (x :: kept) (by rw [List.length_cons]; omega)
theorem uA (n:Int) (D l:List Pr) (h:D.length + l.length≤1000000):∃ T,Tdy l T∧f6 n D l=some (gr (fun S x=>kn n (D++S) x) T.reverse []):=by
 obtain ⟨T,e,t⟩:=pA l (by omega)
 refine ⟨T,t,?_⟩
 unfold f6
 have:=t.len
 have k:=kH n D T.reverse [] (by simp; omega)
 rw [List.reverse_reverse,List.append_nil,List.length_reverse] at k
 rw [e,Option.bind_some,w64 (by omega) (by omega),k,Option.bind_some]
theorem xr (n:Int) (D l:List Pr) (h:D.length + l.length≤1000000):∃ L,eE n D l=some L∧f6 n D l=some L∧L.length≤l.length:=by
 obtain ⟨T,t,e⟩:=pN n D l h
 obtain ⟨T',t',e'⟩:=uA n D l h
 obtain rfl:=t.eq t'
 refine ⟨_,e,e',?_⟩
 have:=gH (fun S x=>kn n (D++S) x) T.reverse []
 have:=t.len
 simp at *; omega
theorem rJ {T:Nat→Nat→Prop} {U:Nat} (hU:U≤65536) {D:List Pr} (hD:D.length≤1000000) (h1:∀ p q r,T p q→T q r→T p r) (h2:∀ a b,a < U→b < U→cT D a b→T a b) {a b:Nat} (h:¬ T a b):kn U D ((a:Int),(b:Int))=false:=by
 rw [← Bool.not_eq_true]
 intro g
 obtain ⟨_,_,hf⟩:=fv hU hD
 unfold kn aG at g
 simp only [Bool.and_eq_true,Int.toNat_natCast] at g
 exact h (hf.least T h1 h2 g.2)
theorem qI:f8=some true:=by
 unfold f8
 obtain ⟨T,t,e⟩:=pN 4 [] [(1,2),(1,3),(2,3)] (by simp)
 have hT:T=[(1,2),(1,3),(2,3)]:=t.eq ⟨by simp [ltP],fun a=>Iff.rfl,Nat.le_refl _⟩
 subst hT
 have k1:kn 4 [(1,2),(1,3)] (2,3)=false:=rJ (U:=4) (a:=2) (b:=3) (T:=fun p q=>p=q∨p=0∨p=1) (by omega) (by simp) (fun p q r h1 h2=>by omega) (fun a b _ _ h=>by
   rcases h with h | h | h
   . exact .inl h
   . exact .inr (.inl h)
   . simp at h; omega) (by omega)
 have k2:kn 4 [(1,2),(2,3)] (1,3)=true:=by
   obtain ⟨_,_,hf⟩:=fv (U:=4) (D:=[(1,2),(2,3)]) (by omega) (by simp)
   have:=hf.cl (a:=1) (b:=2) (c:=3) (hf.ini (by omega) (by omega) (.inr (.inr (by simp)))) (hf.ini (by omega) (by omega) (.inr (.inr (by simp))))
   unfold kn aG
   simpa using this
 have k3:kn 4 [(2,3)] (1,2)=false:=rJ (U:=4) (a:=1) (b:=2) (T:=fun p q=>p=q∨p=0∨p=2) (by omega) (by simp) (fun p q r h1 h2=>by omega) (fun a b _ _ h=>by
   rcases h with h | h | h
   . exact .inl h
   . exact .inr (.inl h)
   . simp at h; omega) (by omega)
 have hg:gr (fun S x=>kn 4 ([]++S) x) [(1,2),(1,3),(2,3)].reverse []=[(1,2),(2,3)]:=by
   simp [gr,k1,k2,k3]
 rw [e,Option.bind_some,hg,kF _ _ (by simp),Option.bind_some,decide_eq_true rfl,cond_true,lU 4 (by simp) (by simp)]
 simp [k2]
theorem uX (a b:Pr):∃ i,iF a b=some i∧(i < 0↔ltP a b)∧(0 < i↔ltP b a):=by
 have nan:∀ x:Int,fX x=some false:=fun x=>by unfold fX; simp
 have cmp:∀ x y:Int,fU x y=some (if x < y then -1 else if y < x then 1 else 0):=fun x y=>by
   unfold fU
   rw [nan,nan]
   simp only [Option.bind_some,cond_false]
   by_cases h:x < y
   . simp [h]
   . by_cases h2:y < x <;> simp [h,h2]
 have or2:∀ p q:Int,iM [p,q]=some (if p≠0 then p else q):=fun p q=>by
   unfold iM
   have g0:ae [p,q] (0:Int)=some p:=rfl
   have g1:ae [p,q] (1:Int)=some q:=rfl
   by_cases h:p=0
   . rw [cj (s':=1) (by
       unfold fY
       rw [show decide ((0:Int) < (([p,q].length:Nat):Int))=true from rfl,cond_true,g0,Option.bind_some,decide_eq_true h]; rfl)]
     by_cases h2:q=0
     . rw [cj (s':=2) (by
         unfold fY
         rw [show decide ((1:Int) < (([p,q].length:Nat):Int))=true from rfl,cond_true,g1,Option.bind_some,decide_eq_true h2]; rfl),ca (b := .inl ()) (by rfl)]
       simp [h,h2]
     . rw [ca (b := .inr q) (by
         unfold fY
         rw [show decide ((1:Int) < (([p,q].length:Nat):Int))=true from rfl,cond_true,g1,Option.bind_some,decide_eq_false h2]; rfl)]
       simp [h]
   . rw [ca (b := .inr p) (by
         unfold fY
         rw [show decide ((0:Int) < (([p,q].length:Nat):Int))=true from rfl,cond_true,g0,Option.bind_some,decide_eq_false h]; rfl)]
     simp [h]
 unfold iF
 rw [cmp,Option.bind_some,cmp,Option.bind_some,or2,Option.bind_some]
 refine ⟨_,rfl,?_,?_⟩ <;> unfold ltP <;> by_cases h1:a.1 < b.1 <;> by_cases h2:b.1 < a.1 <;> by_cases h3:a.2 < b.2 <;> by_cases h4:b.2 < a.2 <;> simp [h1,h2,h3,h4] <;> omega
theorem sO (xa:Int) (xb:(List (Int×Int))) (xc:(List (Int×Int))) (xd:(List (Int×Int))) (xe:(Int×Int)) (xf:(Int×Int)) (k0:Tp.Ok (.int .i64) xa) (k1:Tp.Ok (.sl (.cons (.int .i64) (.one (.int .i64)))) xb) (k2:Tp.Ok (.sl (.cons (.int .i64) (.one (.int .i64)))) xc) (k3:Tp.Ok (.sl (.cons (.int .i64) (.one (.int .i64)))) xd) (k4:Tp.Ok (.cons (.int .i64) (.one (.int .i64))) xe) (k5:Tp.Ok (.cons (.int .i64) (.one (.int .i64))) xf):kz xa xb xc xd xe xf=some true:=by
 unfold kz
 by_cases g:((((decide (8 < xa))||(decide (16 < (((xb.length:Nat):Int)))))||(decide (16 < (((xc.length:Nat):Int)))))||(decide (16 < (((xd.length:Nat):Int)))))=true
 . rw [g,cond_true,qI]; rfl
 . rw [Bool.eq_false_iff.2 g,cond_false]
   simp only [Bool.or_eq_true,decide_eq_true_eq,not_or] at g
   obtain ⟨⟨⟨g1,g2⟩,g3⟩,g4⟩:=g
   have ah:∀ x y:Pr,dK (x.1,x.2) (y.1,y.2)=some (decide (ltP x y)):=fun x y=>by
     unfold dK
     congr 1
     rw [Bool.eq_iff_iff,decide_eq_true_eq]; unfold ltP; simp
   obtain ⟨i,e,i1,i2⟩:=uX xe xf
   obtain ⟨T,e1,t1⟩:=qF xc (by omega)
   obtain ⟨T',e2,t2⟩:=pA xc (by omega)
   obtain rfl:=t1.eq t2
   obtain ⟨L,e3,e4,l1⟩:=xr xa xb xc (by omega)
   have tl:=t1.len
   rw [show (xe.1,xe.2)=xe from rfl,show (xf.1,xf.2)=xf from rfl,e,Option.bind_some,← show (xe.1,xe.2)=xe from rfl,← show (xf.1,xf.2)=xf from rfl,ah,Option.bind_some]
   have q1:(decide (i < 0) == decide (ltP xe xf))=true:=by rw [beq_iff_eq,decide_eq_decide]; exact i1
   have q2:(decide (0 < i) == decide (ltP xf xe))=true:=by rw [beq_iff_eq,decide_eq_decide]; exact i2
   simp only [q1,q2,ah,Option.bind_some,Bool.not_true,cond_false,e1,e2,e3,e4]
   rw [kF _ _ (by omega),Option.bind_some,decide_eq_true rfl,cond_true,kF _ _ (by omega)]
   simp only [Option.bind_some,decide_true,cond_true]
   rw [lU xa (by omega) (by omega),qw xa (by omega) (by omega)]
   simp only [Option.bind_some,beq_self_eq_true,cond_true,qI]
theorem sP {H:Type} (enc:TypeId×Value→H) (W:World) (base:Nat) {v0 v1 v2 v3 v4 v5:Value} {d0 d1 d2 d3 d4 d5:DataW H} {p0 p1 p2 p3 p4 p5:List MemPlace}
   (h0:DataW.Trod enc Tryd.prog W 0 (fun _=>true) true 3 v0 d0 p0) (h1:DataW.Trod enc Tryd.prog W 0 (fun _=>true) true 22 v1 d1 p1) (h2:DataW.Trod enc Tryd.prog W 0 (fun _=>true) true 22 v2 d2 p2) (h3:DataW.Trod enc Tryd.prog W 0 (fun _=>true) true 22 v3 d3 p3) (h4:DataW.Trod enc Tryd.prog W 0 (fun _=>true) true 24 v4 d4 p4) (h5:DataW.Trod enc Tryd.prog W 0 (fun _=>true) true 24 v5 d5 p5)
   (o0:Value.okWide Tryd.prog W .any base 3 v0) (o1:Value.okWide Tryd.prog W .any base 22 v1) (o2:Value.okWide Tryd.prog W .any base 22 v2) (o3:Value.okWide Tryd.prog W .any base 22 v3) (o4:Value.okWide Tryd.prog W .any base 24 v4) (o5:Value.okWide Tryd.prog W .any base 24 v5)
   (hgk:tzGk (Hp.of W)) :
   Calls Tryd.prog 3 #[v0,v1,v2,v3,v4,v5] W fun e W'=>e = .returned (.bool true)∧Below W.heap.size W W':=by
 obtain ⟨xa,i0,k0⟩:=Tp.arg (.int .i64) (by kernel_rfl) o0 h0
 obtain ⟨xb,i1,k1⟩:=Tp.arg (.sl (.cons (.int .i64) (.one (.int .i64)))) (by kernel_rfl) o1 h1
 obtain ⟨xc,i2,k2⟩:=Tp.arg (.sl (.cons (.int .i64) (.one (.int .i64)))) (by kernel_rfl) o2 h2
 obtain ⟨xd,i3,k3⟩:=Tp.arg (.sl (.cons (.int .i64) (.one (.int .i64)))) (by kernel_rfl) o3 h3
 obtain ⟨xe,i4,k4⟩:=Tp.arg (.cons (.int .i64) (.one (.int .i64))) (by kernel_rfl) o4 h4
 obtain ⟨xf,i5,k5⟩:=Tp.arg (.cons (.int .i64) (.one (.int .i64))) (by kernel_rfl) o5 h5
 exact yi (s:=nr) (x:=(xa,xb,xc,xd,xe,xf)) (args:=[v0,v1,v2,v3,v4,v5]) sI (sO xa xb xc xd xe xf k0 k1 k2 k3 k4 k5) hgk rfl rfl ⟨_,_,rfl,dZ _ i0,_,_,rfl,dZ _ i1,_,_,rfl,dZ _ i2,_,_,rfl,dZ _ i3,_,_,rfl,dZ _ i4,_,_,rfl,dZ _ i5,rfl⟩
theorem yc:∀ j,j < 64→(Lib.deBruijn64tab.map Int.ofNat).getD j 0=((Lib.deBruijn64tab.getD j 0:Nat):Int):=by decide +kernel
theorem wz {W : World} {rest : List (String × DataW Unit)} (h : laidMet Tryd.prog (("math/bits.deBruijn64tab", Rows.laid_math_bits_deBruijn64tab) :: rest) W) : tzGk (Hp.of W) := by
 have hg : Tryd.prog.globalNamed "math/bits.deBruijn64tab" = some 0 := by kernel_rfl
 have hT : Lib.TabIs Tryd.prog W "math/bits.deBruijn64tab" .u8 (Lib.deBruijn64tab.map Int.ofNat) :=
   Lib.tabIs_of_head (t:=110) (e:=5) (n:=64) hg (by kernel_rfl) (by kernel_rfl) (by kernel_rfl) (by kernel_rfl) (by kernel_rfl) h
 intro j hj
 rw [← yc j hj]
 exact o9 (hT.cell hg j (by simpa [Lib.deBruijn64tab] using hj))
end
end Go.Proofs.YtcfehoggnpafmaaDoor
namespace Go.Proofs.YtcfehoggnpafmaaDoor.boundListsFrame
set_option maxRecDepth 40000
open Go.ChangeShapes Go.WideShapes Go.ChangeAt Go.RowKit
theorem own:ownKnob Tryd.prog.godebug=none:=by kernel_rfl
theorem vC (H:Type) (enc:TypeId×Value→H) (W:World) (base:Nat) (args:Array Value) (ds gs:List (DataW H)) (before:List MemPlace)
    (hval:∀ (j:Nat) t v,Tryd.f3.params[j]? = some t→args[j]? = some v→Value.okWide Tryd.prog W .any base t v)
    (hW:DataW.Whole enc Tryd.prog Tryd.f3.params.toList Rows.boundListsSpec.vars false W args.toList ds gs before) (hgk:tzGk (Hp.of W)) :
    Calls Tryd.prog 3 args W fun e W'=>∃ v,e = .returned v∧Rows.boundListsSpec.post enc Tryd.prog Tryd.f3 false true false false W args v W':=by
  have hW':=hW
  obtain ⟨p,q,hA0,hV,rfl,hfz,hnd⟩:=hW
  have hA:DataW.TrodAll enc Tryd.prog W 0 (fun _=>true) true Tryd.f3.params.toList args.toList ds p:=hA0
  rw [Tryd.params3] at hA hval
  obtain ⟨v0,vs0,d0,ds0,p0,q0,hargs,rfl,rfl,h0,r0⟩:=trodAll_cons hA
  obtain ⟨v1,vs1,d1,ds1,p1,q1,rfl,rfl,rfl,h1,r1⟩:=trodAll_cons r0
  obtain ⟨v2,vs2,d2,ds2,p2,q2,rfl,rfl,rfl,h2,r2⟩:=trodAll_cons r1
  obtain ⟨v3,vs3,d3,ds3,p3,q3,rfl,rfl,rfl,h3,r3⟩:=trodAll_cons r2
  obtain ⟨v4,vs4,d4,ds4,p4,q4,rfl,rfl,rfl,h4,r4⟩:=trodAll_cons r3
  obtain ⟨v5,vs5,d5,ds5,p5,q5,rfl,rfl,rfl,h5,r5⟩:=trodAll_cons r4
  obtain ⟨rfl,rfl,rfl⟩:=trodAll_nil r5
  obtain rfl:args = #[v0,v1,v2,v3,v4,v5]:=by cases args; simp_all
  refine (sP enc W base h0 h1 h2 h3 h4 h5 (hval 0 _ v0 rfl rfl) (hval 1 _ v1 rfl rfl) (hval 2 _ v2 rfl rfl) (hval 3 _ v3 rfl rfl) (hval 4 _ v4 rfl rfl) (hval 5 _ v5 rfl rfl) hgk).mono fun e W' ⟨he,hb⟩=>?_
  subst he
  exact ⟨_,rfl,vf (tb:=_) rfl hW' rfl rfl (by kernel_rfl) (by kernel_rfl) (of_decide_eq_true (by kernel_rfl)) hb⟩
noncomputable def rN (os:Os):World:=World.laidAll Tryd.prog os Rows.boundListsRow.laid
theorem rK (os:Os) {H:Type} (enc:TypeId×Value→H):∃ x,DataW.whole enc Tryd.prog ((rN os).forCall (fun _ _=>0) ⟨#[],#[.int .i64 0,.slice none 0 0,.slice none 0 0,.slice none 0 0,.agg #[.int .i64 0,.int .i64 0],.agg #[.int .i64 0,.int .i64 0]],[]⟩).memory Tryd.f3.params.toList Rows.boundListsSpec.vars false (#[.int .i64 0,.slice none 0 0,.slice none 0 0,.slice none 0 0,.agg #[.int .i64 0,.int .i64 0],.agg #[.int .i64 0,.int .i64 0]]:Array Value).toList 8=some x :=
  Option.isSome_iff_exists.1 (by kernel_rfl)
set_option maxRecDepth 100000 in
theorem xU (os:Os) (started:os.Started) (H:Type) (enc:TypeId×Value→H) (F:Stop.Interp) :
    ReturnsInHanded {} Tryd.checked os 3 .any ((OpenSpec.ofChange Rows.boundListsSpec).preRow enc Tryd.prog Tryd.f3 Rows.boundListsRow.domain false Rows.boundListsRow.laid) (((OpenSpec.ofChange Rows.boundListsSpec).at F).post enc Tryd.prog Tryd.f3 false true false false):=by
  obtain ⟨x,hx⟩:=rK os enc
  refine returnsInHanded_of_row (C:=Tryd.checked) (s:=OpenSpec.ofChange Rows.boundListsSpec) own started (by kernel_rfl) Tryd.func3
    ⟨rN os,fun _ _=>0,⟨#[],#[.int .i64 0,.slice none 0 0,.slice none 0 0,.slice none 0 0,.agg #[.int .i64 0,.int .i64 0],.agg #[.int .i64 0,.int .i64 0]],[]⟩,World.laidAll_os _ _ _,World.shaped_of_ZipB (by kernel_rfl) (by kernel_rfl),rfl,(Input.okWide_of_okWideB (by kernel_rfl)).2,
      OpenSpec.preRow_of_cond 8 hx (by kernel_rfl) (fun k hk=>by cases hk) (by kernel_rfl) (by rw [MakeChecks.laidMetH_plain _ _ _ (by kernel_rfl)]; exact laidMet_laidAll _ (by kernel_rfl) (by kernel_rfl)),
      by simp only [Assume.holds]; exact ⟨by simp,by simp,by simp,by simp,by simp⟩⟩ ?_
  intro W base args ds gs before hval hW _ _ _ hL _ _
  exact vC H enc W base args ds gs before hval hW (wz (rest:=[]) (by rw [MakeChecks.laidMetH_plain _ _ _ (by kernel_rfl)] at hL; exact hL))
theorem xy:Rows.BoundListsSaid :=
  OpenClaim.holds_of_cond 3 Tryd.f3 rfl rfl rfl rfl rfl rfl rfl ⟨rfl,rfl,rfl,rfl,rfl⟩ rfl rfl rfl rfl rfl (by kernel_rfl) Tryd.func3 (by kernel_rfl)
    (of_decide_eq_true (by kernel_rfl)) (by unfold Func.isWrapper; first | (rw [if_pos (by decide +kernel)]; kernel_rfl) | (rw [if_neg (by decide +kernel)]; exact ⟨rfl,rfl⟩))
    (fun os started H enc _ F=>by rw [OpenClaim.pre_eq_preRow]; exact xU os started H enc F)
theorem card:Rows.BoundListsCardSaid :=
  Claim7.holds_tied_plain_at .later [] [.data] true (true, "31cc6271dc5a7d8794b8e42b53f70765b9b3758a4f9e70dbc01fcd26af658608") false xy (fun _ h => by cases h) (by kernel_rfl) (fun _ h => by cases h) boundLists_row_tie rfl ⟨rfl, rfl⟩ (by kernel_rfl) rfl
    (fun f fn hf hfn=>by
      obtain rfl : f = 3 := Option.some.inj ((show Tryd.prog.funcNamed "easement/easementlaw34.BoundLists" = some 3 by kernel_rfl).symm.trans hf) |>.symm
      obtain rfl:fn=Tryd.f3:=(Option.some.inj (Tryd.func3.symm.trans hfn)).symm
      exact ⟨by kernel_rfl,fun j t ht=>by
        rw [Tryd.params3] at ht
        have hm:t∈[3,22,22,22,24,24]:=by simpa using Array.mem_of_getElem? ht
        have hall:([3,22,22,22,24,24].all fun u=>!Tryd.prog.wantsStandIn u)=true:=by kernel_rfl
        exact (show Tryd.prog.wantsStandIn t=false by simpa using List.all_eq_true.1 hall t hm)⟩)
    (by kernel_rfl)
end Go.Proofs.YtcfehoggnpafmaaDoor.boundListsFrame
