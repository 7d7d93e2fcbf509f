/- A part of the proof: what lies ahead of the law. Nothing is claimed here. -/
import Derived.Test.YtaajcbeoafhmaaaGreatDoorZ5
import Derived.Lib.RowBridge
namespace Go.Proofs.YtaajcbeoafhmaaaGreatDoor
noncomputable section
set_option linter.unusedVariables false
set_option maxRecDepth 100000
set_option maxHeartbeats 4000000
section
open Go.RowKit _root_.Go.Proofs.Tryz
def kC (qa0:Int) (l1:(List Int)):(Int×Bool×aE×Tq5×Bool)→Option ((Int×Bool×aE×Tq5×Bool)⊕(aE×Tq5×Bool)):=fun (i2,t3,l4,l5,t6)=>cond (t3) ((bJ i2 qa0 l4 l5).bind fun (t7,l8,l9)=>cond (t7) ((bQ (some l1) (IntKind.wrap .i64 (i2 + 1))).bind fun i10=>(bv (some l1) i10).bind fun (i11,t12)=>some (.inl (i11,t12,l8,l9,true))) ((bQ (some l1) (IntKind.wrap .i64 (i2 + 1))).bind fun i13=>(bv (some l1) i13).bind fun (i14,t15)=>some (.inl (i14,t15,l8,l9,t6)))) (some (.inr (((l4,l5,t6)))))
def da (qa0:Int) (qa1:aE) (qa2:Tq5) (qb0:Int) (qb1:aE) (qb2:Tq5):Option ((Bool×aE×Tq5×aE×Tq5)) :=
 cond (!decide (qa0=qb0)) (some ((false,qa1,qa2,qb1,qb2))) ((dN (some (qb0,qb1,qb2))).bind fun t3=>cond (t3) (((dN (some (qa0,qa1,qa2))).bind fun t4=>cond (!t4) ((kI qa0 qa1 qa2).bind fun l5=>some ((none,l5))) (some ((qa1,qa2))):Option ((aE×Tq5))).bind fun (l6,l7)=>(l7).bind fun y8=>(qb2).bind fun y9=>(fp y8.1 y8.2 y9.1 y9.2).bind fun (t10,l11,l12)=>some ((t10,l6,some (y8.1,l11),qb1,some (y9.1,l12)))) ((qb1).bind fun y13=>(dM y13).bind fun l14=>(bv (some l14) 0).bind fun (i15,t16)=>(loop (kC qa0 l14) (i15,t16,qa1,qa2,false)).bind fun (l17,l18,t19)=>some ((t19,l17,l18,some l14,qb2))))
def Ns:Hn Tryz.prog := .mix [] [0,1,2,3,4,5,6,7,8,9,10,11,12,13,14,15,16] [] [] (.tw 23 .nil (.cl iF [9,11,1] (.tw 25 (.sq [] ⟨[],[bkC 0 88 [.is 1 (.any),.od (.box 120 (.one (.row 3 (.dat Yq2)))),.od (.box 116 (.cons (.dat Yq2) (.one (.row 113 (.dat Yq7)))))],bkU 2]⟩ [0,4,6] (.cl iF [4,6,0] (.tw 28 (.cl BJ [] .nil) .nil)) (.mix [] [0,1,2,3,4,5,6,7] [8,9] [] (.wt 38 (.opb 18 19 (.wt 38 (.opb 11 12 (.wt 1000027 (.mc 18 0 21 (.mc 11 0 24 (.cl Ly [] .nil)))))))))) (.wt 43 (.opb 9 10 (.cl j7 [] (.rg ⟨89,_,func89,call89⟩ (.cl cL [26,9] (.jn [] ⟨[],[bkC 0 88 [.is 3 (.any),.od (.box 120 (.one (.row 3 (.dat Yq2)))),.od (.box 116 (.cons (.dat Yq2) (.one (.row 113 (.dat Yq7)))))],bkC 16 4 [.dat .bool],⟨(some 30),0,[],false,false,none,true⟩,bkU 2]⟩ [30,16,0,4,6] (.lp ⟨[kdI 3,kdB 4],[bkC 0 88 [.is 3 (.any),.od (.box 120 (.one (.row 3 (.dat Yq2)))),.od (.box 116 (.cons (.dat Yq2) (.one (.row 113 (.dat Yq7)))))],bkC 16 4 [.dat .bool],⟨(some 30),0,[],false,false,none,true⟩,bkU 2]⟩ (.tw 10 (.yl 2 (.cl cB [] (.tw 48 (.mix [([0,1,2,3],4),([],5)] [6,7,8,9,10] [] [] (.cl cW [26,9] (.cl cL [26,9] .nil))) (.mix [([0,1,2,3],4),([],5)] [6,7,8,9,10] [] [] (.cl cW [26,9] (.cl cL [26,9] .nil)))))) .nil)) .nil)))))))))
def Me:Spec:=⟨29,⟨[(0,.ptr 0 0),(1,.ptr 1 0)],[bkN 88 [.is 2 (.dat Yq2),.od (.box 120 (.one (.row 3 (.dat Yq2)))),.od (.box 116 (.cons (.dat Yq2) (.one (.row 113 (.dat Yq7)))))],bkN 88 [.is 3 (.dat Yq2),.od (.box 120 (.one (.row 3 (.dat Yq2)))),.od (.box 116 (.cons (.dat Yq2) (.one (.row 113 (.dat Yq7)))))],bkM,bkM]⟩,[⟨[kdB 0],[bkC 0 88 [.is 2 (.any),.od (.box 120 (.one (.row 3 (.dat Yq2)))),.od (.box 116 (.cons (.dat Yq2) (.one (.row 113 (.dat Yq7)))))],bkC 1 88 [.is 3 (.any),.od (.box 120 (.one (.row 3 (.dat Yq2)))),.od (.box 116 (.cons (.dat Yq2) (.one (.row 113 (.dat Yq7)))))],bkU 2,bkU 3]⟩],fun x=>da x.1 x.2.1 x.2.2.1 x.2.2.2.1 x.2.2.2.2.1 x.2.2.2.2.2⟩
def fY:OkSpec Tryz.prog:=⟨Me,ab func29 Ns (by kernel_rfl) (by kernel_rfl),call29⟩
def si (xc:Int) (qa0:Int):Tq2→Option (Tq2⊕(aE×Tq5)):=fun (i1,l2,l3)=>(b8 (some (qa0,l2,l3))).bind fun i4=>cond (decide (i1 < (if i4 < xc then i4 else xc))) ((bJ i1 qa0 l2 l3).bind fun (t5,l6,l7)=>some (.inl ((IntKind.wrap .i64 (i1 + 1),l6,l7)))) (some (.inr (((l2,l3)))))
def gG (xb:Int) (xc:Int) (qa0:Int) (qa1:aE) (qa2:Tq5):Option ((aE×Tq5)) :=
 (loop (si xc qa0) (if xb < 0 then 0 else xb,qa1,qa2)).bind fun (l3,l4)=>some ((l3,l4))
def ND:Hn Tryz.prog := .jn [] ⟨[],[bkC 0 88 [.is 1 (.any),.od (.box 120 (.one (.row 3 (.dat Yq2)))),.od (.box 116 (.cons (.dat Yq2) (.one (.row 113 (.dat Yq7)))))],bkU 1]⟩ [0,2,4] (.lp ⟨[kdI 6],[bkC 0 88 [.is 1 (.any),.od (.box 120 (.one (.row 3 (.dat Yq2)))),.od (.box 116 (.cons (.dat Yq2) (.one (.row 113 (.dat Yq7)))))],bkU 1]⟩ (.cl dj [7,9,0] (.tw 14 (.cl cB [] .nil) .nil))) .nil
def Nu:Spec:=⟨28,⟨[(0,.ptr 0 0),kdI 1,kdI 2],[bkN 88 [.is 1 (.dat Yq2),.od (.box 120 (.one (.row 3 (.dat Yq2)))),.od (.box 116 (.cons (.dat Yq2) (.one (.row 113 (.dat Yq7)))))],bkM]⟩,[⟨[],[bkC 0 88 [.is 1 (.any),.od (.box 120 (.one (.row 3 (.dat Yq2)))),.od (.box 116 (.cons (.dat Yq2) (.one (.row 113 (.dat Yq7)))))],bkU 1]⟩],fun x=>gG x.1 x.2.1 x.2.2.1 x.2.2.2.1 x.2.2.2.2⟩
def vN:OkSpec Tryz.prog:=⟨Nu,ab func28 ND (by kernel_rfl) (by kernel_rfl),call28⟩
def Da (xa:Tq1) (i1:Int) (z2:List (Option Tq2)):bF→Option (bF⊕Tq8):=fun (i3,l4)=>cond (decide (i3 < (z2.length:Int))) ((aa l4 i3).bind fun x5=>(cF (IntKind.wrap .i64 (i1 + xa.1))).bind fun o=>match o with | .inl _=>(aa l4 i3).bind fun _=>(ay i3 i3).bind fun _=>cond (decide (i3 < xa.1)) ((aa (l4.set i3.toNat none) i3).bind fun x6=>(aa (l4.set i3.toNat none) i3).bind fun _=>(ay i3 i3).bind fun _=>(x6).bind fun y7=>(eC y7.1 y7.2.1 y7.2.2).bind fun (t8,l9,l10)=>(aa ((l4.set i3.toNat none).set i3.toNat (some (y7.1,l9,l10))) i3).bind fun x11=>(aa ((l4.set i3.toNat none).set i3.toNat (some (y7.1,l9,l10))) i3).bind fun _=>(ay i3 i3).bind fun _=>(x11).bind fun y12=>(bJ (IntKind.wrap .i64 (i1 + i3)) y12.1 y12.2.1 y12.2.2).bind fun (t13,l14,l15)=>some (.inl ((IntKind.wrap .i64 (i3 + 1),((l4.set i3.toNat none).set i3.toNat (some (y7.1,l9,l10))).set i3.toNat (some (y12.1,l14,l15)))))) (some (.inl ((IntKind.wrap .i64 (i3 + 1),l4.set i3.toNat none)))) | .inr (i16,l17)=>(aa l4 i3).bind fun _=>(ay i3 i3).bind fun _=>cond (decide (i3 < xa.1)) ((aa (l4.set i3.toNat (some (i16,l17,none))) i3).bind fun x18=>(aa (l4.set i3.toNat (some (i16,l17,none))) i3).bind fun _=>(ay i3 i3).bind fun _=>(x18).bind fun y19=>(eC y19.1 y19.2.1 y19.2.2).bind fun (t20,l21,l22)=>(aa ((l4.set i3.toNat (some (i16,l17,none))).set i3.toNat (some (y19.1,l21,l22))) i3).bind fun x23=>(aa ((l4.set i3.toNat (some (i16,l17,none))).set i3.toNat (some (y19.1,l21,l22))) i3).bind fun _=>(ay i3 i3).bind fun _=>(x23).bind fun y24=>(bJ (IntKind.wrap .i64 (i1 + i3)) y24.1 y24.2.1 y24.2.2).bind fun (t25,l26,l27)=>some (.inl ((IntKind.wrap .i64 (i3 + 1),((l4.set i3.toNat (some (i16,l17,none))).set i3.toNat (some (y19.1,l21,l22))).set i3.toNat (some (y24.1,l26,l27)))))) (some (.inl ((IntKind.wrap .i64 (i3 + 1),l4.set i3.toNat (some (i16,l17,none))))))) (some (.inr (l4)))
def Dd (l1:(List Int)):Int→Option (Int⊕Unit):=fun i2=>cond (decide (i2 < (l1.length:Int))) ((aa l1 i2).bind fun x3=>(gI x3).bind fun t4=>some (.inl (IntKind.wrap .i64 (i2 + 1)))) (some (.inr ((()))))
def Dc (l1:(List Int)):bF→Option (bF⊕Tq8):=fun (i2,l3)=>cond (decide (i2 < (l1.length:Int))) ((aa l1 i2).bind fun x4=>(aa l3 x4).bind fun x5=>(aa l3 x4).bind fun _=>(ay x4 x4).bind fun _=>(x5).bind fun y6=>(eC y6.1 y6.2.1 y6.2.2).bind fun (t7,l8,l9)=>some (.inl ((IntKind.wrap .i64 (i2 + 1),l3.set x4.toNat (some (y6.1,l8,l9)))))) (some (.inr (l3)))
def C6 (i1:Int) (l2:(List Int)):Tq2→Option (Tq2⊕(aE×Tq5)):=fun (i3,l4,l5)=>cond (decide (i3 < (l2.length:Int))) ((aa l2 i3).bind fun x6=>(bJ x6 i1 l4 l5).bind fun (t7,l8,l9)=>some (.inl ((IntKind.wrap .i64 (i3 + 1),l8,l9)))) (some (.inr (((l4,l5)))))
def C5 (i1:Int) (l2:(List Int)):gm→Option (gm⊕Tq8):=fun (i3,l4,l5,l6)=>cond (decide (i3 < (l2.length:Int))) ((aa l2 i3).bind fun x7=>(aa l4 x7).bind fun x8=>(aa l4 x7).bind fun _=>(ay x7 x7).bind fun _=>(x8).bind fun y9=>(da y9.1 y9.2.1 y9.2.2 i1 l5 l6).bind fun (t10,l11,l12,l13,l14)=>some (.inl ((IntKind.wrap .i64 (i3 + 1),l4.set x7.toNat (some (y9.1,l11,l12)),l13,l14)))) (some (.inr (l4)))
def C8 (xa:Tq1) (p1:(Option cO)) (i2:Int):bF→Option (bF⊕Tq8):=fun (i3,l4)=>cond (decide (i3 < (xa.2.2.2.1.length:Int))) ((aa xa.2.2.2.1 i3).bind fun x5=>(cF (IntKind.wrap .i64 (i2 + xa.1))).bind fun o=>match o with | .inl _=>(cQ p1 i3).bind fun l6=>(loop (Dd l6) 0).bind fun ()=>(du x5).bind fun l7=>(loop (Dc l7) (0,l4)).bind fun l8=>some (.inl ((IntKind.wrap .i64 (i3 + 1),l8))) | .inr (i9,l10)=>(cQ p1 i3).bind fun l11=>(loop (C6 i9 l11) (0,l10,none)).bind fun (l12,l13)=>(du x5).bind fun l14=>(loop (C5 i9 l14) (0,l4,l12,l13)).bind fun l15=>some (.inl ((IntKind.wrap .i64 (i3 + 1),l15)))) (some (.inr (l4)))
def iX (xa:Tq1) (i1:Int) (i2:Int) (z3:List (Option Tq2)):(Int×aE×Tq5×Tq8)→Option ((Int×aE×Tq5×Tq8)⊕Tq8):=fun (i4,l5,l6,l7)=>cond (decide (i4 < (z3.length:Int))) ((aa l7 i4).bind fun x8=>(cF (IntKind.wrap .i64 (i1 + xa.1))).bind fun o=>match o with | .inl _=>(aa l7 i4).bind fun _=>(ay i4 i4).bind fun _=>cond (decide (i4 < xa.1)) ((aa (l7.set i4.toNat none) i4).bind fun x9=>(aa (l7.set i4.toNat none) i4).bind fun _=>(ay i4 i4).bind fun _=>(x9).bind fun y10=>(da y10.1 y10.2.1 y10.2.2 i2 l5 l6).bind fun (t11,l12,l13,l14,l15)=>(aa ((l7.set i4.toNat none).set i4.toNat (some (y10.1,l12,l13))) i4).bind fun x16=>(aa ((l7.set i4.toNat none).set i4.toNat (some (y10.1,l12,l13))) i4).bind fun _=>(ay i4 i4).bind fun _=>(x16).bind fun y17=>(bJ (IntKind.wrap .i64 (i1 + i4)) y17.1 y17.2.1 y17.2.2).bind fun (t18,l19,l20)=>some (.inl ((IntKind.wrap .i64 (i4 + 1),l14,l15,((l7.set i4.toNat none).set i4.toNat (some (y10.1,l12,l13))).set i4.toNat (some (y17.1,l19,l20)))))) (some (.inl ((IntKind.wrap .i64 (i4 + 1),l5,l6,l7.set i4.toNat none)))) | .inr (i21,l22)=>(aa l7 i4).bind fun _=>(ay i4 i4).bind fun _=>cond (decide (i4 < xa.1)) ((aa (l7.set i4.toNat (some (i21,l22,none))) i4).bind fun x23=>(aa (l7.set i4.toNat (some (i21,l22,none))) i4).bind fun _=>(ay i4 i4).bind fun _=>(x23).bind fun y24=>(da y24.1 y24.2.1 y24.2.2 i2 l5 l6).bind fun (t25,l26,l27,l28,l29)=>(aa ((l7.set i4.toNat (some (i21,l22,none))).set i4.toNat (some (y24.1,l26,l27))) i4).bind fun x30=>(aa ((l7.set i4.toNat (some (i21,l22,none))).set i4.toNat (some (y24.1,l26,l27))) i4).bind fun _=>(ay i4 i4).bind fun _=>(x30).bind fun y31=>(bJ (IntKind.wrap .i64 (i1 + i4)) y31.1 y31.2.1 y31.2.2).bind fun (t32,l33,l34)=>some (.inl ((IntKind.wrap .i64 (i4 + 1),l28,l29,((l7.set i4.toNat (some (i21,l22,none))).set i4.toNat (some (y24.1,l26,l27))).set i4.toNat (some (y31.1,l33,l34)))))) (some (.inl ((IntKind.wrap .i64 (i4 + 1),l5,l6,l7.set i4.toNat (some (i21,l22,none))))))) (some (.inr (l7)))
def C9 (l1:(List Int)):Int→Option (Int⊕Unit):=fun i2=>cond (decide (i2 < (l1.length:Int))) ((aa l1 i2).bind fun x3=>(gI x3).bind fun t4=>some (.inl (IntKind.wrap .i64 (i2 + 1)))) (some (.inr ((()))))
def Db (l1:(List Int)):bF→Option (bF⊕Tq8):=fun (i2,l3)=>cond (decide (i2 < (l1.length:Int))) ((aa l1 i2).bind fun x4=>(aa l3 x4).bind fun x5=>(aa l3 x4).bind fun _=>(ay x4 x4).bind fun _=>(x5).bind fun y6=>(eC y6.1 y6.2.1 y6.2.2).bind fun (t7,l8,l9)=>some (.inl ((IntKind.wrap .i64 (i2 + 1),l3.set x4.toNat (some (y6.1,l8,l9)))))) (some (.inr (l3)))
def lb (i1:Int) (l2:(List Int)):Tq2→Option (Tq2⊕(aE×Tq5)):=fun (i3,l4,l5)=>cond (decide (i3 < (l2.length:Int))) ((aa l2 i3).bind fun x6=>(bJ x6 i1 l4 l5).bind fun (t7,l8,l9)=>some (.inl ((IntKind.wrap .i64 (i3 + 1),l8,l9)))) (some (.inr (((l4,l5)))))
def lf (i1:Int) (l2:(List Int)):gm→Option (gm⊕Tq8):=fun (i3,l4,l5,l6)=>cond (decide (i3 < (l2.length:Int))) ((aa l2 i3).bind fun x7=>(aa l4 x7).bind fun x8=>(aa l4 x7).bind fun _=>(ay x7 x7).bind fun _=>(x8).bind fun y9=>(da y9.1 y9.2.1 y9.2.2 i1 l5 l6).bind fun (t10,l11,l12,l13,l14)=>some (.inl ((IntKind.wrap .i64 (i3 + 1),l4.set x7.toNat (some (y9.1,l11,l12)),l13,l14)))) (some (.inr (l4)))
def lg (xa:Tq1) (p1:(Option cO)) (i2:Int):bF→Option (bF⊕Tq8):=fun (i3,l4)=>cond (decide (i3 < (xa.2.2.2.1.length:Int))) ((aa xa.2.2.2.1 i3).bind fun x5=>(cF (IntKind.wrap .i64 (i2 + xa.1))).bind fun o=>match o with | .inl _=>(cQ p1 i3).bind fun l6=>(loop (C9 l6) 0).bind fun ()=>(du x5).bind fun l7=>(loop (Db l7) (0,l4)).bind fun l8=>some (.inl ((IntKind.wrap .i64 (i3 + 1),l8))) | .inr (i9,l10)=>(cQ p1 i3).bind fun l11=>(loop (lb i9 l11) (0,l10,none)).bind fun (l12,l13)=>(du x5).bind fun l14=>(loop (lf i9 l14) (0,l4,l12,l13)).bind fun l15=>some (.inl ((IntKind.wrap .i64 (i3 + 1),l15)))) (some (.inr (l4)))
def mb (xa:Tq1):Option (Tq8) :=
 (fx xa).bind fun p1=>(eD p1).bind fun i2=>cond (decide (i2=0)) (some ([])) ((br 2 xa.2.1).bind fun _=>(cF (IntKind.wrap .i64 (i2 + xa.1))).bind fun o=>match o with | .inl _=>(nV 0 i2).bind fun _=>(mk xa.2.1 xa.2.1 none:Option Tq8).bind fun z3=>(loop (Da xa i2 z3) (0,z3)).bind fun l4=>(loop (C8 xa p1 i2) (0,l4)).bind fun l5=>some (l5) | .inr (i6,l7)=>(gG 0 i2 i6 l7 none).bind fun (l8,l9)=>(mk xa.2.1 xa.2.1 none:Option Tq8).bind fun z10=>(loop (iX xa i2 i6 z10) (0,l8,l9,z10)).bind fun l11=>(loop (lg xa p1 i2) (0,l11)).bind fun l12=>some (l12))
def LJ:Hn Tryz.prog := .cl Ba [] (.cl kc [] (.tw 24 .nil (.cl oQ3 [] (.c2 dF [] (.cl vL [] (.ot (.box 88 (.cons (.dat Yq2) (.cons (.box 120 (.one (.row 3 (.dat Yq2)))) (.one (.box 116 (.cons (.dat Yq2) (.one (.row 113 (.dat Yq7))))))))) (.jn [] ⟨[],[bkO 2 (.row 50 (.box 88 (.cons (.dat Yq2) (.cons (.box 120 (.one (.row 3 (.dat Yq2)))) (.one (.box 116 (.cons (.dat Yq2) (.one (.row 113 (.dat Yq7))))))))))]⟩ [2] (.lp ⟨[kdI 43],[bkO 2 (.row 50 (.box 88 (.cons (.dat Yq2) (.cons (.box 120 (.one (.row 3 (.dat Yq2)))) (.one (.box 116 (.cons (.dat Yq2) (.one (.row 113 (.dat Yq7))))))))))]⟩ (.tw 44 (.opn 2 47 (.c2 dF [] (.cls 2 7 (.tw 54 (.opn 2 56 (.wt 59 (.opb 10 8 (.wt 1000014 (.mc 10 0 11 (.cl fU [] (.cls 2 9 (.opn 2 62 (.wt 67 (.opb 27 25 (.wt 1000031 (.mc 27 0 28 (.cl cB [] (.cls 2 26 .nil)))))))))))))) .nil)) (.cls 2 11 (.tw 54 (.opn 2 56 (.wt 59 (.opb 14 12 (.wt 1000018 (.mc 14 0 15 (.cl fU [] (.cls 2 13 (.opn 2 62 (.wt 67 (.opb 31 29 (.wt 1000035 (.mc 31 0 32 (.cl cB [] (.cls 2 30 .nil)))))))))))))) .nil)))) .nil)) (.jn [] ⟨[],[bkO 2 (.row 50 (.box 88 (.cons (.dat Yq2) (.cons (.box 120 (.one (.row 3 (.dat Yq2)))) (.one (.box 116 (.cons (.dat Yq2) (.one (.row 113 (.dat Yq7))))))))))]⟩ [0,2] (.lp ⟨[kdI 73],[bkO 2 (.row 50 (.box 88 (.cons (.dat Yq2) (.cons (.box 120 (.one (.row 3 (.dat Yq2)))) (.one (.box 116 (.cons (.dat Yq2) (.one (.row 113 (.dat Yq7))))))))))]⟩ (.tw 74 (.c2 dF [] (.cl ec [] (.jn [] ⟨[],[]⟩ [] (.lp ⟨[kdI 84],[]⟩ (.tw 85 (.cl ka [] .nil) .nil)) (.cl fX [] (.jn [] ⟨[],[bkO 2 (.row 50 (.box 88 (.cons (.dat Yq2) (.cons (.box 120 (.one (.row 3 (.dat Yq2)))) (.one (.box 116 (.cons (.dat Yq2) (.one (.row 113 (.dat Yq7))))))))))]⟩ [2,6,9] (.lp ⟨[kdI 95],[bkO 2 (.row 50 (.box 88 (.cons (.dat Yq2) (.cons (.box 120 (.one (.row 3 (.dat Yq2)))) (.one (.box 116 (.cons (.dat Yq2) (.one (.row 113 (.dat Yq7))))))))))]⟩ (.tw 96 (.opn 2 100 (.wt 103 (.opb 15 13 (.wt 1000019 (.mc 15 0 16 (.cl fU [] (.cls 2 14 .nil))))))) .nil)) .nil)))) (.cl ec [] (.jn [(9,0)] ⟨[],[bkC 9 88 [.is 1 (.any),.od (.box 120 (.one (.row 3 (.dat Yq2)))),.od (.box 116 (.cons (.dat Yq2) (.one (.row 113 (.dat Yq7)))))],bkU 15]⟩ [9,10] (.lp ⟨[kdI 84],[bkC 9 88 [.is 1 (.any),.od (.box 120 (.one (.row 3 (.dat Yq2)))),.od (.box 116 (.cons (.dat Yq2) (.one (.row 113 (.dat Yq7)))))],bkU 15]⟩ (.tw 85 (.cl cB [] .nil) .nil)) (.cl fX [] (.jn [] ⟨[],[bkO 2 (.row 50 (.box 88 (.cons (.dat Yq2) (.cons (.box 120 (.one (.row 3 (.dat Yq2)))) (.one (.box 116 (.cons (.dat Yq2) (.one (.row 113 (.dat Yq7))))))))))]⟩ [2,6,9,16,18,13] (.lp ⟨[kdI 95],[bkO 2 (.row 50 (.box 88 (.cons (.dat Yq2) (.cons (.box 120 (.one (.row 3 (.dat Yq2)))) (.one (.box 116 (.cons (.dat Yq2) (.one (.row 113 (.dat Yq7)))))))))),bkC 9 88 [.is 2 (.any),.od (.box 120 (.one (.row 3 (.dat Yq2)))),.od (.box 116 (.cons (.dat Yq2) (.one (.row 113 (.dat Yq7)))))],bkU 15]⟩ (.tw 96 (.opn 2 100 (.wt 103 (.opb 30 23 (.wt 1000034 (.mc 30 0 31 (.cl fY [] (.cls 2 29 .nil))))))) .nil)) .nil))))) .nil)) .nil)))) (.mc 2 0 5 (.cl vN [] (.ot (.box 88 (.cons (.dat Yq2) (.cons (.box 120 (.one (.row 3 (.dat Yq2)))) (.one (.box 116 (.cons (.dat Yq2) (.one (.row 113 (.dat Yq7))))))))) (.jn [] ⟨[],[bkO 17 (.row 50 (.box 88 (.cons (.dat Yq2) (.cons (.box 120 (.one (.row 3 (.dat Yq2)))) (.one (.box 116 (.cons (.dat Yq2) (.one (.row 113 (.dat Yq7))))))))))]⟩ [17,2,12,14] (.lp ⟨[kdI 43],[bkC 2 88 [.is 2 (.any),.od (.box 120 (.one (.row 3 (.dat Yq2)))),.od (.box 116 (.cons (.dat Yq2) (.one (.row 113 (.dat Yq7)))))],bkO 17 (.row 50 (.box 88 (.cons (.dat Yq2) (.cons (.box 120 (.one (.row 3 (.dat Yq2)))) (.one (.box 116 (.cons (.dat Yq2) (.one (.row 113 (.dat Yq7)))))))))),bkU 6]⟩ (.tw 44 (.opn 17 47 (.c2 dF [] (.cls 17 27 (.tw 54 (.opn 17 56 (.wt 59 (.opb 30 28 (.wt 1000034 (.mc 30 0 31 (.cl fY [] (.cls 17 29 (.opn 17 62 (.wt 67 (.opb 57 55 (.wt 1000061 (.mc 57 0 58 (.cl cB [] (.cls 17 56 .nil)))))))))))))) .nil)) (.cls 17 31 (.tw 54 (.opn 17 56 (.wt 59 (.opb 34 32 (.wt 1000038 (.mc 34 0 35 (.cl fY [] (.cls 17 33 (.opn 17 62 (.wt 67 (.opb 61 59 (.wt 1000065 (.mc 61 0 62 (.cl cB [] (.cls 17 60 .nil)))))))))))))) .nil)))) .nil)) (.jn [] ⟨[],[bkO 17 (.row 50 (.box 88 (.cons (.dat Yq2) (.cons (.box 120 (.one (.row 3 (.dat Yq2)))) (.one (.box 116 (.cons (.dat Yq2) (.one (.row 113 (.dat Yq7))))))))))]⟩ [0,17] (.lp ⟨[kdI 73],[bkO 17 (.row 50 (.box 88 (.cons (.dat Yq2) (.cons (.box 120 (.one (.row 3 (.dat Yq2)))) (.one (.box 116 (.cons (.dat Yq2) (.one (.row 113 (.dat Yq7))))))))))]⟩ (.tw 74 (.c2 dF [] (.cl ec [] (.jn [] ⟨[],[]⟩ [] (.lp ⟨[kdI 84],[]⟩ (.tw 85 (.cl ka [] .nil) .nil)) (.cl fX [] (.jn [] ⟨[],[bkO 17 (.row 50 (.box 88 (.cons (.dat Yq2) (.cons (.box 120 (.one (.row 3 (.dat Yq2)))) (.one (.box 116 (.cons (.dat Yq2) (.one (.row 113 (.dat Yq7))))))))))]⟩ [17,21,24] (.lp ⟨[kdI 95],[bkO 17 (.row 50 (.box 88 (.cons (.dat Yq2) (.cons (.box 120 (.one (.row 3 (.dat Yq2)))) (.one (.box 116 (.cons (.dat Yq2) (.one (.row 113 (.dat Yq7))))))))))]⟩ (.tw 96 (.opn 17 100 (.wt 103 (.opb 30 28 (.wt 1000034 (.mc 30 0 31 (.cl fU [] (.cls 17 29 .nil))))))) .nil)) .nil)))) (.cl ec [] (.jn [(24,0)] ⟨[],[bkC 24 88 [.is 1 (.any),.od (.box 120 (.one (.row 3 (.dat Yq2)))),.od (.box 116 (.cons (.dat Yq2) (.one (.row 113 (.dat Yq7)))))],bkU 30]⟩ [24,25] (.lp ⟨[kdI 84],[bkC 24 88 [.is 1 (.any),.od (.box 120 (.one (.row 3 (.dat Yq2)))),.od (.box 116 (.cons (.dat Yq2) (.one (.row 113 (.dat Yq7)))))],bkU 30]⟩ (.tw 85 (.cl cB [] .nil) .nil)) (.cl fX [] (.jn [] ⟨[],[bkO 17 (.row 50 (.box 88 (.cons (.dat Yq2) (.cons (.box 120 (.one (.row 3 (.dat Yq2)))) (.one (.box 116 (.cons (.dat Yq2) (.one (.row 113 (.dat Yq7))))))))))]⟩ [17,21,24,31,33,28] (.lp ⟨[kdI 95],[bkO 17 (.row 50 (.box 88 (.cons (.dat Yq2) (.cons (.box 120 (.one (.row 3 (.dat Yq2)))) (.one (.box 116 (.cons (.dat Yq2) (.one (.row 113 (.dat Yq7)))))))))),bkC 24 88 [.is 2 (.any),.od (.box 120 (.one (.row 3 (.dat Yq2)))),.od (.box 116 (.cons (.dat Yq2) (.one (.row 113 (.dat Yq7)))))],bkU 30]⟩ (.tw 96 (.opn 17 100 (.wt 103 (.opb 45 38 (.wt 1000049 (.mc 45 0 46 (.cl fY [] (.cls 17 44 .nil))))))) .nil)) .nil))))) .nil)) .nil)))))))))
def K6:Spec:=⟨8,⟨[(0,.dat Yq1),(1,.nilp)],[]⟩,[⟨[(0,.od (.row 50 (.box 88 (.cons (.dat Yq2) (.cons (.box 120 (.one (.row 3 (.dat Yq2)))) (.one (.box 116 (.cons (.dat Yq2) (.one (.row 113 (.dat Yq7)))))))))))],[]⟩],fun x=>mb x⟩
def NL:OkSpec Tryz.prog:=⟨K6,ab func8 LJ (by kernel_rfl) (by kernel_rfl),call8⟩

def sN (xa:(Option Tq2)):Option Unit :=
 some (())
def Ni:Hn Tryz.prog := .nil
def JW:Spec:=⟨41,⟨[(0,.is 0 (.dat nB))],[bkM]⟩,[⟨[(0,.fn 68 [.ptr 0 0])],[bkN 50 [.is 1 (.any)],bkU 0]⟩],fun x=>sN x⟩
def L9:OkSpec Tryz.prog:=⟨JW,ab func41 Ni (by kernel_rfl) (by kernel_rfl),call41⟩

def sL (xa:aE):Option Unit :=
 some (())
def MM:Hn Tryz.prog := .nil
def LB:Spec:=⟨56,⟨[(0,.is 0 (.dat (.ptr (.one (.sl Yq2)))))],[bkM]⟩,[⟨[(0,.fn 89 [.ptr 0 0])],[bkN 85 [.is 1 (.any)],bkU 0]⟩],fun x=>sL x⟩
def J6:OkSpec Tryz.prog:=⟨LB,ab func56 MM (by kernel_rfl) (by kernel_rfl),call56⟩

def sK (xa:(Option Tq2)):Option ((Tq5⊕aE)) :=
 (dN xa).bind fun t1=>cond (t1) (xa.bind fun y2=>(iZ y2.2.2).bind fun _=>some (.inl y2.2.2)) (cond (xa.isNone) ((gU ([])).bind fun l3=>(dM l3).bind fun l4=>some (.inr (some l4))) (xa.bind fun y5=>(sL y5.2.1).bind fun _=>some (.inr y5.2.1)))
def NZ:Hn Tryz.prog := .cl iF [] (.tw 4 (.ms 8 (.cl BI [] .nil)) (.tw 11 (.cl vQ [] (.cl j7 [] (.per 8 9 (.perb 0 10 (.one (.sl Yq2)) (.pl .nil))))) (.ms 17 (.cl J6 [] (.pl .nil)))))
def Ml:Spec:=⟨69,⟨[(0,.dat nB)],[]⟩,[⟨[(0,.fn 122 [.ptr 0 0])],[bkN 86 [.dat Yq9]]⟩,⟨[(0,.fn 89 [.ptr 0 0])],[bkN 85 [.dat (.ptr (.one (.sl Yq2)))]]⟩],fun x=>sK x⟩
def NA:OkSpec Tryz.prog:=⟨Ml,ab func69 NZ (by kernel_rfl) (by kernel_rfl),call69⟩
def n4 (p1:Tq5):bA→Option (bA⊕(List Int)):=fun (i2,l3)=>cond (decide (0≤i2)) ((app l3 ([i2]:List Int)).bind fun z4=>(cD p1 (IntKind.wrap .i64 (i2 + 1))).bind fun i5=>some (.inl (i5,z4))) (some (.inr (l3)))
def kQ (p1:aE):gC→Option (gC⊕(List Int)):=fun (i2,t3,l4)=>cond (t3) ((app l4 ([i2]:List Int)).bind fun z5=>(bQ p1 (IntKind.wrap .i64 (i2 + 1))).bind fun i6=>(bv p1 i6).bind fun (i7,t8)=>some (.inl (i7,t8,z5))) (some (.inr (l4)))
def cR (xa:(Option Tq2)):Option (List Int) :=
 (sN xa).bind fun _=>(sK xa).bind fun o=>match o with | .inl p1=>(cD p1 0).bind fun i2=>(loop (n4 p1) (i2,[])).bind fun l3=>some (l3) | .inr p4=>(bv p4 0).bind fun (i5,t6)=>(loop (kQ p4) (i5,t6,[])).bind fun l7=>some (l7)
def JV:Hn Tryz.prog := .ms 5 (.cl L9 [] (.rg ⟨68,_,func68,call68⟩ (.c2 NA [] (.rg ⟨122,_,func122,call122⟩ (.cl j9 [] (.jn [] ⟨[],[bkC 0 48 [.own 3 Yq2],⟨(some 5),0,[],false,false,none,true⟩,⟨(some 10),0,[],false,false,none,true⟩]⟩ [10,5,0] (.lp ⟨[kdI 3],[bkC 0 48 [.own 3 Yq2],⟨(some 5),0,[],false,false,none,true⟩,⟨(some 10),0,[],false,false,none,true⟩]⟩ (.tw 7 (.yl 2 (.pl (.yl 2 (.cl j9 [] .nil)))) .nil)) .nil))) (.rg ⟨89,_,func89,call89⟩ (.cl cL [] (.jn [] ⟨[],[bkC 0 48 [.own 3 Yq2],⟨(some 5),0,[],false,false,none,true⟩,⟨(some 10),0,[],false,false,none,true⟩]⟩ [10,5,0] (.lp ⟨[kdI 3,kdB 4],[bkC 0 48 [.own 3 Yq2],⟨(some 5),0,[],false,false,none,true⟩,⟨(some 10),0,[],false,false,none,true⟩]⟩ (.tw 10 (.yl 2 (.pl (.yl 2 (.mix [([0,1,2,3],4),([],5)] [6,7,8,9,10] [] [] (.cl cW [] (.cl cL [] .nil)))))) .nil)) .nil))))))
def KC:Spec:=⟨18,⟨[(0,.dat nB)],[]⟩,[⟨[(0,.own 3 Yq2)],[]⟩],fun x=>cR x⟩
def ed:OkSpec Tryz.prog:=⟨KC,ab func18 JV (by kernel_rfl) (by kernel_rfl),call18⟩
def oE (xa:(List Int)) (xb:(List Int)):Int→Option (Int⊕(Unit⊕Bool)):=fun i1=>cond (decide (i1 < (xa.length:Int))) ((aa xa i1).bind fun x2=>(aa xb i1).bind fun x3=>cond (!decide (x2=x3)) (some (.inr ((.inr (false))))) (some (.inl (IntKind.wrap .i64 (i1 + 1))))) (some (.inr ((.inl ()))))
def bh (xa:(List Int)) (xb:(List Int)):Option Bool :=
 cond (!decide ((xa.length:Int)=(xb.length:Int))) (some (false)) ((loop (oE xa xb) 0).bind fun o=>match o with | .inr r=>some r | .inl ()=>some (true))
def Jq:Hn Tryz.prog := .tw 10 .nil (.jx [] ⟨[],[]⟩ [] (.lp ⟨[kdI 5],[]⟩ (.tw 14 (.mix [] [0,1,2,3,4,5,6,7,8] [] [] (.tw 25 .nil .nil)) .nil)) .nil)
def Mu:Spec:=⟨17,⟨[(0,.dat (.sl Yq2)),(1,.dat (.sl Yq2))],[]⟩,[⟨[kdB 0],[]⟩],fun x=>bh x.1 x.2⟩
def bU:OkSpec Tryz.prog:=⟨Mu,ab func17 Jq (by kernel_rfl) (by kernel_rfl),call17⟩

def eE (xa:Tq1):Option Int :=
 (dw xa).bind fun p21=>(dp p21).bind fun i29=>cond (decide (i29=0)) (some (0)) (some (IntKind.wrap .i64 (i29 + xa.1)))
def MZ:Hn Tryz.prog := .cl rU [] (.cl kl [] (.tw 8 .nil .nil))
def Mp:Spec:=⟨14,⟨[(0,.dat Yq1)],[]⟩,[⟨[kdI 0],[]⟩],fun x=>eE x⟩
def vG:OkSpec Tryz.prog:=⟨Mp,ab func14 MZ (by kernel_rfl) (by kernel_rfl),call14⟩

def bf  : Option Bool :=
 (mb ((1,2,[],([([(1,false)]:List ba)]:List Tq3),([(0,false)]:List ba),[],([([],(3,0,0,[],[],[]))]:List ((List Tq6)×Tq9))))).bind fun l1=>(cond (decide ((l1.length:Int)=2)) ((aa l1 0).bind fun x2=>(cR x2).bind fun l3=>(bh l3 ([0,1]:List Int)).bind fun t4=>some (t4)) (some (false))).bind fun t5=>(cond (t5) ((aa l1 1).bind fun x6=>(cR x6).bind fun l7=>(bh l7 ([0]:List Int)).bind fun t8=>some (t8)) (some (false))).bind fun t9=>(cond (t9) ((eE ((1,2,[],([([(1,false)]:List ba)]:List Tq3),([(0,false)]:List ba),[],([([],(3,0,0,[],[],[]))]:List ((List Tq6)×Tq9))))).bind fun i10=>some (decide (i10=2))) (some (false))).bind fun t11=>some (t11)
def DB:Hn Tryz.prog := .per 0 1 (.cl NL [2,4,6] (.per 11 12 (.gj 6 ⟨[kdB 26],[]⟩ [] (.two 19 (.cl ed [] (.cl bU [13,15] .nil)) .nil) (.wt 27 (.gj 6 ⟨[kdB 34],[]⟩ [] (.two 27 (.cl ed [] (.cl bU [13,15] .nil)) .nil) (.wt 35 (.gj 3 ⟨[kdB 39],[]⟩ [] (.two 35 (.cl vG [2,4,6] .nil) .nil) .nil)))))))
def wQ:Spec:=⟨7,⟨[],[]⟩,[⟨[kdB 0],[]⟩],fun x=>bf⟩
theorem Dl:dh Tryz.prog wQ:=ab func7 DB (by kernel_rfl) (by kernel_rfl)
def bR:OkSpec Tryz.prog:=⟨wQ,Dl,call7⟩

def dP (xa:Int):Option Bool :=
 some ((decide (0≤xa))&&(decide (xa < 7)))
def Ls:Hn Tryz.prog := .gp 2 .nil
def LH:Spec:=⟨39,⟨[kdI 0],[]⟩,[⟨[kdB 0],[]⟩],fun x=>dP x⟩
def fW:OkSpec Tryz.prog:=⟨LH,ab func39 Ls (by kernel_rfl) (by kernel_rfl),call39⟩

def cx (xa:Int) (xb:Int):Option Int :=
 cond (decide ((IntKind.wrap .i64 (9223372036854775807 - xb)) < xa)) (some (9223372036854775807)) (some (IntKind.wrap .i64 (xa + xb)))
def Nq:Hn Tryz.prog := .tw 8 .nil .nil
def MY:Spec:=⟨38,⟨[kdI 0,kdI 1],[]⟩,[⟨[kdI 0],[]⟩],fun x=>cx x.1 x.2⟩
def fT:OkSpec Tryz.prog:=⟨MY,ab func38 Nq (by kernel_rfl) (by kernel_rfl),call38⟩

def fj (xc:Int) (qa0:Int) (qa1:Int) (qa2:Int) (qa3:Int) (qa4:Int) (qa5:Int) (qa6:Int):Option Int :=
 (dP 2).bind fun t37=>cond (t37&&(decide (0≤xc))) ((cx qa2 xc).bind fun i65=>some (i65)) (some (qa2))
def MJ:Hn Tryz.prog := .cl fW [] (.wt 12 (.gp 2 (.tw 15 (.mix [([0,1,2,3,4,5,6,7,8,10,11],9)] [12] [13] [] (.cl fT [] .nil)) .nil)))
def No:Spec:=⟨26,⟨[(0,.ptr 0 0),(1,.lit (.int .i64 2)),kdI 2],[bkN 35 [.is 1 (.dat Yq2),.is 2 (.dat Yq2),.dat Yq2,.is 3 (.dat Yq2),.is 4 (.dat Yq2),.is 5 (.dat Yq2),.is 6 (.dat Yq2)],bkM,bkM,bkM,bkM,bkM,bkM]⟩,[⟨[],[bkC 0 35 [.is 1 (.any),.is 2 (.any),.dat Yq2,.is 3 (.any),.is 4 (.any),.is 5 (.any),.is 6 (.any)],bkU 1,bkU 2,bkU 3,bkU 4,bkU 5,bkU 6]⟩],fun x=>fj x.1 x.2.1 x.2.2.1 x.2.2.2.1 x.2.2.2.2.1 x.2.2.2.2.2.1 x.2.2.2.2.2.2.1 x.2.2.2.2.2.2.2⟩
def rq:OkSpec Tryz.prog:=⟨No,ab func26 MJ (by kernel_rfl) (by kernel_rfl),call26⟩
def kJ (qa0:Int) (qa1:Int) (qa3:Int) (qa4:Int) (qa5:Int) (qa6:Int) (p2:(Option gl)) (l7:aL) (z8:List Tq5):(Int×Int×(List Tq5))→Option ((Int×Int×(List Tq5))⊕cO):=fun (i9,i10,l11)=>cond (decide (i9 < (z8.length:Int))) ((kR p2 i9).bind fun (l12,l13)=>cond (decide (0 < (l12.length:Int))) ((aa l11 i9).bind fun x14=>(lN l7 l12 l13).bind fun o=>match o with | .inl _=>(aa l11 i9).bind fun _=>(ay i9 i9).bind fun _=>(aa (l11.set i9.toNat none) i9).bind fun x15=>(aa (l11.set i9.toNat none) i9).bind fun _=>(ay i9 i9).bind fun _=>(gK x15).bind fun i16=>(fj i16 qa0 qa1 i10 qa3 qa4 qa5 qa6).bind fun i17=>some (.inl ((IntKind.wrap .i64 (i9 + 1),i17,(l11.set i9.toNat none).set i9.toNat x15))) | .inr (i18,l19)=>(aa l11 i9).bind fun _=>(ay i9 i9).bind fun _=>(aa (l11.set i9.toNat (some (i18,l19))) i9).bind fun x20=>(aa (l11.set i9.toNat (some (i18,l19))) i9).bind fun _=>(ay i9 i9).bind fun _=>(gK x20).bind fun i21=>(fj i21 qa0 qa1 i10 qa3 qa4 qa5 qa6).bind fun i22=>some (.inl ((IntKind.wrap .i64 (i9 + 1),i22,(l11.set i9.toNat (some (i18,l19))).set i9.toNat x20)))) (some (.inl ((IntKind.wrap .i64 (i9 + 1),i10,l11))))) (some (.inr (((i10,l11)))))
def kL (xa:Tq1) (qa0:Int) (qa1:Int) (qa2:Int) (qa3:Int) (qa4:Int) (qa5:Int) (qa6:Int):Option (((Option cO)×Int)) :=
 (gT xa).bind fun p7=>(n5 p7).bind fun i8=>cond (decide (i8=0)) (some (((some (i8,[])),qa2))) ((fj i8 qa0 qa1 qa2 qa3 qa4 qa5 qa6).bind fun i9=>(gZ xa).bind fun p10=>(mg p10 i8).bind fun l11=>(mk (xa.2.2.2.1.length:Int) (xa.2.2.2.1.length:Int) none:Option (List Tq5)).bind fun z12=>(loop (kJ qa0 qa1 qa3 qa4 qa5 qa6 p7 l11 z12) (0,i9,z12)).bind fun (i13,l14)=>some (((some (i8,l14)),i13)))
def JS:Hn Tryz.prog := .cl Cf [] (.cl BU [] (.tw 21 (.perb 10 11 eX .nil) (.cl rq [] (.mix [([0,2,3,4,5],1)] [] [6,7] [] (.cl B0 [] (.cl BZ [] (.ot (.box 116 (.cons (.dat Yq2) (.one (.row 113 (.dat Yq7))))) (.per 14 15 (.jn [] ⟨[],[bkC 0 35 [.is 2 (.any),.is 3 (.any),.dat Yq2,.is 4 (.any),.is 5 (.any),.is 6 (.any),.is 7 (.any)],bkO 16 (.row 86 (.box 116 (.cons (.dat Yq2) (.one (.row 113 (.dat Yq7)))))),bkU 1,bkU 2,bkU 3,bkU 4,bkU 5,bkU 6]⟩ [16,0,8] (.lp ⟨[kdI 48],[bkC 0 35 [.is 2 (.any),.is 3 (.any),.dat Yq2,.is 4 (.any),.is 5 (.any),.is 6 (.any),.is 7 (.any)],bkO 16 (.row 86 (.box 116 (.cons (.dat Yq2) (.one (.row 113 (.dat Yq7)))))),bkU 1,bkU 2,bkU 3,bkU 4,bkU 5,bkU 6]⟩ (.tw 49 (.cl Cb [] (.tw 59 (.opp [4] 16 64 (.mix [([0,1,2,3,4,5,6,7],8)] [9] [10] [23,21] (.per 21 22 (.per 23 24 (.c2 B8 [] (.cls 16 27 (.opn 16 75 (.cl rf [30] (.cl rq [] (.cls 16 29 .nil))))) (.cls 16 31 (.opn 16 75 (.cl rf [34] (.cl rq [] (.cls 16 33 .nil)))))))))) .nil)) .nil)) (.per 16 20 (.perb 10 18 eX .nil)))))))))))
def Kf:Spec:=⟨24,⟨[(0,.dat Yq1),(1,.ptr 0 0)],[bkN 35 [.is 1 (.dat Yq2),.is 2 (.dat Yq2),.dat Yq2,.is 3 (.dat Yq2),.is 4 (.dat Yq2),.is 5 (.dat Yq2),.is 6 (.dat Yq2)],bkM,bkM,bkM,bkM,bkM,bkM]⟩,[⟨[(0,.dat (.ptr eX))],[bkC 0 35 [.is 1 (.any),.is 2 (.any),.dat Yq2,.is 3 (.any),.is 4 (.any),.is 5 (.any),.is 6 (.any)],bkU 1,bkU 2,bkU 3,bkU 4,bkU 5,bkU 6]⟩],fun x=>kL x.1 x.2.1 x.2.2.1 x.2.2.2.1 x.2.2.2.2.1 x.2.2.2.2.2.1 x.2.2.2.2.2.2.1 x.2.2.2.2.2.2.2⟩
def Na:OkSpec Tryz.prog:=⟨Kf,ab func24 JS (by kernel_rfl) (by kernel_rfl),call24⟩
def Cw (xa:Tq1) (i1:Int) (z2:List (Option Tq2)):bF→Option (bF⊕Tq8):=fun (i3,l4)=>cond (decide (i3 < (z2.length:Int))) ((aa l4 i3).bind fun x5=>(cF (IntKind.wrap .i64 (i1 + xa.1))).bind fun o=>match o with | .inl _=>(aa l4 i3).bind fun _=>(ay i3 i3).bind fun _=>cond (decide (i3 < xa.1)) ((aa (l4.set i3.toNat none) i3).bind fun x6=>(aa (l4.set i3.toNat none) i3).bind fun _=>(ay i3 i3).bind fun _=>(x6).bind fun y7=>(eC y7.1 y7.2.1 y7.2.2).bind fun (t8,l9,l10)=>(aa ((l4.set i3.toNat none).set i3.toNat (some (y7.1,l9,l10))) i3).bind fun x11=>(aa ((l4.set i3.toNat none).set i3.toNat (some (y7.1,l9,l10))) i3).bind fun _=>(ay i3 i3).bind fun _=>(x11).bind fun y12=>(bJ (IntKind.wrap .i64 (i1 + i3)) y12.1 y12.2.1 y12.2.2).bind fun (t13,l14,l15)=>some (.inl ((IntKind.wrap .i64 (i3 + 1),((l4.set i3.toNat none).set i3.toNat (some (y7.1,l9,l10))).set i3.toNat (some (y12.1,l14,l15)))))) (some (.inl ((IntKind.wrap .i64 (i3 + 1),l4.set i3.toNat none)))) | .inr (i16,l17)=>(aa l4 i3).bind fun _=>(ay i3 i3).bind fun _=>cond (decide (i3 < xa.1)) ((aa (l4.set i3.toNat (some (i16,l17,none))) i3).bind fun x18=>(aa (l4.set i3.toNat (some (i16,l17,none))) i3).bind fun _=>(ay i3 i3).bind fun _=>(x18).bind fun y19=>(eC y19.1 y19.2.1 y19.2.2).bind fun (t20,l21,l22)=>(aa ((l4.set i3.toNat (some (i16,l17,none))).set i3.toNat (some (y19.1,l21,l22))) i3).bind fun x23=>(aa ((l4.set i3.toNat (some (i16,l17,none))).set i3.toNat (some (y19.1,l21,l22))) i3).bind fun _=>(ay i3 i3).bind fun _=>(x23).bind fun y24=>(bJ (IntKind.wrap .i64 (i1 + i3)) y24.1 y24.2.1 y24.2.2).bind fun (t25,l26,l27)=>some (.inl ((IntKind.wrap .i64 (i3 + 1),((l4.set i3.toNat (some (i16,l17,none))).set i3.toNat (some (y19.1,l21,l22))).set i3.toNat (some (y24.1,l26,l27)))))) (some (.inl ((IntKind.wrap .i64 (i3 + 1),l4.set i3.toNat (some (i16,l17,none))))))) (some (.inr (l4)))
def Cv (l1:(List Int)):Int→Option (Int⊕Unit):=fun i2=>cond (decide (i2 < (l1.length:Int))) ((aa l1 i2).bind fun x3=>(gI x3).bind fun t4=>some (.inl (IntKind.wrap .i64 (i2 + 1)))) (some (.inr ((()))))
def CA (l1:(List Int)):bF→Option (bF⊕Tq8):=fun (i2,l3)=>cond (decide (i2 < (l1.length:Int))) ((aa l1 i2).bind fun x4=>(aa l3 x4).bind fun x5=>(aa l3 x4).bind fun _=>(ay x4 x4).bind fun _=>(x5).bind fun y6=>(eC y6.1 y6.2.1 y6.2.2).bind fun (t7,l8,l9)=>some (.inl ((IntKind.wrap .i64 (i2 + 1),l3.set x4.toNat (some (y6.1,l8,l9)))))) (some (.inr (l3)))
def CC (i1:Int) (l2:(List Int)):Tq2→Option (Tq2⊕(aE×Tq5)):=fun (i3,l4,l5)=>cond (decide (i3 < (l2.length:Int))) ((aa l2 i3).bind fun x6=>(bJ x6 i1 l4 l5).bind fun (t7,l8,l9)=>some (.inl ((IntKind.wrap .i64 (i3 + 1),l8,l9)))) (some (.inr (((l4,l5)))))
def Cz (i1:Int) (l2:(List Int)):gm→Option (gm⊕Tq8):=fun (i3,l4,l5,l6)=>cond (decide (i3 < (l2.length:Int))) ((aa l2 i3).bind fun x7=>(aa l4 x7).bind fun x8=>(aa l4 x7).bind fun _=>(ay x7 x7).bind fun _=>(x8).bind fun y9=>(da y9.1 y9.2.1 y9.2.2 i1 l5 l6).bind fun (t10,l11,l12,l13,l14)=>some (.inl ((IntKind.wrap .i64 (i3 + 1),l4.set x7.toNat (some (y9.1,l11,l12)),l13,l14)))) (some (.inr (l4)))
def Cy (xa:Tq1) (p1:(Option cO)) (i2:Int):bF→Option (bF⊕Tq8):=fun (i3,l4)=>cond (decide (i3 < (xa.2.2.2.1.length:Int))) ((aa xa.2.2.2.1 i3).bind fun x5=>(cF (IntKind.wrap .i64 (i2 + xa.1))).bind fun o=>match o with | .inl _=>(cQ p1 i3).bind fun l6=>(loop (Cv l6) 0).bind fun ()=>(du x5).bind fun l7=>(loop (CA l7) (0,l4)).bind fun l8=>some (.inl ((IntKind.wrap .i64 (i3 + 1),l8))) | .inr (i9,l10)=>(cQ p1 i3).bind fun l11=>(loop (CC i9 l11) (0,l10,none)).bind fun (l12,l13)=>(du x5).bind fun l14=>(loop (Cz i9 l14) (0,l4,l12,l13)).bind fun l15=>some (.inl ((IntKind.wrap .i64 (i3 + 1),l15)))) (some (.inr (l4)))
def wC (xa:Tq1) (i1:Int) (i2:Int) (z3:List (Option Tq2)):(Int×aE×Tq5×Tq8)→Option ((Int×aE×Tq5×Tq8)⊕Tq8):=fun (i4,l5,l6,l7)=>cond (decide (i4 < (z3.length:Int))) ((aa l7 i4).bind fun x8=>(cF (IntKind.wrap .i64 (i1 + xa.1))).bind fun o=>match o with | .inl _=>(aa l7 i4).bind fun _=>(ay i4 i4).bind fun _=>cond (decide (i4 < xa.1)) ((aa (l7.set i4.toNat none) i4).bind fun x9=>(aa (l7.set i4.toNat none) i4).bind fun _=>(ay i4 i4).bind fun _=>(x9).bind fun y10=>(da y10.1 y10.2.1 y10.2.2 i2 l5 l6).bind fun (t11,l12,l13,l14,l15)=>(aa ((l7.set i4.toNat none).set i4.toNat (some (y10.1,l12,l13))) i4).bind fun x16=>(aa ((l7.set i4.toNat none).set i4.toNat (some (y10.1,l12,l13))) i4).bind fun _=>(ay i4 i4).bind fun _=>(x16).bind fun y17=>(bJ (IntKind.wrap .i64 (i1 + i4)) y17.1 y17.2.1 y17.2.2).bind fun (t18,l19,l20)=>some (.inl ((IntKind.wrap .i64 (i4 + 1),l14,l15,((l7.set i4.toNat none).set i4.toNat (some (y10.1,l12,l13))).set i4.toNat (some (y17.1,l19,l20)))))) (some (.inl ((IntKind.wrap .i64 (i4 + 1),l5,l6,l7.set i4.toNat none)))) | .inr (i21,l22)=>(aa l7 i4).bind fun _=>(ay i4 i4).bind fun _=>cond (decide (i4 < xa.1)) ((aa (l7.set i4.toNat (some (i21,l22,none))) i4).bind fun x23=>(aa (l7.set i4.toNat (some (i21,l22,none))) i4).bind fun _=>(ay i4 i4).bind fun _=>(x23).bind fun y24=>(da y24.1 y24.2.1 y24.2.2 i2 l5 l6).bind fun (t25,l26,l27,l28,l29)=>(aa ((l7.set i4.toNat (some (i21,l22,none))).set i4.toNat (some (y24.1,l26,l27))) i4).bind fun x30=>(aa ((l7.set i4.toNat (some (i21,l22,none))).set i4.toNat (some (y24.1,l26,l27))) i4).bind fun _=>(ay i4 i4).bind fun _=>(x30).bind fun y31=>(bJ (IntKind.wrap .i64 (i1 + i4)) y31.1 y31.2.1 y31.2.2).bind fun (t32,l33,l34)=>some (.inl ((IntKind.wrap .i64 (i4 + 1),l28,l29,((l7.set i4.toNat (some (i21,l22,none))).set i4.toNat (some (y24.1,l26,l27))).set i4.toNat (some (y31.1,l33,l34)))))) (some (.inl ((IntKind.wrap .i64 (i4 + 1),l5,l6,l7.set i4.toNat (some (i21,l22,none))))))) (some (.inr (l7)))
def CB (l1:(List Int)):Int→Option (Int⊕Unit):=fun i2=>cond (decide (i2 < (l1.length:Int))) ((aa l1 i2).bind fun x3=>(gI x3).bind fun t4=>some (.inl (IntKind.wrap .i64 (i2 + 1)))) (some (.inr ((()))))
def Cx (l1:(List Int)):bF→Option (bF⊕Tq8):=fun (i2,l3)=>cond (decide (i2 < (l1.length:Int))) ((aa l1 i2).bind fun x4=>(aa l3 x4).bind fun x5=>(aa l3 x4).bind fun _=>(ay x4 x4).bind fun _=>(x5).bind fun y6=>(eC y6.1 y6.2.1 y6.2.2).bind fun (t7,l8,l9)=>some (.inl ((IntKind.wrap .i64 (i2 + 1),l3.set x4.toNat (some (y6.1,l8,l9)))))) (some (.inr (l3)))
def Cu (i1:Int) (l2:(List Int)):Tq2→Option (Tq2⊕(aE×Tq5)):=fun (i3,l4,l5)=>cond (decide (i3 < (l2.length:Int))) ((aa l2 i3).bind fun x6=>(bJ x6 i1 l4 l5).bind fun (t7,l8,l9)=>some (.inl ((IntKind.wrap .i64 (i3 + 1),l8,l9)))) (some (.inr (((l4,l5)))))
def Ct (i1:Int) (l2:(List Int)):gm→Option (gm⊕Tq8):=fun (i3,l4,l5,l6)=>cond (decide (i3 < (l2.length:Int))) ((aa l2 i3).bind fun x7=>(aa l4 x7).bind fun x8=>(aa l4 x7).bind fun _=>(ay x7 x7).bind fun _=>(x8).bind fun y9=>(da y9.1 y9.2.1 y9.2.2 i1 l5 l6).bind fun (t10,l11,l12,l13,l14)=>some (.inl ((IntKind.wrap .i64 (i3 + 1),l4.set x7.toNat (some (y9.1,l11,l12)),l13,l14)))) (some (.inr (l4)))
def wB (xa:Tq1) (p1:(Option cO)) (i2:Int):bF→Option (bF⊕Tq8):=fun (i3,l4)=>cond (decide (i3 < (xa.2.2.2.1.length:Int))) ((aa xa.2.2.2.1 i3).bind fun x5=>(cF (IntKind.wrap .i64 (i2 + xa.1))).bind fun o=>match o with | .inl _=>(cQ p1 i3).bind fun l6=>(loop (CB l6) 0).bind fun ()=>(du x5).bind fun l7=>(loop (Cx l7) (0,l4)).bind fun l8=>some (.inl ((IntKind.wrap .i64 (i3 + 1),l8))) | .inr (i9,l10)=>(cQ p1 i3).bind fun l11=>(loop (Cu i9 l11) (0,l10,none)).bind fun (l12,l13)=>(du x5).bind fun l14=>(loop (Ct i9 l14) (0,l4,l12,l13)).bind fun l15=>some (.inl ((IntKind.wrap .i64 (i3 + 1),l15)))) (some (.inr (l4)))
def kK (xa:Tq1) (qa0:Int) (qa1:Int) (qa2:Int) (qa3:Int) (qa4:Int) (qa5:Int) (qa6:Int):Option ((Tq8×Int)) :=
 (kL xa qa0 qa1 qa2 qa3 qa4 qa5 qa6).bind fun (p7,i8)=>(eD p7).bind fun i9=>cond (decide (i9=0)) (some (([],i8))) ((fj xa.2.1 qa0 qa1 i8 qa3 qa4 qa5 qa6).bind fun i10=>(cF (IntKind.wrap .i64 (i9 + xa.1))).bind fun o=>match o with | .inl _=>(nV 0 i9).bind fun _=>(mk xa.2.1 xa.2.1 none:Option Tq8).bind fun z11=>(loop (Cw xa i9 z11) (0,z11)).bind fun l12=>(loop (Cy xa p7 i9) (0,l12)).bind fun l13=>some ((l13,i10)) | .inr (i14,l15)=>(gG 0 i9 i14 l15 none).bind fun (l16,l17)=>(mk xa.2.1 xa.2.1 none:Option Tq8).bind fun z18=>(loop (wC xa i9 i14 z18) (0,l16,l17,z18)).bind fun l19=>(loop (wB xa p7 i9) (0,l19)).bind fun l20=>some ((l20,i10)))
def Kc:Hn Tryz.prog := .cl Na [] (.cl kc [] (.tw 24 .nil (.cl rq [] (.c2 dF [] (.cl vL [] (.ot (.box 88 (.cons (.dat Yq2) (.cons (.box 120 (.one (.row 3 (.dat Yq2)))) (.one (.box 116 (.cons (.dat Yq2) (.one (.row 113 (.dat Yq7))))))))) (.jn [] ⟨[],[bkO 14 (.row 50 (.box 88 (.cons (.dat Yq2) (.cons (.box 120 (.one (.row 3 (.dat Yq2)))) (.one (.box 116 (.cons (.dat Yq2) (.one (.row 113 (.dat Yq7))))))))))]⟩ [14] (.lp ⟨[kdI 43],[bkO 14 (.row 50 (.box 88 (.cons (.dat Yq2) (.cons (.box 120 (.one (.row 3 (.dat Yq2)))) (.one (.box 116 (.cons (.dat Yq2) (.one (.row 113 (.dat Yq7))))))))))]⟩ (.tw 44 (.opn 14 47 (.c2 dF [] (.cls 14 19 (.tw 54 (.opn 14 56 (.wt 59 (.opb 22 20 (.wt 1000026 (.mc 22 0 23 (.cl fU [] (.cls 14 21 (.opn 14 62 (.wt 67 (.opb 39 37 (.wt 1000043 (.mc 39 0 40 (.cl cB [] (.cls 14 38 .nil)))))))))))))) .nil)) (.cls 14 23 (.tw 54 (.opn 14 56 (.wt 59 (.opb 26 24 (.wt 1000030 (.mc 26 0 27 (.cl fU [] (.cls 14 25 (.opn 14 62 (.wt 67 (.opb 43 41 (.wt 1000047 (.mc 43 0 44 (.cl cB [] (.cls 14 42 .nil)))))))))))))) .nil)))) .nil)) (.jn [] ⟨[],[bkO 14 (.row 50 (.box 88 (.cons (.dat Yq2) (.cons (.box 120 (.one (.row 3 (.dat Yq2)))) (.one (.box 116 (.cons (.dat Yq2) (.one (.row 113 (.dat Yq7))))))))))]⟩ [8,14] (.lp ⟨[kdI 73],[bkO 14 (.row 50 (.box 88 (.cons (.dat Yq2) (.cons (.box 120 (.one (.row 3 (.dat Yq2)))) (.one (.box 116 (.cons (.dat Yq2) (.one (.row 113 (.dat Yq7))))))))))]⟩ (.tw 74 (.c2 dF [] (.cl ec [] (.jn [] ⟨[],[]⟩ [] (.lp ⟨[kdI 84],[]⟩ (.tw 85 (.cl ka [] .nil) .nil)) (.cl fX [] (.jn [] ⟨[],[bkO 14 (.row 50 (.box 88 (.cons (.dat Yq2) (.cons (.box 120 (.one (.row 3 (.dat Yq2)))) (.one (.box 116 (.cons (.dat Yq2) (.one (.row 113 (.dat Yq7))))))))))]⟩ [14,18,21] (.lp ⟨[kdI 95],[bkO 14 (.row 50 (.box 88 (.cons (.dat Yq2) (.cons (.box 120 (.one (.row 3 (.dat Yq2)))) (.one (.box 116 (.cons (.dat Yq2) (.one (.row 113 (.dat Yq7))))))))))]⟩ (.tw 96 (.opn 14 100 (.wt 103 (.opb 27 25 (.wt 1000031 (.mc 27 0 28 (.cl fU [] (.cls 14 26 .nil))))))) .nil)) .nil)))) (.cl ec [] (.jn [(21,0)] ⟨[],[bkC 21 88 [.is 1 (.any),.od (.box 120 (.one (.row 3 (.dat Yq2)))),.od (.box 116 (.cons (.dat Yq2) (.one (.row 113 (.dat Yq7)))))],bkU 27]⟩ [21,22] (.lp ⟨[kdI 84],[bkC 21 88 [.is 1 (.any),.od (.box 120 (.one (.row 3 (.dat Yq2)))),.od (.box 116 (.cons (.dat Yq2) (.one (.row 113 (.dat Yq7)))))],bkU 27]⟩ (.tw 85 (.cl cB [] .nil) .nil)) (.cl fX [] (.jn [] ⟨[],[bkO 14 (.row 50 (.box 88 (.cons (.dat Yq2) (.cons (.box 120 (.one (.row 3 (.dat Yq2)))) (.one (.box 116 (.cons (.dat Yq2) (.one (.row 113 (.dat Yq7))))))))))]⟩ [14,18,21,28,30,25] (.lp ⟨[kdI 95],[bkO 14 (.row 50 (.box 88 (.cons (.dat Yq2) (.cons (.box 120 (.one (.row 3 (.dat Yq2)))) (.one (.box 116 (.cons (.dat Yq2) (.one (.row 113 (.dat Yq7)))))))))),bkC 21 88 [.is 2 (.any),.od (.box 120 (.one (.row 3 (.dat Yq2)))),.od (.box 116 (.cons (.dat Yq2) (.one (.row 113 (.dat Yq7)))))],bkU 27]⟩ (.tw 96 (.opn 14 100 (.wt 103 (.opb 42 35 (.wt 1000046 (.mc 42 0 43 (.cl fY [] (.cls 14 41 .nil))))))) .nil)) .nil))))) .nil)) .nil)))) (.mc 14 0 17 (.cl vN [] (.ot (.box 88 (.cons (.dat Yq2) (.cons (.box 120 (.one (.row 3 (.dat Yq2)))) (.one (.box 116 (.cons (.dat Yq2) (.one (.row 113 (.dat Yq7))))))))) (.jn [] ⟨[],[bkO 29 (.row 50 (.box 88 (.cons (.dat Yq2) (.cons (.box 120 (.one (.row 3 (.dat Yq2)))) (.one (.box 116 (.cons (.dat Yq2) (.one (.row 113 (.dat Yq7))))))))))]⟩ [29,14,24,26] (.lp ⟨[kdI 43],[bkC 14 88 [.is 2 (.any),.od (.box 120 (.one (.row 3 (.dat Yq2)))),.od (.box 116 (.cons (.dat Yq2) (.one (.row 113 (.dat Yq7)))))],bkO 29 (.row 50 (.box 88 (.cons (.dat Yq2) (.cons (.box 120 (.one (.row 3 (.dat Yq2)))) (.one (.box 116 (.cons (.dat Yq2) (.one (.row 113 (.dat Yq7)))))))))),bkU 18]⟩ (.tw 44 (.opn 29 47 (.c2 dF [] (.cls 29 39 (.tw 54 (.opn 29 56 (.wt 59 (.opb 42 40 (.wt 1000046 (.mc 42 0 43 (.cl fY [] (.cls 29 41 (.opn 29 62 (.wt 67 (.opb 69 67 (.wt 1000073 (.mc 69 0 70 (.cl cB [] (.cls 29 68 .nil)))))))))))))) .nil)) (.cls 29 43 (.tw 54 (.opn 29 56 (.wt 59 (.opb 46 44 (.wt 1000050 (.mc 46 0 47 (.cl fY [] (.cls 29 45 (.opn 29 62 (.wt 67 (.opb 73 71 (.wt 1000077 (.mc 73 0 74 (.cl cB [] (.cls 29 72 .nil)))))))))))))) .nil)))) .nil)) (.jn [] ⟨[],[bkO 29 (.row 50 (.box 88 (.cons (.dat Yq2) (.cons (.box 120 (.one (.row 3 (.dat Yq2)))) (.one (.box 116 (.cons (.dat Yq2) (.one (.row 113 (.dat Yq7))))))))))]⟩ [8,29] (.lp ⟨[kdI 73],[bkO 29 (.row 50 (.box 88 (.cons (.dat Yq2) (.cons (.box 120 (.one (.row 3 (.dat Yq2)))) (.one (.box 116 (.cons (.dat Yq2) (.one (.row 113 (.dat Yq7))))))))))]⟩ (.tw 74 (.c2 dF [] (.cl ec [] (.jn [] ⟨[],[]⟩ [] (.lp ⟨[kdI 84],[]⟩ (.tw 85 (.cl ka [] .nil) .nil)) (.cl fX [] (.jn [] ⟨[],[bkO 29 (.row 50 (.box 88 (.cons (.dat Yq2) (.cons (.box 120 (.one (.row 3 (.dat Yq2)))) (.one (.box 116 (.cons (.dat Yq2) (.one (.row 113 (.dat Yq7))))))))))]⟩ [29,33,36] (.lp ⟨[kdI 95],[bkO 29 (.row 50 (.box 88 (.cons (.dat Yq2) (.cons (.box 120 (.one (.row 3 (.dat Yq2)))) (.one (.box 116 (.cons (.dat Yq2) (.one (.row 113 (.dat Yq7))))))))))]⟩ (.tw 96 (.opn 29 100 (.wt 103 (.opb 42 40 (.wt 1000046 (.mc 42 0 43 (.cl fU [] (.cls 29 41 .nil))))))) .nil)) .nil)))) (.cl ec [] (.jn [(36,0)] ⟨[],[bkC 36 88 [.is 1 (.any),.od (.box 120 (.one (.row 3 (.dat Yq2)))),.od (.box 116 (.cons (.dat Yq2) (.one (.row 113 (.dat Yq7)))))],bkU 42]⟩ [36,37] (.lp ⟨[kdI 84],[bkC 36 88 [.is 1 (.any),.od (.box 120 (.one (.row 3 (.dat Yq2)))),.od (.box 116 (.cons (.dat Yq2) (.one (.row 113 (.dat Yq7)))))],bkU 42]⟩ (.tw 85 (.cl cB [] .nil) .nil)) (.cl fX [] (.jn [] ⟨[],[bkO 29 (.row 50 (.box 88 (.cons (.dat Yq2) (.cons (.box 120 (.one (.row 3 (.dat Yq2)))) (.one (.box 116 (.cons (.dat Yq2) (.one (.row 113 (.dat Yq7))))))))))]⟩ [29,33,36,43,45,40] (.lp ⟨[kdI 95],[bkO 29 (.row 50 (.box 88 (.cons (.dat Yq2) (.cons (.box 120 (.one (.row 3 (.dat Yq2)))) (.one (.box 116 (.cons (.dat Yq2) (.one (.row 113 (.dat Yq7)))))))))),bkC 36 88 [.is 2 (.any),.od (.box 120 (.one (.row 3 (.dat Yq2)))),.od (.box 116 (.cons (.dat Yq2) (.one (.row 113 (.dat Yq7)))))],bkU 42]⟩ (.tw 96 (.opn 29 100 (.wt 103 (.opb 57 50 (.wt 1000061 (.mc 57 0 58 (.cl fY [] (.cls 29 56 .nil))))))) .nil)) .nil))))) .nil)) .nil)))))))))
def JD:Spec:=⟨8,⟨[(0,.dat Yq1),(1,.ptr 0 0)],[bkN 35 [.is 1 (.dat Yq2),.is 2 (.dat Yq2),.dat Yq2,.is 3 (.dat Yq2),.is 4 (.dat Yq2),.is 5 (.dat Yq2),.is 6 (.dat Yq2)],bkM,bkM,bkM,bkM,bkM,bkM]⟩,[⟨[(0,.od (.row 50 (.box 88 (.cons (.dat Yq2) (.cons (.box 120 (.one (.row 3 (.dat Yq2)))) (.one (.box 116 (.cons (.dat Yq2) (.one (.row 113 (.dat Yq7)))))))))))],[bkC 0 35 [.is 1 (.any),.is 2 (.any),.dat Yq2,.is 3 (.any),.is 4 (.any),.is 5 (.any),.is 6 (.any)],bkU 1,bkU 2,bkU 3,bkU 4,bkU 5,bkU 6]⟩],fun x=>kK x.1 x.2.1 x.2.2.1 x.2.2.2.1 x.2.2.2.2.1 x.2.2.2.2.2.1 x.2.2.2.2.2.2.1 x.2.2.2.2.2.2.2⟩
def Jv:OkSpec Tryz.prog:=⟨JD,ab func8 Kc (by kernel_rfl) (by kernel_rfl),call8⟩
def oI (xa:Tq1):Int→Option (Int⊕(Unit⊕bc)):=fun i1=>cond (decide (i1 < (xa.2.2.1.length:Int))) ((aa xa.2.2.1 i1).bind fun x2=>cond ((((decide (x2.1 < 0))||(decide (xa.1≤x2.1)))||(decide (x2.2 < 0)))||(decide (xa.1≤x2.2))) (some (.inr ((.inr ((7,1,i1,0)))))) (some (.inl (IntKind.wrap .i64 (i1 + 1))))) (some (.inr ((.inl ()))))
def ma (xa:Tq1):Option bc :=
 cond ((decide (xa.1 < 1))||(decide (xa.2.1 < xa.1))) (some ((7,0,0,0))) (cond (decide (65536 < xa.2.1)) (some ((6,0,0,0))) (cond (decide (65536 < (xa.2.2.1.length:Int))) (some ((6,1,0,0))) ((loop (oI xa) 0).bind fun o=>match o with | .inr r=>some r | .inl ()=>some ((0,0,0,0)))))
def J4:Hn Tryz.prog := .gp 5 (.tw 14 .nil (.tw 18 .nil (.tw 23 .nil (.jx [] ⟨[],[bkC 2 107 [.lit (.int .i64 0),.lit (.int .i64 0),.lit (.int .i64 0),.lit (.int .i64 0)]]⟩ [2] (.lp ⟨[kdI 3],[bkC 2 107 [.lit (.int .i64 0),.lit (.int .i64 0),.lit (.int .i64 0),.lit (.int .i64 0)]]⟩ (.tw 29 (.gp 5 (.wt 47 (.gp 3 (.wt 52 (.gp 5 (.tw 58 .nil .nil)))))) .nil)) .nil))))
def Jo:Spec:=⟨98,⟨[(0,.dat Yq1)],[]⟩,[⟨[(0,.agg [.dat Yq2,.dat Yq2,.dat Yq2,.dat Yq2])],[]⟩],fun x=>ma x⟩
def MQ:OkSpec Tryz.prog:=⟨Jo,ab func98 J4 (by kernel_rfl) (by kernel_rfl),call98⟩
def ow (xa:Tq3) (xb:Int):Int→Option (Int⊕(Unit⊕Int)):=fun i1=>cond (decide (i1 < (xa.length:Int))) ((aa xa i1).bind fun x2=>(cond (decide (x2.1 < 0)) (some (true)) ((aa xa i1).bind fun x3=>some (decide (xb≤x3.1)))).bind fun t4=>cond (t4) (some (.inr ((.inr (7))))) (some (.inl (IntKind.wrap .i64 (i1 + 1))))) (some (.inr ((.inl ()))))
def gR (xa:Tq3) (xb:Int):Option Int :=
 cond (decide (16 < (xa.length:Int))) (some (6)) ((loop (ow xa xb) 0).bind fun o=>match o with | .inr r=>some r | .inl ()=>some (0))
def NT:Hn Tryz.prog := .tw 9 .nil (.jx [] ⟨[],[]⟩ [] (.lp ⟨[kdI 5],[]⟩ (.tw 14 (.gj 8 ⟨[kdB 33],[]⟩ [] (.two 24 .nil .nil) (.tw 33 .nil .nil)) .nil)) .nil)
def La:Spec:=⟨136,⟨[(0,.dat Yq8),kdI 1],[]⟩,[⟨[kdI 0],[]⟩],fun x=>gR x.1 x.2⟩
def qR:OkSpec Tryz.prog:=⟨La,ab func136 NT (by kernel_rfl) (by kernel_rfl),call136⟩
def sM (xa:Tq3) (xb:Tq3):Int→Option (Int⊕(Unit⊕Bool)):=fun i1=>cond (decide (i1 < (xa.length:Int))) ((aa xa i1).bind fun x2=>(aa xb i1).bind fun x3=>cond (!(x2.2 == x3.2)) (some (.inr ((.inr (false))))) (some (.inl (IntKind.wrap .i64 (i1 + 1))))) (some (.inr ((.inl ()))))
def gQ (xa:Tq3) (xb:Tq3):Option Bool :=
 cond (!decide ((xa.length:Int)=(xb.length:Int))) (some (false)) ((loop (sM xa xb) 0).bind fun o=>match o with | .inr r=>some r | .inl ()=>some (true))
def KI:Hn Tryz.prog := .tw 12 .nil (.jx [] ⟨[],[]⟩ [] (.lp ⟨[kdI 5],[]⟩ (.tw 17 (.mix [] [0,1,2,3,4,5,6,7,8,9,10,11,12] [] [] (.tw 32 .nil .nil)) .nil)) .nil)
def JK:Spec:=⟨137,⟨[(0,.dat Yq8),(1,.dat Yq8)],[]⟩,[⟨[kdB 0],[]⟩],fun x=>gQ x.1 x.2⟩
def qY:OkSpec Tryz.prog:=⟨JK,ab func137 KI (by kernel_rfl) (by kernel_rfl),call137⟩
def oD (xa:bX):Int→Option (Int⊕(Unit⊕Int)):=fun i1=>cond (decide (i1 < (xa.2.1.length:Int))) ((aa xa.2.1 i1).bind fun x2=>cond ((((decide (x2.1 < 0))||(decide (xa.1≤x2.1)))||(decide (x2.2 < 0)))||(decide (xa.1≤x2.2))) (some (.inr ((.inr (7))))) (some (.inl (IntKind.wrap .i64 (i1 + 1))))) (some (.inr ((.inl ()))))
def ov (xa:bX):Int→Option (Int⊕(Unit⊕Int)):=fun i1=>cond (decide (i1 < (xa.2.2.1.length:Int))) ((aa xa.2.2.1 i1).bind fun x2=>(gR x2 xa.1).bind fun i3=>cond (!decide (i3=0)) (some (.inr ((.inr (i3))))) (some (.inl (IntKind.wrap .i64 (i1 + 1))))) (some (.inr ((.inl ()))))
def gO (xa:bX):Option Int :=
 cond (decide (xa.1 < 0)) (some (7)) (cond (((decide (16 < xa.1))||(decide (16 < (xa.2.1.length:Int))))||(decide (16 < (xa.2.2.1.length:Int)))) (some (6)) ((loop (oD xa) 0).bind fun o=>match o with | .inr r=>some r | .inl ()=>(loop (ov xa) 0).bind fun o=>match o with | .inr r=>some r | .inl ()=>(gR xa.2.2.2 xa.1).bind fun i1=>some (i1)))
def LM:Hn Tryz.prog := .tw 9 .nil (.gp 4 (.wt 19 (.gp 4 (.tw 24 .nil (.jx [] ⟨[],[]⟩ [] (.lp ⟨[kdI 3],[]⟩ (.tw 29 (.gp 5 (.wt 47 (.gp 3 (.wt 52 (.gp 5 (.tw 58 .nil .nil)))))) .nil)) (.jx [] ⟨[],[]⟩ [] (.lp ⟨[kdI 5],[]⟩ (.tw 63 (.mix [] [0,1,2,3,4,5,6] [7,8] [] (.cl qR [] (.tw 75 .nil .nil))) .nil)) (.cl qR [] .nil)))))))
def N0:Spec:=⟨138,⟨[(0,.dat gg)],[]⟩,[⟨[kdI 0],[]⟩],fun x=>gO x⟩
def Br:OkSpec Tryz.prog:=⟨N0,ab func138 LM (by kernel_rfl) (by kernel_rfl),call138⟩
def oy (xa:Tq1):Int→Option (Int⊕(Unit⊕bc)):=fun i1=>cond (decide (i1 < (xa.2.2.2.1.length:Int))) ((aa xa.2.2.2.1 i1).bind fun x2=>(gR x2 xa.2.1).bind fun i3=>cond (!decide (i3=0)) (some (.inr ((.inr ((i3,2,i1,0)))))) (some (.inl (IntKind.wrap .i64 (i1 + 1))))) (some (.inr ((.inl ()))))
def oC (xa:Tq1):Int→Option (Int⊕(Unit⊕bc)):=fun i1=>cond (decide (i1 < (xa.2.2.2.2.2.1.length:Int))) ((aa xa.2.2.2.2.2.1 i1).bind fun x2=>(gO (x2.1,x2.2.1,x2.2.2.1,x2.2.2.2)).bind fun i3=>cond (!decide (i3=0)) (some (.inr ((.inr ((i3,4,i1,0)))))) (some (.inl (IntKind.wrap .i64 (i1 + 1))))) (some (.inr ((.inl ()))))
def lQ (xa:Tq1):Option bc :=
 cond (decide ((xa.2.2.2.1.length:Int)=0)) (some ((14,2,0,0))) (cond (decide (65536 < (xa.2.2.2.1.length:Int))) (some ((6,2,0,0))) ((loop (oy xa) 0).bind fun o=>match o with | .inr r=>some r | .inl ()=>(gR xa.2.2.2.2.1 xa.1).bind fun i1=>cond (!decide (i1=0)) (some ((i1,3,0,0))) ((aa xa.2.2.2.1 0).bind fun x2=>(gQ x2 xa.2.2.2.2.1).bind fun t3=>cond (!t3) (some ((8,3,0,0))) (cond (decide (65536 < (xa.2.2.2.2.2.1.length:Int))) (some ((6,4,0,0))) ((loop (oC xa) 0).bind fun o=>match o with | .inr r=>some r | .inl ()=>some ((0,0,0,0)))))))
def KB:Hn Tryz.prog := .tw 11 .nil (.tw 16 .nil (.jx [] ⟨[],[bkC 2 107 [.lit (.int .i64 0),.lit (.int .i64 0),.lit (.int .i64 0),.lit (.int .i64 0)]]⟩ [2] (.lp ⟨[kdI 3],[bkC 2 107 [.lit (.int .i64 0),.lit (.int .i64 0),.lit (.int .i64 0),.lit (.int .i64 0)]]⟩ (.tw 22 (.mix [] [0,1,2,3,4,5,6] [7,8] [] (.cl qR [] (.tw 34 .nil .nil))) .nil)) (.cl qR [] (.tw 44 .nil (.mix [] [0,1,2,3,4,5] [6,7] [] (.cl qY [] (.tw 54 .nil (.tw 59 .nil (.jx [] ⟨[],[bkC 2 107 [.lit (.int .i64 0),.lit (.int .i64 0),.lit (.int .i64 0),.lit (.int .i64 0)]]⟩ [2] (.lp ⟨[kdI 6],[bkC 2 107 [.lit (.int .i64 0),.lit (.int .i64 0),.lit (.int .i64 0),.lit (.int .i64 0)]]⟩ (.tw 65 (.cl Br [] (.tw 75 .nil .nil)) .nil)) .nil)))))))))
def LX:Spec:=⟨99,⟨[(0,.dat Yq1)],[]⟩,[⟨[(0,.agg [.dat Yq2,.dat Yq2,.dat Yq2,.dat Yq2])],[]⟩],fun x=>lQ x⟩
def JY:OkSpec Tryz.prog:=⟨LX,ab func99 KB (by kernel_rfl) (by kernel_rfl),call99⟩

def jj (xa:Int):Option Bool :=
 some ((((decide (xa=1))||(decide (xa=2)))||(decide (xa=3)))||(decide (xa=5)))
def LG:Hn Tryz.prog := .gp 2 (.wt 9 (.gp 2 (.wt 13 (.gp 2 .nil))))
def MR:Spec:=⟨165,⟨[kdI 0],[]⟩,[⟨[kdB 0],[]⟩],fun x=>jj x⟩
def BB:OkSpec Tryz.prog:=⟨MR,ab func165 LG (by kernel_rfl) (by kernel_rfl),call165⟩

def jk (xa:Int):Option Bool :=
 some ((decide (1≤xa))&&(decide (xa≤4)))
def JO:Hn Tryz.prog := .gp 2 .nil
def Mq:Spec:=⟨166,⟨[kdI 0],[]⟩,[⟨[kdB 0],[]⟩],fun x=>jk x⟩
def Bn:OkSpec Tryz.prog:=⟨Mq,ab func166 JO (by kernel_rfl) (by kernel_rfl),call166⟩

def lM (xa:Int):Option Bool :=
 some ((decide (xa=2))||(decide (xa=3)))
def Kj:Hn Tryz.prog := .gp 2 .nil
def Lz:Spec:=⟨167,⟨[kdI 0],[]⟩,[⟨[kdB 0],[]⟩],fun x=>lM x⟩
def BM:OkSpec Tryz.prog:=⟨Lz,ab func167 Kj (by kernel_rfl) (by kernel_rfl),call167⟩

def me (xa:Tq6):Option Bool :=
 (cond ((decide (0≤xa.1))&&(decide (xa.1≤5))) ((jj xa.1).bind fun t97=>some (t97||(decide (xa.2.1=0)))) (some (false))).bind fun t93=>(cond (t93) ((jk xa.1).bind fun t1=>some (t1||(decide (xa.2.2.1=0)))) (some (false))).bind fun t2=>(cond (t2) ((lM xa.1).bind fun t3=>some (t3||((decide (xa.2.2.2.1=0))&&(!xa.2.2.2.2)))) (some (false))).bind fun t4=>some (t4)
def J8:Hn Tryz.prog := .gp 3 (.wt 11 (.gj 8 ⟨[kdB 20],[]⟩ [] (.two 11 (.cl BB [] (.wt 15 (.gp 3 .nil))) .nil) (.wt 21 (.gj 8 ⟨[kdB 30],[]⟩ [] (.two 21 (.cl Bn [] (.wt 25 (.gp 3 .nil))) .nil) (.wt 31 (.gj 13 ⟨[kdB 45],[]⟩ [] (.two 31 (.cl BM [] (.wt 35 (.gp 8 .nil))) .nil) .nil))))))
def Nk:Spec:=⟨164,⟨[(0,.dat Yq6)],[]⟩,[⟨[kdB 0],[]⟩],fun x=>me x⟩
def Kq:OkSpec Tryz.prog:=⟨Nk,ab func164 J8 (by kernel_rfl) (by kernel_rfl),call164⟩
def nS (xb:Tq3) (xc:Tq3) (xd:Int) (xe:Int):aT→Option (aT⊕(List Tq6)):=fun (l1,i2)=>cond (decide (i2 < (xb.length:Int))) ((aa xb i2).bind fun x3=>(aa xc i2).bind fun x4=>(app l1 (([(x3.1,x4.1,xd,IntKind.wrap .i64 (xe + i2),false)]:List Tq6))).bind fun z5=>(aa xc i2).bind fun x6=>cond (x6.2) ((aa xc i2).bind fun x7=>(aa xb i2).bind fun x8=>(app z5 (([(x7.1,x8.1,xd,IntKind.wrap .i64 (xe + i2),true)]:List Tq6))).bind fun z9=>some (.inl ((z9,IntKind.wrap .i64 (i2 + 1))))) (some (.inl ((z5,IntKind.wrap .i64 (i2 + 1)))))) (some (.inr (l1)))
def gH (xb:Tq3) (xc:Tq3) (xd:Int) (xe:Int) (qxa:(List Tq6)):Option ((List Tq6)) :=
 (loop (nS xb xc xd xe) (qxa,0)).bind fun l1=>some (l1)
def Jl:Hn Tryz.prog := .jn [] ⟨[(0,.own 226 Yq6)],[]⟩ [0] (.lp ⟨[(0,.own 226 Yq6),kdI 11],[]⟩ (.tw 15 (.mix [([0,1,2,3,4,5,6,7,8,9,10,11,12,13,14,15],16)] [] [17,18] [] (.tw 40 (.mix [([0,1,2,3,4,5,6,7,8,9,10,11,12,13,14,15],16)] [] [17,18] [] .nil) .nil)) .nil)) .nil
def Mm:Spec:=⟨183,⟨[(0,.own 226 Yq6),(1,.dat (.sl Yq3)),(2,.dat (.sl Yq3)),kdI 3,kdI 4],[]⟩,[⟨[(0,.own 226 Yq6)],[]⟩],fun x=>gH x.2.1 x.2.2.1 x.2.2.2.1 x.2.2.2.2 x.1⟩
def vR:OkSpec Tryz.prog:=⟨Mm,ab func183 Jl (by kernel_rfl) (by kernel_rfl),call183⟩

def gS (xa:Tq3) (xb:Tq3) (xc:Int) (xd:Int):Option (aT) :=
 (gQ xa xb).bind fun t34=>cond (!t34) (some (([],8))) ((gH xa xb xc xd (([]:List Tq6))).bind fun l45=>some ((l45,0)))
def Jm:Hn Tryz.prog := .cl qY [] (.tw 13 .nil (.cl vR [] .nil))
def KE:Spec:=⟨168,⟨[(0,.dat Yq8),(1,.dat Yq8),kdI 2,kdI 3],[]⟩,[⟨[(0,.tup [.own 226 Yq6,.dat Yq2])],[]⟩],fun x=>gS x.1 x.2.1 x.2.2.1 x.2.2.2⟩
def qQ:OkSpec Tryz.prog:=⟨KE,ab func168 Jm (by kernel_rfl) (by kernel_rfl),call168⟩
def sP (xa:Tq3) (xc:Bool):(Tq3×Int)→Option ((Tq3×Int)⊕Tq3):=fun (l1,i2)=>cond (decide (i2 < (xa.length:Int))) ((aa xa i2).bind fun x3=>(aa xa i2).bind fun x4=>cond (x4.2) ((app l1 (([(x3.1,true)]:List ba))).bind fun z5=>some (.inl ((z5,IntKind.wrap .i64 (i2 + 1))))) ((app l1 (([(x3.1,xc)]:List ba))).bind fun z6=>some (.inl ((z6,IntKind.wrap .i64 (i2 + 1)))))) (some (.inr (l1)))
def pe (xa:Tq3) (xb:Int) (xc:Bool):Option (Tq3) :=
 (loop (sP xa xc) ((([(xb,false)]:List ba),0))).bind fun l1=>some (l1)
def JP:Hn Tryz.prog := .jn [] ⟨[(7,.own 69 Yq3),(11,.any)],[]⟩ [4] (.lp ⟨[(7,.own 69 Yq3),kdI 8],[]⟩ (.tw 16 (.mix [([0,1,2,3,4,5,6,7,8,9,10,11,12,13,14,15,16],17)] [] [18,19] [] (.two 32 .nil .nil)) .nil)) .nil
def ME:Spec:=⟨184,⟨[(0,.dat Yq8),kdI 1,kdB 2],[]⟩,[⟨[(0,.agg [.own 69 Yq3])],[]⟩],fun x=>pe x.1 x.2.1 x.2.2⟩
def Lp:OkSpec Tryz.prog:=⟨ME,ab func184 JP (by kernel_rfl) (by kernel_rfl),call184⟩

def o9 (xa:Tq3) (xb:Tq3) (xc:Int) (xd:Bool):Option (aT) :=
 (pe xa xc xd).bind fun l1=>(gQ l1 xb).bind fun t2=>cond (!t2) (some (([],8))) ((aa xb 0).bind fun x3=>(subL xb 1 (xb.length:Int)).bind fun y4=>(gH xa y4 1 1 (([(xc,x3.1,2,0,false)]:List Tq6))).bind fun l5=>some ((l5,0)))
def Kg:Hn Tryz.prog := .mix [([0,1,2,4],3)] [] [5,6] [] (.cl Lp [] (.cl qY [4] (.tw 17 .nil (.mix [] [0,1,2,3,4,5] [6,7,8] [] (.cl vR [] .nil)))))
def KF:Spec:=⟨169,⟨[(0,.dat Yq8),(1,.dat Yq8),kdI 2,kdB 3],[]⟩,[⟨[(0,.tup [.own 226 Yq6,.dat Yq2])],[]⟩],fun x=>o9 x.1 x.2.1 x.2.2.1 x.2.2.2⟩
def JR:OkSpec Tryz.prog:=⟨KF,ab func169 Kg (by kernel_rfl) (by kernel_rfl),call169⟩
def iU (xa:Tq3) (xd:Bool):Int→Option (Int⊕(Unit⊕aT)):=fun i1=>cond (decide (i1 < (xa.length:Int))) ((cond (xd) ((aa xa i1).bind fun x2=>some (!x2.2)) (some (false))).bind fun t3=>cond (t3) (some (.inr ((.inr (([],8)))))) (some (.inl (IntKind.wrap .i64 (i1 + 1))))) (some (.inr ((.inl ()))))
def oZ (xa:Tq3) (xb:Tq3) (xc:Int) (xd:Bool):Option (aT) :=
 (cond (decide ((xa.length:Int)=0)) (some (true)) ((gQ xa xb).bind fun t1=>some (!t1))).bind fun t2=>(cond (t2) (some (true)) ((aa xa 0).bind fun x3=>some (x3.2))).bind fun t4=>cond (t4) (some (([],8))) ((loop (iU xa xd) 1).bind fun o=>match o with | .inr r=>some r | .inl ()=>(aa xa 0).bind fun x5=>(aa xb 0).bind fun x6=>(subL xa 1 (xa.length:Int)).bind fun y7=>(subL xb 1 (xb.length:Int)).bind fun y8=>(gH y7 y8 1 1 (([(x5.1,xc,3,0,false),(xc,x6.1,2,0,false)]:List Tq6))).bind fun l9=>some ((l9,0)))
def NG:Hn Tryz.prog := .gj 4 ⟨[kdB 21],[]⟩ [] (.two 16 .nil (.cl qY [] .nil)) (.wt 22 (.gj 5 ⟨[kdB 28],[]⟩ [] (.two 22 .nil .nil) (.tw 28 .nil (.jx [] ⟨[],[]⟩ [] (.lp ⟨[kdI 10],[]⟩ (.tw 33 (.gj 7 ⟨[kdB 45],[]⟩ [] (.two 37 .nil .nil) (.tw 45 .nil .nil)) .nil)) (.mix [([0,1,2,3,4,5,6,7,8,9,10,11,12,13],14)] [15] [] [] (.mix [] [0,1,2,3,4,5,6] [7,8,9] [] (.cl vR [] .nil)))))))
def KD:Spec:=⟨170,⟨[(0,.dat Yq8),(1,.dat Yq8),kdI 2,kdB 3],[]⟩,[⟨[(0,.tup [.own 226 Yq6,.dat Yq2])],[]⟩],fun x=>oZ x.1 x.2.1 x.2.2.1 x.2.2.2⟩
def MF:OkSpec Tryz.prog:=⟨KD,ab func170 NG (by kernel_rfl) (by kernel_rfl),call170⟩

def fu (xa:Tq6) (xb:(List Tq3)) (xc:Int):Option (aT) :=
 (me (xa.1,xa.2.1,xa.2.2.1,xa.2.2.2.1,xa.2.2.2.2)).bind fun t1=>cond (!t1) (some (([],3))) ((jj xa.1).bind fun t2=>(cond (t2&&((decide (xa.2.1 < 0))||(decide ((xb.length:Int)≤xa.2.1)))) (some (true)) ((jk xa.1).bind fun t3=>some (t3&&((decide (xa.2.2.1 < 0))||(decide ((xb.length:Int)≤xa.2.2.1)))))).bind fun t4=>(cond (t4) (some (true)) ((lM xa.1).bind fun t5=>some (t5&&((decide (xa.2.2.2.1 < 0))||(decide (xc≤xa.2.2.2.1)))))).bind fun t6=>cond (t6) (some (([],7))) (cond (decide (xa.1=1)) ((aa xb xa.2.2.1).bind fun x7=>(aa xb xa.2.1).bind fun x8=>(gS x7 x8 1 0).bind fun (l9,i10)=>some ((l9,i10))) (cond (decide (xa.1=2)) ((aa xb xa.2.2.1).bind fun x11=>(aa xb xa.2.1).bind fun x12=>(o9 x11 x12 xa.2.2.2.1 xa.2.2.2.2).bind fun (l13,i14)=>some ((l13,i14))) (cond (decide (xa.1=3)) ((aa xb xa.2.2.1).bind fun x15=>(aa xb xa.2.1).bind fun x16=>(oZ x15 x16 xa.2.2.2.1 xa.2.2.2.2).bind fun (l17,i18)=>some ((l17,i18))) (some (([],0)))))))
def Kt:Hn Tryz.prog := .cl Kq [] (.tw 10 .nil (.cl BB [] (.gp 10 (.wt 26 (.gj 15 ⟨[kdB 42],[]⟩ [] (.two 26 .nil (.cl Bn [] (.wt 30 (.gp 10 .nil)))) (.wt 43 (.gj 14 ⟨[kdB 58],[]⟩ [] (.two 43 .nil (.cl BM [] (.wt 47 (.gp 9 .nil)))) (.tw 58 .nil (.tw 61 (.mix [([0,1,2,3,4,5,6,7,8,9],10)] [11,12,13,14] [] [] (.cl qQ [] .nil)) (.tw 77 (.mix [([0,1,2,3,4,5,6,7,8,9,10,11,12,13],14)] [15,16,17,18] [] [] (.cl JR [] .nil)) (.tw 97 (.mix [([0,1,2,3,4,5,6,7,8,9,10,11,12,13],14)] [15,16,17,18] [] [] (.cl MF [] .nil)) .nil)))))))))))
def KH:Spec:=⟨139,⟨[(0,.dat Yq6),(1,.dat (.sl Yq8)),kdI 2],[]⟩,[⟨[(0,.tup [.own 226 Yq6,.dat Yq2])],[]⟩],fun x=>fu x.1 x.2.1 x.2.2⟩
def Jy:OkSpec Tryz.prog:=⟨KH,ab func139 Kt (by kernel_rfl) (by kernel_rfl),call139⟩

def fw (xa:Tq9):Option Int :=
 cond ((decide (xa.1 < 1))||(decide (4 < xa.1))) (some (3)) (cond (((((decide (xa.1=1))||(decide (xa.1=4)))&&(!decide ((xa.2.2.2.1.length:Int)=1)))||((decide (xa.1=2))&&(decide ((xa.2.2.2.1.length:Int)=0))))||((decide (xa.1=3))&&(!decide ((xa.2.2.2.1.length:Int)=0)))) (some (3)) (cond ((!decide (xa.1=4))&&(((!decide (xa.2.1=0))||(!decide (xa.2.2.1=0)))||(!decide ((xa.2.2.2.2.2.length:Int)=0)))) (some (3)) (cond (((decide (xa.1=1))||(decide (xa.1=3)))&&(!decide ((xa.2.2.2.2.1.length:Int)=0))) (some (3)) (cond (((decide (16 < (xa.2.2.2.1.length:Int)))||(decide (16 < (xa.2.2.2.2.1.length:Int))))||(decide (16 < (xa.2.2.2.2.2.length:Int)))) (some (6)) (some (0))))))
def Mz:Hn Tryz.prog := .gp 3 (.tw 10 .nil (.gp 3 (.wt 19 (.gp 4 (.wt 25 (.gp 9 (.wt 36 (.gp 9 (.tw 46 .nil (.gp 14 (.tw 65 .nil (.gp 3 (.wt 74 (.gp 4 (.tw 79 .nil (.gp 4 (.wt 90 (.gp 4 (.tw 95 .nil .nil)))))))))))))))))))
def JF:Spec:=⟨171,⟨[(0,.dat ew)],[]⟩,[⟨[kdI 0],[]⟩],fun x=>fw x⟩
def J1:OkSpec Tryz.prog:=⟨JF,ab func171 Mz (by kernel_rfl) (by kernel_rfl),call171⟩
def om (xa:(List Int)) (xb:Int):Int→Option (Int⊕(Unit⊕Bool)):=fun i1=>cond (decide (i1 < (xa.length:Int))) ((aa xa i1).bind fun x2=>(cond (decide (x2 < 0)) (some (true)) ((aa xa i1).bind fun x3=>some (decide (xb≤x3)))).bind fun t4=>cond (t4) (some (.inr ((.inr (false))))) (some (.inl (IntKind.wrap .i64 (i1 + 1))))) (some (.inr ((.inl ()))))
def dO (xa:(List Int)) (xb:Int):Option Bool :=
 (loop (om xa xb) 0).bind fun o=>match o with | .inr r=>some r | .inl ()=>some (true)
def Kz:Hn Tryz.prog := .jx [] ⟨[],[]⟩ [] (.lp ⟨[kdI 5],[]⟩ (.tw 9 (.gj 6 ⟨[kdB 24],[]⟩ [] (.two 17 .nil .nil) (.tw 24 .nil .nil)) .nil)) .nil
def My:Spec:=⟨172,⟨[(0,.dat (.sl Yq2)),kdI 1],[]⟩,[⟨[kdB 0],[]⟩],fun x=>dO x.1 x.2⟩
def nh:OkSpec Tryz.prog:=⟨My,ab func172 Kz (by kernel_rfl) (by kernel_rfl),call172⟩
def k8 (xa:Tq3) (xb:(List Int)):(Tq3×Int)→Option ((Tq3×Int)⊕(Tq3⊕(Tq3×Int))):=fun (l1,i2)=>cond (decide (i2 < (xa.length:Int))) ((aa xa i2).bind fun x3=>cond ((decide (x3.1 < 0))||(decide ((xb.length:Int)≤x3.1))) (some (.inr ((.inr (([],7)))))) ((aa xb x3.1).bind fun x4=>(aa xa i2).bind fun x5=>(app l1 (([(x4,x5.2)]:List ba))).bind fun z6=>some (.inl ((z6,IntKind.wrap .i64 (i2 + 1)))))) (some (.inr (.inl l1)))
def lO (xa:Tq3) (xb:(List Int)):Option ((Tq3×Int)) :=
 (loop (k8 xa xb) ((([]:List ba),0))).bind fun o=>match o with | .inr r=>some r | .inl l1=>some ((l1,0))
def MG:Hn Tryz.prog := .jx [] ⟨[(6,.own 69 Yq3),(9,.any)],[bkC 2 26 [.nils]]⟩ [4,2] (.lp ⟨[(6,.own 69 Yq3),kdI 7],[bkC 2 26 [.nils]]⟩ (.tw 14 (.gp 4 (.tw 30 .nil (.mix [([0,1,2,3,4,5,6,7,8,9,10,11],12)] [] [13,14] [] .nil))) .nil)) .nil
def MP:Spec:=⟨185,⟨[(0,.dat Yq8),(1,.dat (.sl Yq2))],[]⟩,[⟨[(0,.tup [.agg [.own 69 Yq3],.dat Yq2])],[]⟩],fun x=>lO x.1 x.2⟩
def Bw:OkSpec Tryz.prog:=⟨MP,ab func185 MG (by kernel_rfl) (by kernel_rfl),call185⟩
def oJ (xa:bX) (xb:(List Int)):aT→Option (aT⊕(List Tq6)):=fun (l1,i2)=>cond (decide (i2 < (xa.2.1.length:Int))) ((aa xa.2.1 i2).bind fun x3=>(aa xb x3.1).bind fun x4=>(aa xa.2.1 i2).bind fun x5=>(aa xb x5.2).bind fun x6=>(app l1 (([(x4,x6,4,i2,false)]:List Tq6))).bind fun z7=>some (.inl ((z7,IntKind.wrap .i64 (i2 + 1))))) (some (.inr (l1)))
def lA (xa:bX) (xb:(List Int)) (xc:(List Tq3)):aT→Option (aT⊕((List Tq6)⊕aT)):=fun (l1,i2)=>cond (decide (i2 < (xa.2.2.1.length:Int))) ((aa xa.2.2.1 i2).bind fun x3=>(lO x3 xb).bind fun (l4,i5)=>(aa xc i2).bind fun x6=>(gS x6 l4 5 (IntKind.wrap .i64 (16 * i2))).bind fun (l7,i8)=>cond (!decide (i8=0)) (some (.inr ((.inr (([],i8)))))) ((app l1 l7).bind fun z9=>some (.inl ((z9,IntKind.wrap .i64 (i2 + 1)))))) (some (.inr (.inl l1)))
def lY (xa:bX) (xb:(List Int)) (xc:(List Tq3)) (xd:Tq3):Option (aT) :=
 (gO (xa.1,xa.2.1,xa.2.2.1,xa.2.2.2)).bind fun i1=>cond (!decide (i1=0)) (some (([],i1))) (cond ((!decide ((xb.length:Int)=xa.1))||(!decide ((xc.length:Int)=(xa.2.2.1.length:Int)))) (some (([],2))) ((loop (oJ xa xb) ((([]:List Tq6),0))).bind fun l2=>(loop (lA xa xb xc) (l2,0)).bind fun o=>match o with | .inr r=>some r | .inl l3=>(lO xa.2.2.2 xb).bind fun (l4,i5)=>(gS l4 xd 6 0).bind fun (l6,i7)=>cond (!decide (i7=0)) (some (([],i7))) ((app l3 l6).bind fun z8=>some ((z8,0)))))
def J3:Hn Tryz.prog := .cl Br [] (.tw 25 .nil (.gp 6 (.tw 39 .nil (.jn [] ⟨[(11,.own 226 Yq6),(40,.any)],[]⟩ [4] (.lp ⟨[(11,.own 226 Yq6),kdI 12],[]⟩ (.tw 45 (.mix [([0,1,2,3,4,5,6,7,8,9,10,11,12,13,14,15,16,17,18,19,20],21)] [] [22,23] [] .nil) .nil)) (.jx [] ⟨[(11,.own 226 Yq6)],[]⟩ [6] (.lp ⟨[(11,.own 226 Yq6),kdI 13],[]⟩ (.tw 75 (.cl Bw [] (.per 10 11 (.mix [([0,1,2,3,4,5,6],7)] [8,9,10,11,12] [] [] (.cl qQ [] (.tw 100 .nil .nil))))) .nil)) (.cl Bw [] (.per 10 11 (.cl qQ [] (.tw 119 .nil .nil)))))))))
def Nj:Spec:=⟨173,⟨[(0,.dat gg),(1,.dat (.sl Yq2)),(2,.dat (.sl Yq8)),(3,.dat Yq8)],[]⟩,[⟨[(0,.tup [.own 226 Yq6,.dat Yq2])],[]⟩],fun x=>lY x.1 x.2.1 x.2.2.1 x.2.2.2⟩
def N4:OkSpec Tryz.prog:=⟨Nj,ab func173 J3 (by kernel_rfl) (by kernel_rfl),call173⟩
def wK (xa:Tq9) (xb:kj):((List Tq3)×Int)→Option (((List Tq3)×Int)⊕(List Tq3)):=fun (l1,i2)=>cond (decide (i2 < (xa.2.2.2.2.1.length:Int))) ((aa xa.2.2.2.2.1 i2).bind fun x3=>(aa xb.2.2.1 x3).bind fun x4=>(app l1 (([x4]:List Tq3))).bind fun z5=>some (.inl ((z5,IntKind.wrap .i64 (i2 + 1))))) (some (.inr (l1)))
def dq (xa:Tq9) (xb:kj):Option (aT) :=
 (fw (xa.1,xa.2.1,xa.2.2.1,xa.2.2.2.1,xa.2.2.2.2.1,xa.2.2.2.2.2)).bind fun i1=>cond (!decide (i1=0)) (some (([],i1))) ((dO xa.2.2.2.1 xb.1).bind fun t2=>(cond (!t2) (some (true)) ((dO xa.2.2.2.2.1 (xb.2.2.1.length:Int)).bind fun t3=>some (!t3))).bind fun t4=>(cond (t4) (some (true)) ((dO xa.2.2.2.2.2 xb.2.1).bind fun t5=>some (!t5))).bind fun t6=>cond (t6) (some (([],7))) ((cond (decide (xa.1=4)) ((dO ([xa.2.2.1]:List Int) (xb.2.2.1.length:Int)).bind fun t7=>(cond (!t7) (some (true)) ((dO ([xa.2.1]:List Int) (xb.2.2.2.2.length:Int)).bind fun t8=>some (!t8))).bind fun t9=>some (t9)) (some (false))).bind fun t10=>cond (t10) (some (([],7))) (cond ((decide (xa.1=3))&&(decide ((xb.2.2.1.length:Int)=0))) (some (([],14))) (cond (decide (xa.1=3)) ((aa xb.2.2.1 0).bind fun x11=>(gS x11 xb.2.2.2.1 7 0).bind fun (l12,i13)=>some ((l12,i13))) (cond (decide (xa.1=4)) ((loop (wK xa xb) ((([]:List Tq3),0))).bind fun l14=>(aa xb.2.2.2.2 xa.2.1).bind fun x15=>(aa xb.2.2.1 xa.2.2.1).bind fun x16=>(lY (x15.1,x15.2.1,x15.2.2.1,x15.2.2.2) xa.2.2.2.2.2 l14 x16).bind fun (l17,i18)=>some ((l17,i18))) (some (([],0))))))))
def LY:Hn Tryz.prog := .cl J1 [] (.tw 12 .nil (.cl nh [] (.gj 7 ⟨[kdB 28],[]⟩ [] (.two 20 .nil (.cl nh [] .nil)) (.wt 29 (.gj 6 ⟨[kdB 36],[]⟩ [] (.two 29 .nil (.cl nh [] .nil)) (.tw 36 .nil (.gj 18 ⟨[kdB 59],[]⟩ [] (.two 40 (.cl nh [4] (.wt 49 (.gj 8 ⟨[kdB 58],[]⟩ [] (.two 49 .nil (.cl nh [6] .nil)) .nil))) .nil) (.tw 59 .nil (.gp 4 (.tw 68 .nil (.tw 71 (.mix [([0,1,2,3,4,5],6)] [7,8,9,10] [] [] (.cl qQ [] .nil)) (.tw 83 (.jn [] ⟨[(7,.own 26 Yq8),(84,.any)],[]⟩ [4] (.lp ⟨[(7,.own 26 Yq8),kdI 8],[]⟩ (.tw 89 (.mix [([0,1,2,3,4,5,6,7,8,9],10)] [] [11,12] [] .nil) .nil)) (.mix [([0,1,2,3,4,5,6,7,8,9,10,11,12,13,14],15)] [16,17,18,19] [] [6] (.per 6 7 (.cl N4 [] .nil)))) .nil))))))))))))
def NI:Spec:=⟨140,⟨[(0,.dat ew),(1,.dat rC)],[]⟩,[⟨[(0,.tup [.own 226 Yq6,.dat Yq2])],[]⟩],fun x=>dq x.1 x.2⟩
def NP:OkSpec Tryz.prog:=⟨NI,ab func140 LY (by kernel_rfl) (by kernel_rfl),call140⟩
def kS (xa:Tq1):bp→Option (bp⊕(Unit⊕bc)):=fun (i1,i2)=>cond (decide (i2 < (xa.2.2.2.2.2.2.length:Int))) ((aa xa.2.2.2.2.2.2 i2).bind fun x3=>cond (decide (65536 < (IntKind.wrap .i64 (i1 + (x3.1.length:Int))))) (some (.inr ((.inr ((6,5,i2,0)))))) (some (.inl ((IntKind.wrap .i64 (i1 + (x3.1.length:Int)),IntKind.wrap .i64 (i2 + 1)))))) (some (.inr ((.inl ()))))
def ol (xa:Tq1) (i1:Int) (x2:((List Tq6)×Tq9)):Int→Option (Int⊕(Unit⊕(Int⊕(Unit⊕bc)))):=fun i3=>cond (decide (i3 < (x2.1.length:Int))) ((aa x2.1 i3).bind fun x4=>(fu (x4.1,x4.2.1,x4.2.2.1,x4.2.2.2.1,x4.2.2.2.2) xa.2.2.2.1 xa.2.1).bind fun (l5,i6)=>cond (!decide (i6=0)) (some (.inr ((.inr (.inr ((.inr ((i6,6,i1,i3))))))))) (some (.inl (IntKind.wrap .i64 (i3 + 1))))) (some (.inr ((.inl ()))))
def oh (xa:Tq1):Int→Option (Int⊕(Unit⊕bc)):=fun i1=>cond (decide (i1 < (xa.2.2.2.2.2.2.length:Int))) ((aa xa.2.2.2.2.2.2 i1).bind fun x2=>(loop (ol xa i1 x2) 0).bind fun o=>match o with | .inr r=>some r | .inl ()=>(aa xa.2.2.2.2.2.2 i1).bind fun x3=>(dq (x3.2.1,x3.2.2.1,x3.2.2.2.1,x3.2.2.2.2.1,x3.2.2.2.2.2.1,x3.2.2.2.2.2.2) (((xa.2.2.2.2.2.2.length:Int),xa.2.1,xa.2.2.2.1,xa.2.2.2.2.1,xa.2.2.2.2.2.1))).bind fun (l4,i5)=>cond (!decide (i5=0)) (some (.inr ((.inr ((i5,7,i1,0)))))) (some (.inl (IntKind.wrap .i64 (i1 + 1))))) (some (.inr ((.inl ()))))
def lI (xa:Tq1):Option bc :=
 cond (decide ((xa.2.2.2.2.2.2.length:Int)=0)) (some ((14,5,0,0))) (cond (decide (65536 < (xa.2.2.2.2.2.2.length:Int))) (some ((6,5,0,0))) ((loop (kS xa) (0,0)).bind fun o=>match o with | .inr r=>some r | .inl ()=>(loop (oh xa) 0).bind fun o=>match o with | .inr r=>some r | .inl ()=>some ((0,0,0,0))))
def Ny:Hn Tryz.prog := .tw 16 .nil (.tw 21 .nil (.jx [] ⟨[],[bkC 2 107 [.lit (.int .i64 0),.lit (.int .i64 0),.lit (.int .i64 0),.lit (.int .i64 0)]]⟩ [2] (.lp ⟨[kdI 3,kdI 4],[bkC 2 107 [.lit (.int .i64 0),.lit (.int .i64 0),.lit (.int .i64 0),.lit (.int .i64 0)]]⟩ (.tw 27 (.tw 40 .nil .nil) .nil)) (.jx [] ⟨[],[bkC 2 107 [.lit (.int .i64 0),.lit (.int .i64 0),.lit (.int .i64 0),.lit (.int .i64 0)]]⟩ [2] (.lp ⟨[kdI 6],[bkC 2 107 [.lit (.int .i64 0),.lit (.int .i64 0),.lit (.int .i64 0),.lit (.int .i64 0)]]⟩ (.tw 59 (.pl (.pl (.jx [] ⟨[],[bkC 2 107 [.lit (.int .i64 0),.lit (.int .i64 0),.lit (.int .i64 0),.lit (.int .i64 0)]]⟩ [2] (.lp ⟨[kdI 8],[bkC 2 107 [.lit (.int .i64 0),.lit (.int .i64 0),.lit (.int .i64 0),.lit (.int .i64 0)]]⟩ (.tw 71 (.mix [([0,1,2,3,4,5,6,7],8)] [9,10,11,12,13] [] [] (.cl Jy [] (.tw 87 .nil .nil))) .nil)) (.mix [([0,1,2,3,4,5,6],7)] [8,9,10,11,12] [] [] (.cl NP [] (.tw 104 .nil .nil)))))) .nil)) .nil)))
def Mc:Spec:=⟨100,⟨[(0,.dat Yq1)],[]⟩,[⟨[(0,.agg [.dat Yq2,.dat Yq2,.dat Yq2,.dat Yq2])],[]⟩],fun x=>lI x⟩
def MC:OkSpec Tryz.prog:=⟨Mc,ab func100 Ny (by kernel_rfl) (by kernel_rfl),call100⟩

def lV (xa:Tq1):Option bc :=
 (ma xa).bind fun (i42,i43,i44,i45)=>cond (!decide (i42=0)) (some ((i42,i43,i44,i45))) ((lQ xa).bind fun (i53,i54,i55,i56)=>cond (!decide (i53=0)) (some ((i53,i54,i55,i56))) ((lI xa).bind fun (i63,i65,i66,i67)=>some ((i63,i65,i66,i67))))
def Nv:Hn Tryz.prog := .cl MQ [] (.tw 8 .nil (.cl JY [] (.tw 14 .nil (.cl MC [] .nil))))
def MB:Spec:=⟨64,⟨[(0,.dat Yq1)],[]⟩,[⟨[(0,.agg [.dat Yq2,.dat Yq2,.dat Yq2,.dat Yq2])],[]⟩],fun x=>lV x⟩
def NY:OkSpec Tryz.prog:=⟨MB,ab func64 Nv (by kernel_rfl) (by kernel_rfl),call64⟩

def tj (xa:Tq1):Option Bool :=
 (lV xa).bind fun (i15,i17,i18,i19)=>some (decide (i15=0))
def KL:Hn Tryz.prog := .cl NY [] .nil
def Mt:Spec:=⟨35,⟨[(0,.dat Yq1)],[]⟩,[⟨[kdB 0],[]⟩],fun x=>tj x⟩
def Jr:OkSpec Tryz.prog:=⟨Mt,ab func35 KL (by kernel_rfl) (by kernel_rfl),call35⟩
def lF (i1:Int) (x2:((List Tq6)×Tq9)):(aR×Int)→Option ((aR×Int)⊕aR):=fun (l3,i4)=>cond (decide (i4≤(x2.1.length:Int))) ((app l3 (([(i1,i4,decide (i4=(x2.1.length:Int)))]:List (Int×Int×Bool)))).bind fun z5=>some (.inl ((z5,IntKind.wrap .i64 (i4 + 1))))) (some (.inr (l3)))
def lG (xa:Tq1):(aR×Int)→Option ((aR×Int)⊕aR):=fun (l1,i2)=>cond (decide (i2 < (xa.2.2.2.2.2.2.length:Int))) ((aa xa.2.2.2.2.2.2 i2).bind fun x3=>(loop (lF i2 x3) (l1,0)).bind fun l4=>some (.inl ((l4,IntKind.wrap .i64 (i2 + 1))))) (some (.inr (l1)))
def dd (xa:Tq1):Option (aR) :=
 (tj xa).bind fun t1=>cond (!t1) (some (([]:List (Int×Int×Bool)))) ((loop (lG xa) ((([]:List (Int×Int×Bool)),0))).bind fun l2=>some (l2))
def MK:Hn Tryz.prog := .cl Jr [] (.tw 10 .nil (.jn [] ⟨[(3,.own 78 (.cons Yq2 Yq3)),(7,.any)],[]⟩ [2] (.lp ⟨[(3,.own 78 (.cons Yq2 Yq3)),kdI 4],[]⟩ (.tw 16 (.pl (.pl (.jn [] ⟨[(3,.own 78 (.cons Yq2 Yq3))],[]⟩ [4] (.lp ⟨[(3,.own 78 (.cons Yq2 Yq3)),kdI 6],[]⟩ (.tw 28 .nil .nil)) .nil))) .nil)) .nil))
def JI:Spec:=⟨10,⟨[(0,.dat Yq1)],[]⟩,[⟨[(0,.own 78 (.cons Yq2 Yq3))],[]⟩],fun x=>dd x⟩
def rn:OkSpec Tryz.prog:=⟨JI,ab func10 MK (by kernel_rfl) (by kernel_rfl),call10⟩
def lP (xa:aR) (xb:Int) (xc:Int):Int→Option (Int⊕(Unit⊕ba)):=fun i1=>cond (decide (i1 < (xa.length:Int))) ((aa xa i1).bind fun x2=>(cond (decide (x2.1=xb)) ((aa xa i1).bind fun x3=>some (decide (x3.2.1=xc))) (some (false))).bind fun t4=>cond (t4) (some (.inr ((.inr ((i1,true)))))) (some (.inl (IntKind.wrap .i64 (i1 + 1))))) (some (.inr ((.inl ()))))
def mn (xa:aR) (xb:Int) (xc:Int):Option ba :=
 (loop (lP xa xb xc) 0).bind fun o=>match o with | .inr r=>some r | .inl ()=>some ((0,false))
def LN:Hn Tryz.prog := .jx [] ⟨[],[]⟩ [] (.lp ⟨[kdI 8],[]⟩ (.tw 12 (.gj 7 ⟨[kdB 30],[]⟩ [] (.two 22 .nil .nil) (.tw 30 .nil .nil)) .nil)) .nil
def KX:Spec:=⟨163,⟨[(0,.dat (.sl (.cons Yq2 Yq3))),kdI 1,kdI 2],[]⟩,[⟨[(0,.tup [.dat Yq2,.dat .bool])],[]⟩],fun x=>mn x.1 x.2.1 x.2.2⟩
def LZ:OkSpec Tryz.prog:=⟨KX,ab func163 LN (by kernel_rfl) (by kernel_rfl),call163⟩
def sO (xb:aR) (xd:Int) (x1:((List Tq6)×Tq9)):Int→Option (Int⊕(Unit⊕Bool)):=fun i2=>cond (decide (i2 < (x1.2.2.2.2.1.length:Int))) ((aa x1.2.2.2.2.1 i2).bind fun x3=>(mn xb x3 0).bind fun (i4,t5)=>cond (t5&&(decide (i4=xd))) (some (.inr ((.inr (true))))) (some (.inl (IntKind.wrap .i64 (i2 + 1))))) (some (.inr ((.inl ()))))
def lX (xa:Tq1) (xb:aR) (xc:Int) (xd:Int):Option Bool :=
 (aa xb xc).bind fun x1=>cond (!x1.2.2) (some (decide (xd=(IntKind.wrap .i64 (xc + 1))))) ((aa xb xc).bind fun x2=>(aa xa.2.2.2.2.2.2 x2.1).bind fun x3=>(loop (sO xb xd x3) 0).bind fun o=>match o with | .inr r=>some r | .inl ()=>some (false))
def JU:Hn Tryz.prog := .tw 18 .nil (.mix [] [0,1,2,3,4,5,6,7,8,9,10,11] [] [] (.jx [] ⟨[],[]⟩ [0] (.lp ⟨[kdI 10],[]⟩ (.tw 37 (.cl LZ [] (.gp 3 (.tw 54 .nil .nil))) .nil)) .nil))
def Mg:Spec:=⟨135,⟨[(0,.dat Yq1),(1,.dat (.sl (.cons Yq2 Yq3))),kdI 2,kdI 3],[]⟩,[⟨[kdB 0],[]⟩],fun x=>lX x.1 x.2.1 x.2.2.1 x.2.2.2⟩
def Lr:OkSpec Tryz.prog:=⟨Mg,ab func135 JU (by kernel_rfl) (by kernel_rfl),call135⟩
def lx (xa:Tq1) (l1:aR) (i2:Int):(Tq7×Int)→Option ((Tq7×Int)⊕Tq7):=fun (l3,i4)=>cond (decide (i4 < (l1.length:Int))) ((lX xa l1 i2 i4).bind fun t5=>cond (t5) ((app l3 (([(i2,i4)]:List bp))).bind fun z6=>some (.inl ((z6,IntKind.wrap .i64 (i4 + 1))))) (some (.inl ((l3,IntKind.wrap .i64 (i4 + 1)))))) (some (.inr (l3)))
def lw (xa:Tq1) (l1:aR):(Tq7×Int)→Option ((Tq7×Int)⊕Tq7):=fun (l2,i3)=>cond (decide (i3 < (l1.length:Int))) ((loop (lx xa l1 i3) (l2,0)).bind fun l4=>some (.inl ((l4,IntKind.wrap .i64 (i3 + 1))))) (some (.inr (l2)))
def lZ (xa:Tq1):Option (Tq7) :=
 (dd xa).bind fun l1=>(loop (lw xa l1) ((([]:List bp),0))).bind fun l2=>some (l2)
def K8:Hn Tryz.prog := .cl rn [] (.jn [] ⟨[(4,.own 159 dk),(9,.any)],[]⟩ [4] (.lp ⟨[(4,.own 159 dk),kdI 5],[]⟩ (.tw 13 (.pl (.pl (.jn [] ⟨[(4,.own 159 dk)],[]⟩ [6] (.lp ⟨[(4,.own 159 dk),kdI 6],[]⟩ (.tw 19 (.cl Lr [2] (.tw 26 .nil .nil)) .nil)) .nil))) .nil)) .nil)
def N5:Spec:=⟨95,⟨[(0,.dat Yq1)],[]⟩,[⟨[(0,.own 159 dk)],[]⟩],fun x=>lZ x⟩
def KG:OkSpec Tryz.prog:=⟨N5,ab func95 K8 (by kernel_rfl) (by kernel_rfl),call95⟩
def oq (xc:Int) (x1:((List Tq6)×Tq9)):Int→Option (Int⊕(Unit⊕Bool)):=fun i2=>cond (decide (i2 < (x1.2.2.2.2.2.1.length:Int))) ((aa x1.2.2.2.2.2.1 i2).bind fun x3=>cond (decide (x3=xc)) (some (.inr ((.inr (true))))) (some (.inl (IntKind.wrap .i64 (i2 + 1))))) (some (.inr ((.inl ()))))
def je (xa:Tq1) (xb:(Int×Int×Bool)) (xc:Int):Option Bool :=
 (aa xa.2.2.2.2.2.2 xb.1).bind fun x1=>cond (!xb.2.2) ((aa x1.1 xb.2.1).bind fun x2=>some (((decide (1≤x2.1))&&(decide (x2.1≤4)))&&(decide (x2.2.2.1=xc)))) (cond (decide (x1.2.1=3)) (some (decide (xc=0))) ((loop (oq xc x1) 0).bind fun o=>match o with | .inr r=>some r | .inl ()=>some (false)))
def Mf:Hn Tryz.prog := .tw 18 (.gp 3 (.wt 33 (.gp 4 .nil))) (.tw 42 .nil (.jx [] ⟨[],[]⟩ [2,0] (.lp ⟨[kdI 9],[]⟩ (.tw 50 (.tw 60 .nil .nil) .nil)) .nil))
def Nl:Spec:=⟨96,⟨[(0,.dat Yq1),(1,.dat (.cons Yq2 Yq3)),kdI 2],[]⟩,[⟨[kdB 0],[]⟩],fun x=>je x.1 x.2.1 x.2.2⟩
def Jn:OkSpec Tryz.prog:=⟨Nl,ab func96 Mf (by kernel_rfl) (by kernel_rfl),call96⟩

def jb (xa:Tq1) (xb:(Int×Int×Bool)) (xc:Int):Option Bool :=
 (aa xa.2.2.2.2.2.2 xb.1).bind fun x58=>cond (!xb.2.2) ((aa x58.1 xb.2.1).bind fun x85=>some (((((decide (x85.1=1))||(decide (x85.1=2)))||(decide (x85.1=3)))||(decide (x85.1=5)))&&(decide (x85.2.1=xc)))) (some ((decide (x58.2.1=4))&&(decide (x58.2.2.2.1=xc))))
def LA:Hn Tryz.prog := .tw 17 (.gp 3 (.wt 32 (.gp 3 (.wt 37 (.gp 3 (.wt 42 (.gp 4 .nil))))))) (.gp 5 .nil)
def LP:Spec:=⟨97,⟨[(0,.dat Yq1),(1,.dat (.cons Yq2 Yq3)),kdI 2],[]⟩,[⟨[kdB 0],[]⟩],fun x=>jb x.1 x.2.1 x.2.2⟩
def Js:OkSpec Tryz.prog:=⟨LP,ab func97 LA (by kernel_rfl) (by kernel_rfl),call97⟩
def kZ (xa:Tq1) (xb:Int) (l1:aR):aO→Option (aO⊕(List Int)):=fun (l2,i3)=>cond (decide (i3 < (l1.length:Int))) ((aa l1 i3).bind fun x4=>(je xa (x4.1,x4.2.1,x4.2.2) xb).bind fun t5=>cond (t5) ((app l2 ([1]:List Int)).bind fun z6=>some (.inl ((z6,IntKind.wrap .i64 (i3 + 1))))) ((app l2 ([0]:List Int)).bind fun z7=>some (.inl ((z7,IntKind.wrap .i64 (i3 + 1)))))) (some (.inr (l2)))
def k7 (xa:Tq1) (xb:Int) (l1:aR) (l2:Tq7):((List Int)×Bool×Int)→Option (((List Int)×Bool×Int)⊕((List Int)×Bool)):=fun (l3,t4,i5)=>cond (decide (i5 < (l2.length:Int))) ((aa l2 i5).bind fun x6=>((aa l3 x6.1).bind fun x7=>cond (decide (x7=0)) ((aa l2 i5).bind fun x8=>(aa l3 x8.2).bind fun x9=>cond (decide (x9=1)) ((aa l1 x6.1).bind fun x10=>(jb xa (x10.1,x10.2.1,x10.2.2) xb).bind fun t11=>some (!t11)) (some (false))) (some (false)):Option Bool).bind fun t12=>cond (t12) ((aa l3 x6.1).bind fun x13=>(some (l3.set x6.1.toNat 1)).bind fun z14=>some (.inl ((z14,true,IntKind.wrap .i64 (i5 + 1))))) (some (.inl ((l3,t4,IntKind.wrap .i64 (i5 + 1)))))) (some (.inr (((l3,t4)))))
def sI (xa:Tq1) (xb:Int) (l1:aR) (l2:Tq7):((List Int)×Bool)→Option (((List Int)×Bool)⊕(List Int)):=fun (l3,t4)=>cond (t4) ((loop (k7 xa xb l1 l2) (l3,false,0)).bind fun (l5,t6)=>some (.inl (l5,t6))) (some (.inr (l3)))
def lD (xa:Tq1) (xb:Int):Option (List Int) :=
 (dd xa).bind fun l1=>(lZ xa).bind fun l2=>(loop (kZ xa xb l1) ((([]:List Int),0))).bind fun l3=>(loop (sI xa xb l1 l2) (l3,true)).bind fun l4=>some (l4)
def JL:Hn Tryz.prog := .cl rn [] (.cl KG [] (.jn [] ⟨[(7,.own 3 Yq2),(16,.any)],[]⟩ [6] (.lp ⟨[(7,.own 3 Yq2),kdI 8],[]⟩ (.tw 20 (.mix [] [0,1,2,3,4,5] [6] [] (.cl Jn [] (.tw 29 .nil .nil))) .nil)) (.jn [] ⟨[(7,.own 3 Yq2)],[]⟩ [8] (.lp ⟨[(7,.own 3 Yq2),kdB 9],[]⟩ (.tw 36 (.pl (.jn [] ⟨[(7,.own 3 Yq2),kdB 9],[]⟩ [10] (.lp ⟨[(7,.own 3 Yq2),kdB 9,kdI 10],[]⟩ (.tw 40 (.pl (.pl (.sq [] ⟨[kdB 73],[]⟩ [] (.mix [] [0,1,2,3,4,5,6,7,8,9,10,11,12,13,14,15,16,17,18,19,20,21,22] [23,24,25] [] (.two 53 (.two 64 (.cl Js [] .nil) .nil) .nil)) (.tw 73 .nil .nil)))) .nil)) .nil)) .nil)) .nil)))
def JC:Spec:=⟨63,⟨[(0,.dat Yq1),kdI 1],[]⟩,[⟨[(0,.own 3 Yq2)],[]⟩],fun x=>lD x.1 x.2⟩
def Nx:OkSpec Tryz.prog:=⟨JC,ab func63 JL (by kernel_rfl) (by kernel_rfl),call63⟩
def lE (xa:Tq1):(aL×Int)→Option ((aL×Int)⊕aL):=fun (l1,i2)=>cond (decide (i2 < (xa.2.2.2.1.length:Int))) ((lD xa i2).bind fun l3=>(app l1 (([l3]:List (List Int)))).bind fun z4=>some (.inl ((z4,IntKind.wrap .i64 (i2 + 1))))) (some (.inr (l1)))
def ml (xa:Tq1):Option (aL) :=
 (loop (lE xa) ((([]:List (List Int)),0))).bind fun l1=>some (l1)
def Kv:Hn Tryz.prog := .jn [] ⟨[(3,.own 48 (.sl Yq2)),(5,.any)],[]⟩ [2] (.lp ⟨[(3,.own 48 (.sl Yq2)),kdI 4],[]⟩ (.tw 10 (.cl Nx [] (.per 6 7 .nil)) .nil)) .nil
def MA:Spec:=⟨33,⟨[(0,.dat Yq1)],[]⟩,[⟨[(0,.own 48 (.sl Yq2))],[]⟩],fun x=>ml x⟩
def NM:OkSpec Tryz.prog:=⟨MA,ab func33 Kv (by kernel_rfl) (by kernel_rfl),call33⟩
def oL (xa:Tq3) (xb:Int):Int→Option (Int⊕(Unit⊕Bool)):=fun i1=>cond (decide (i1 < (xa.length:Int))) ((aa xa i1).bind fun x2=>cond (decide (x2.1=xb)) (some (.inr ((.inr (true))))) (some (.inl (IntKind.wrap .i64 (i1 + 1))))) (some (.inr ((.inl ()))))
def pf (xa:Tq3) (xb:Int):Option Bool :=
 (loop (oL xa xb) 0).bind fun o=>match o with | .inr r=>some r | .inl ()=>some (false)
def K7:Hn Tryz.prog := .jx [] ⟨[],[]⟩ [] (.lp ⟨[kdI 5],[]⟩ (.tw 10 (.tw 20 .nil .nil) .nil)) .nil
def N1:Spec:=⟨34,⟨[(0,.dat Yq8),kdI 1],[]⟩,[⟨[kdB 0],[]⟩],fun x=>pf x.1 x.2⟩
def Lt:OkSpec Tryz.prog:=⟨N1,ab func34 K7 (by kernel_rfl) (by kernel_rfl),call34⟩
def jc (xa:Tq1) (l1:aR) (l2:aL) (i3:Int) (i4:Int):bp→Option (bp⊕Int):=fun (i5,i6)=>cond (((decide (i6 < (xa.2.2.2.1.length:Int)))&&(decide (i4 < (l1.length:Int))))&&(decide (xa.1≤i3))) ((aa xa.2.2.2.1 i6).bind fun x7=>(pf x7 i3).bind fun t8=>(cond (t8) ((aa l2 i6).bind fun x9=>(aa x9 i4).bind fun x10=>some (decide (x10=1))) (some (false))).bind fun t11=>cond (t11) (some (.inl ((1,IntKind.wrap .i64 (i6 + 1))))) (some (.inl ((i5,IntKind.wrap .i64 (i6 + 1)))))) (some (.inr (i5)))
def lT (xa:Tq1) (l1:aR) (l2:aL) (i3:Int):aO→Option (aO⊕(List Int)):=fun (l4,i5)=>cond (decide (i5 < (IntKind.wrap .i64 ((l1.length:Int) + xa.1)))) ((cond ((decide (i3 < xa.1))&&((decide (i5 < (l1.length:Int)))||(decide (i5=(IntKind.wrap .i64 ((l1.length:Int) + i3)))))) (some (1)) (some (0)):Option Int).bind fun i6=>(loop (jc xa l1 l2 i3 i5) (i6,0)).bind fun i7=>(app l4 ([i7]:List Int)).bind fun z8=>some (.inl ((z8,IntKind.wrap .i64 (i5 + 1))))) (some (.inr (l4)))
def lU (xa:Tq1) (l1:aR) (l2:aL):(aL×Int)→Option ((aL×Int)⊕aL):=fun (l3,i4)=>cond (decide (i4 < xa.2.1)) ((loop (lT xa l1 l2 i4) ((([]:List Int),0))).bind fun l5=>(app l3 (([l5]:List (List Int)))).bind fun z6=>some (.inl ((z6,IntKind.wrap .i64 (i4 + 1))))) (some (.inr (l3)))
def eH (xa:Tq1):Option (aL) :=
 (dd xa).bind fun l1=>cond (decide ((l1.length:Int)=0)) (some (([]:List (List Int)))) ((ml xa).bind fun l2=>(loop (lU xa l1 l2) ((([]:List (List Int)),0))).bind fun l3=>some (l3))
def NN:Hn Tryz.prog := .cl rn [] (.tw 16 .nil (.cl NM [] (.per 6 7 (.jn [] ⟨[(4,.own 48 (.sl Yq2)),(12,.any),(14,.any)],[]⟩ [4,2] (.lp ⟨[(4,.own 48 (.sl Yq2)),kdI 6],[]⟩ (.tw 23 (.pl (.pl (.jn [] ⟨[(7,.own 3 Yq2),(26,.any)],[]⟩ [10] (.lp ⟨[(7,.own 3 Yq2),kdI 8],[]⟩ (.tw 32 (.pl (.pl (.sq [] ⟨[kdI 9],[]⟩ [] (.gp 10 (.tw 50 .nil .nil)) (.jn [] ⟨[kdI 9],[]⟩ [] (.lp ⟨[kdI 9,kdI 10],[]⟩ (.gp 3 (.wt 61 (.gp 4 (.tw 66 (.cl Lt [] (.gj 8 ⟨[kdB 85],[]⟩ [] (.two 76 .nil .nil) (.tw 85 .nil .nil))) .nil))))) .nil)))) .nil)) (.per 12 13 .nil)))) .nil)) .nil))))
def Nw:Spec:=⟨9,⟨[(0,.dat Yq1)],[]⟩,[⟨[(0,.own 48 (.sl Yq2))],[]⟩],fun x=>eH x⟩
def Mo:OkSpec Tryz.prog:=⟨Nw,ab func9 NN (by kernel_rfl) (by kernel_rfl),call9⟩

def eG (xa:Tq1) (xb:Int):Option ba :=
 (dw xa).bind fun p26=>(dp p26).bind fun i34=>cond (((decide (i34=0))||(decide (xb < 0)))||(decide (xa.1≤xb))) (some ((0,false))) (some ((IntKind.wrap .i64 (i34 + xb),true)))
def LC:Hn Tryz.prog := .cl rU [] (.cl kl [] (.gp 2 (.wt 16 (.gp 4 (.tw 21 .nil .nil)))))
def Nm:Spec:=⟨11,⟨[(0,.dat Yq1),kdI 1],[]⟩,[⟨[(0,.tup [.dat Yq2,.dat .bool])],[]⟩],fun x=>eG x.1 x.2⟩
def KJ:OkSpec Tryz.prog:=⟨Nm,ab func11 LC (by kernel_rfl) (by kernel_rfl),call11⟩

def sm (qa0:Int) (qa1:Int) (qa2:Int) (qa3:Int) (qa4:Int) (qa5:Int) (qa6:Int):Option Int :=
 (dP 0).bind fun t12=>cond (!t12) (some (0)) (some (qa0))
def Mj:Hn Tryz.prog := .cl fW [] (.tw 11 .nil .nil)
def Ku:Spec:=⟨13,⟨[(0,.ptr 0 0),(1,.lit (.int .i64 0))],[bkN 35 [.is 1 (.dat Yq2),.is 2 (.dat Yq2),.is 3 (.dat Yq2),.is 4 (.dat Yq2),.is 5 (.dat Yq2),.is 6 (.dat Yq2),.is 7 (.dat Yq2)],bkM,bkM,bkM,bkM,bkM,bkM,bkM]⟩,[⟨[kdI 0],[bkC 0 35 [.is 1 (.any),.is 2 (.any),.is 3 (.any),.is 4 (.any),.is 5 (.any),.is 6 (.any),.is 7 (.any)],bkU 1,bkU 2,bkU 3,bkU 4,bkU 5,bkU 6,bkU 7]⟩],fun x=>sm x.1 x.2.1 x.2.2.1 x.2.2.2.1 x.2.2.2.2.1 x.2.2.2.2.2.1 x.2.2.2.2.2.2⟩
def Mb:OkSpec Tryz.prog:=⟨Ku,ab func13 Mj (by kernel_rfl) (by kernel_rfl),call13⟩

def sk (qa0:Int) (qa1:Int) (qa2:Int) (qa3:Int) (qa4:Int) (qa5:Int) (qa6:Int):Option Int :=
 (dP 1).bind fun t12=>cond (!t12) (some (0)) (some (qa1))
def Jz:Hn Tryz.prog := .cl fW [] (.tw 11 .nil .nil)
def KS:Spec:=⟨13,⟨[(0,.ptr 0 0),(1,.lit (.int .i64 1))],[bkN 35 [.is 1 (.dat Yq2),.is 2 (.dat Yq2),.is 3 (.dat Yq2),.is 4 (.dat Yq2),.is 5 (.dat Yq2),.is 6 (.dat Yq2),.is 7 (.dat Yq2)],bkM,bkM,bkM,bkM,bkM,bkM,bkM]⟩,[⟨[kdI 0],[bkC 0 35 [.is 1 (.any),.is 2 (.any),.is 3 (.any),.is 4 (.any),.is 5 (.any),.is 6 (.any),.is 7 (.any)],bkU 1,bkU 2,bkU 3,bkU 4,bkU 5,bkU 6,bkU 7]⟩],fun x=>sk x.1 x.2.1 x.2.2.1 x.2.2.2.1 x.2.2.2.2.1 x.2.2.2.2.2.1 x.2.2.2.2.2.2⟩
def Ke:OkSpec Tryz.prog:=⟨KS,ab func13 Jz (by kernel_rfl) (by kernel_rfl),call13⟩

def kG (qa0:Int) (qa1:Int) (qa2:Int) (qa3:Int) (qa4:Int) (qa5:Int) (qa6:Int):Option Int :=
 (dP 2).bind fun t12=>cond (!t12) (some (0)) (some (qa2))
def KT:Hn Tryz.prog := .cl fW [] (.tw 11 .nil .nil)
def LS:Spec:=⟨13,⟨[(0,.ptr 0 0),(1,.lit (.int .i64 2))],[bkN 35 [.is 1 (.dat Yq2),.is 2 (.dat Yq2),.is 3 (.dat Yq2),.is 4 (.dat Yq2),.is 5 (.dat Yq2),.is 6 (.dat Yq2),.is 7 (.dat Yq2)],bkM,bkM,bkM,bkM,bkM,bkM,bkM]⟩,[⟨[kdI 0],[bkC 0 35 [.is 1 (.any),.is 2 (.any),.is 3 (.any),.is 4 (.any),.is 5 (.any),.is 6 (.any),.is 7 (.any)],bkU 1,bkU 2,bkU 3,bkU 4,bkU 5,bkU 6,bkU 7]⟩],fun x=>kG x.1 x.2.1 x.2.2.1 x.2.2.2.1 x.2.2.2.2.1 x.2.2.2.2.2.1 x.2.2.2.2.2.2⟩
def Bv:OkSpec Tryz.prog:=⟨LS,ab func13 KT (by kernel_rfl) (by kernel_rfl),call13⟩

def sg (qa0:Int) (qa1:Int) (qa2:Int) (qa3:Int) (qa4:Int) (qa5:Int) (qa6:Int):Option Int :=
 (dP 3).bind fun t12=>cond (!t12) (some (0)) (some (qa3))
def Lh:Hn Tryz.prog := .cl fW [] (.tw 11 .nil .nil)
def Li:Spec:=⟨13,⟨[(0,.ptr 0 0),(1,.lit (.int .i64 3))],[bkN 35 [.is 1 (.dat Yq2),.is 2 (.dat Yq2),.is 3 (.dat Yq2),.is 4 (.dat Yq2),.is 5 (.dat Yq2),.is 6 (.dat Yq2),.is 7 (.dat Yq2)],bkM,bkM,bkM,bkM,bkM,bkM,bkM]⟩,[⟨[kdI 0],[bkC 0 35 [.is 1 (.any),.is 2 (.any),.is 3 (.any),.is 4 (.any),.is 5 (.any),.is 6 (.any),.is 7 (.any)],bkU 1,bkU 2,bkU 3,bkU 4,bkU 5,bkU 6,bkU 7]⟩],fun x=>sg x.1 x.2.1 x.2.2.1 x.2.2.2.1 x.2.2.2.2.1 x.2.2.2.2.2.1 x.2.2.2.2.2.2⟩
def J9:OkSpec Tryz.prog:=⟨Li,ab func13 Lh (by kernel_rfl) (by kernel_rfl),call13⟩

def sf (qa0:Int) (qa1:Int) (qa2:Int) (qa3:Int) (qa4:Int) (qa5:Int) (qa6:Int):Option Int :=
 (dP 4).bind fun t12=>cond (!t12) (some (0)) (some (qa4))
def MV:Hn Tryz.prog := .cl fW [] (.tw 11 .nil .nil)
def Lq:Spec:=⟨13,⟨[(0,.ptr 0 0),(1,.lit (.int .i64 4))],[bkN 35 [.is 1 (.dat Yq2),.is 2 (.dat Yq2),.is 3 (.dat Yq2),.is 4 (.dat Yq2),.is 5 (.dat Yq2),.is 6 (.dat Yq2),.is 7 (.dat Yq2)],bkM,bkM,bkM,bkM,bkM,bkM,bkM]⟩,[⟨[kdI 0],[bkC 0 35 [.is 1 (.any),.is 2 (.any),.is 3 (.any),.is 4 (.any),.is 5 (.any),.is 6 (.any),.is 7 (.any)],bkU 1,bkU 2,bkU 3,bkU 4,bkU 5,bkU 6,bkU 7]⟩],fun x=>sf x.1 x.2.1 x.2.2.1 x.2.2.2.1 x.2.2.2.2.1 x.2.2.2.2.2.1 x.2.2.2.2.2.2⟩
def Mk:OkSpec Tryz.prog:=⟨Lq,ab func13 MV (by kernel_rfl) (by kernel_rfl),call13⟩

def sh (qa0:Int) (qa1:Int) (qa2:Int) (qa3:Int) (qa4:Int) (qa5:Int) (qa6:Int):Option Int :=
 (dP 5).bind fun t12=>cond (!t12) (some (0)) (some (qa5))
def ML:Hn Tryz.prog := .cl fW [] (.tw 11 .nil .nil)
def LQ:Spec:=⟨13,⟨[(0,.ptr 0 0),(1,.lit (.int .i64 5))],[bkN 35 [.is 1 (.dat Yq2),.is 2 (.dat Yq2),.is 3 (.dat Yq2),.is 4 (.dat Yq2),.is 5 (.dat Yq2),.is 6 (.dat Yq2),.is 7 (.dat Yq2)],bkM,bkM,bkM,bkM,bkM,bkM,bkM]⟩,[⟨[kdI 0],[bkC 0 35 [.is 1 (.any),.is 2 (.any),.is 3 (.any),.is 4 (.any),.is 5 (.any),.is 6 (.any),.is 7 (.any)],bkU 1,bkU 2,bkU 3,bkU 4,bkU 5,bkU 6,bkU 7]⟩],fun x=>sh x.1 x.2.1 x.2.2.1 x.2.2.2.1 x.2.2.2.2.1 x.2.2.2.2.2.1 x.2.2.2.2.2.2⟩
def L3:OkSpec Tryz.prog:=⟨LQ,ab func13 ML (by kernel_rfl) (by kernel_rfl),call13⟩

def sn (qa0:Int) (qa1:Int) (qa2:Int) (qa3:Int) (qa4:Int) (qa5:Int) (qa6:Int):Option Int :=
 (dP 6).bind fun t12=>cond (!t12) (some (0)) (some (qa6))
def NW:Hn Tryz.prog := .cl fW [] (.tw 11 .nil .nil)
def Ky:Spec:=⟨13,⟨[(0,.ptr 0 0),(1,.lit (.int .i64 6))],[bkN 35 [.is 1 (.dat Yq2),.is 2 (.dat Yq2),.is 3 (.dat Yq2),.is 4 (.dat Yq2),.is 5 (.dat Yq2),.is 6 (.dat Yq2),.is 7 (.dat Yq2)],bkM,bkM,bkM,bkM,bkM,bkM,bkM]⟩,[⟨[kdI 0],[bkC 0 35 [.is 1 (.any),.is 2 (.any),.is 3 (.any),.is 4 (.any),.is 5 (.any),.is 6 (.any),.is 7 (.any)],bkU 1,bkU 2,bkU 3,bkU 4,bkU 5,bkU 6,bkU 7]⟩],fun x=>sn x.1 x.2.1 x.2.2.1 x.2.2.2.1 x.2.2.2.2.1 x.2.2.2.2.2.1 x.2.2.2.2.2.2⟩
def LT:OkSpec Tryz.prog:=⟨Ky,ab func13 NW (by kernel_rfl) (by kernel_rfl),call13⟩

def kF (qa0:Int) (qa1:Int) (qa2:Int) (qa3:Int) (qa4:Int) (qa5:Int) (qa6:Int):Option Int :=
 (sm qa0 qa1 qa2 qa3 qa4 qa5 qa6).bind fun i88=>(cx 0 i88).bind fun i94=>(sk qa0 qa1 qa2 qa3 qa4 qa5 qa6).bind fun i7=>(cx i94 i7).bind fun i8=>(kG qa0 qa1 qa2 qa3 qa4 qa5 qa6).bind fun i9=>(cx i8 i9).bind fun i10=>(sg qa0 qa1 qa2 qa3 qa4 qa5 qa6).bind fun i11=>(cx i10 i11).bind fun i12=>(sf qa0 qa1 qa2 qa3 qa4 qa5 qa6).bind fun i13=>(cx i12 i13).bind fun i14=>(sh qa0 qa1 qa2 qa3 qa4 qa5 qa6).bind fun i15=>(cx i14 i15).bind fun i16=>(sn qa0 qa1 qa2 qa3 qa4 qa5 qa6).bind fun i17=>(cx i16 i17).bind fun i18=>some (i18)
def NU:Hn Tryz.prog := .un 64 (.cl Mb [] (.cl fT [] (.cl Ke [] (.cl fT [] (.cl Bv [] (.cl fT [] (.cl J9 [] (.cl fT [] (.cl Mk [] (.cl fT [] (.cl L3 [] (.cl fT [] (.cl LT [] (.cl fT [] .nil))))))))))))))
def Lf:Spec:=⟨12,⟨[(0,.ptr 0 0)],[bkN 35 [.is 1 (.dat Yq2),.is 2 (.dat Yq2),.is 3 (.dat Yq2),.is 4 (.dat Yq2),.is 5 (.dat Yq2),.is 6 (.dat Yq2),.is 7 (.dat Yq2)],bkM,bkM,bkM,bkM,bkM,bkM,bkM]⟩,[⟨[kdI 0],[bkC 0 35 [.is 1 (.any),.is 2 (.any),.is 3 (.any),.is 4 (.any),.is 5 (.any),.is 6 (.any),.is 7 (.any)],bkU 1,bkU 2,bkU 3,bkU 4,bkU 5,bkU 6,bkU 7]⟩],fun x=>kF x.1 x.2.1 x.2.2.1 x.2.2.2.1 x.2.2.2.2.1 x.2.2.2.2.2.1 x.2.2.2.2.2.2⟩
def Bh:OkSpec Tryz.prog:=⟨Lf,ab func12 NU (by kernel_rfl) (by kernel_rfl),call12⟩

def sH (xa:ba) (qa0:Int):Option Bool :=
 some (decide (xa.1=qa0))
def MH:Hn Tryz.prog := .nil
def Np:Spec:=⟨67,⟨[(0,.dat Yq3),(1,.ptr 0 0)],[bkN 3 [.is 1 (.dat Yq2)],bkM]⟩,[⟨[kdB 0],[bkC 0 3 [.is 1 (.any)],bkU 1]⟩],fun x=>sH x.1 x.2⟩
def LL:OkSpec Tryz.prog:=⟨Np,ab func67 MH (by kernel_rfl) (by kernel_rfl),call67⟩
def nF (xa:Tq3) (qa0:Int):Int→Option (Int⊕(Unit⊕Int)):=fun i1=>cond (decide (i1 < (xa.length:Int))) ((aa xa i1).bind fun x2=>(sH (x2.1,x2.2) qa0).bind fun t3=>cond (t3) (some (.inr ((.inr (i1))))) (some (.inl (IntKind.wrap .i64 (i1 + 1))))) (some (.inr ((.inl ()))))
def r7 (xa:Tq3) (qa0:Int):Option Int :=
 (loop (nF xa qa0) 0).bind fun o=>match o with | .inr r=>some r | .inl ()=>some ((-1))
def Md:Hn Tryz.prog := .jx [] ⟨[],[bkC 0 3 [.is 1 (.any)],bkU 1]⟩ [0] (.lp ⟨[kdI 8],[bkC 0 3 [.is 1 (.any)],bkU 1]⟩ (.tw 9 (.cl LL [] (.tw 16 .nil .nil)) .nil)) .nil
def Kw:Spec:=⟨102,⟨[(0,.dat (.sl Yq3)),(1,.fn 67 [.ptr 0 0])],[bkN 3 [.is 1 (.dat Yq2)],bkM]⟩,[⟨[kdI 0],[bkC 0 3 [.is 1 (.any)],bkU 1]⟩],fun x=>r7 x.1 x.2⟩
def NF:OkSpec Tryz.prog:=⟨Kw,ab func102 Md (by kernel_rfl) (by kernel_rfl),call102⟩

def r6 (xa:Tq3) (qa0:Int):Option Bool :=
 (r7 xa qa0).bind fun i10=>some (decide (0≤i10))
def J2:Hn Tryz.prog := .cl NF [] .nil
def Lk:Spec:=⟨66,⟨[(0,.dat (.sl Yq3)),(1,.fn 67 [.ptr 0 0])],[bkN 3 [.is 1 (.dat Yq2)],bkM]⟩,[⟨[kdB 0],[bkC 0 3 [.is 1 (.any)],bkU 1]⟩],fun x=>r6 x.1 x.2⟩
def MW:OkSpec Tryz.prog:=⟨Lk,ab func66 J2 (by kernel_rfl) (by kernel_rfl),call66⟩

def my (xa:Tq3) (xb:Int):Option Bool :=
 (r6 xa xb).bind fun t14=>some (t14)
def LR:Hn Tryz.prog := .mc 2 0 3 (.cl MW [] .nil)
def L6:Spec:=⟨40,⟨[(0,.dat Yq8),kdI 1],[]⟩,[⟨[kdB 0],[]⟩],fun x=>my x.1 x.2⟩
def Bs:OkSpec Tryz.prog:=⟨L6,ab func40 LR (by kernel_rfl) (by kernel_rfl),call40⟩

def wI  : Option Unit :=
 some (())
def NE:Hn Tryz.prog := .nil
def M1:Spec:=⟨41,⟨[(0,.nilp)],[]⟩,[⟨[(0,.fn 68 [.ptr 0 0])],[bkN 50 [.nilp]]⟩],fun x=>wI⟩
def LW:OkSpec Tryz.prog:=⟨M1,ab func41 NE (by kernel_rfl) (by kernel_rfl),call41⟩

def wE  : Option (List Int) :=
 (dN ((none:(Option Tq2)))).bind fun t40=>cond (t40) (none) ((gU ([])).bind fun l47=>(dM l47).bind fun l58=>some (l58))
def KU:Hn Tryz.prog := .cl iF [] (.tw 4 .nil (.cl vQ [] (.cl j7 [] .nil)))
def Ko:Spec:=⟨69,⟨[(0,.nilp)],[]⟩,[⟨[(0,.fn 89 [.ptr 0 0])],[bkN 85 [.ptr 1 0],bkN 120 [.own 3 Yq2]]⟩],fun x=>wE⟩
def Mw:OkSpec Tryz.prog:=⟨Ko,ab func69 KU (by kernel_rfl) (by kernel_rfl),call69⟩

def sy (qa0:Int) (qa1:aE) (qa2:Tq5):Option ((aE×Tq5)) :=
 some ((qa1,qa2))
def KP:Hn Tryz.prog := .nil
def Ju:Spec:=⟨41,⟨[(0,.ptr 0 0)],[bkN 88 [.is 1 (.dat Yq2),.od (.box 120 (.one (.row 3 (.dat Yq2)))),.od (.box 116 (.cons (.dat Yq2) (.one (.row 113 (.dat Yq7)))))],bkM]⟩,[⟨[(0,.fn 68 [.ptr 1 0])],[bkC 0 88 [.is 2 (.any),.od (.box 120 (.one (.row 3 (.dat Yq2)))),.od (.box 116 (.cons (.dat Yq2) (.one (.row 113 (.dat Yq7)))))],bkN 50 [.ptr 0 0],bkU 1]⟩],fun x=>sy x.1 x.2.1 x.2.2⟩
def NK:OkSpec Tryz.prog:=⟨Ju,ab func41 KP (by kernel_rfl) (by kernel_rfl),call41⟩

def sA (qa0:Int) (qa1:(List Int)):Option (List Int) :=
 some (qa1)
def KQ:Hn Tryz.prog := .nil
def MX:Spec:=⟨92,⟨[(0,.ptr 0 0)],[bkN 116 [.is 1 (.dat Yq2),.own 113 Yq7],bkM]⟩,[⟨[(0,.fn 122 [.ptr 1 0])],[bkC 0 116 [.is 2 (.any),.own 113 Yq7],bkN 86 [.ptr 0 0],bkU 1]⟩],fun x=>sA x.1 x.2⟩
def MU:OkSpec Tryz.prog:=⟨MX,ab func92 KQ (by kernel_rfl) (by kernel_rfl),call92⟩

def su (qa0:Int) (qa1:aE) (qa2:Tq5):Option (((aE×Int×(List Int))⊕(Tq5×(List Int)))) :=
 (dN (some (qa0,qa1,qa2))).bind fun t3=>cond (t3) ((qa2).bind fun y4=>(sA y4.1 y4.2).bind fun l5=>some (.inl (qa1,y4.1,l5))) ((qa1).bind fun y6=>(dM y6).bind fun l7=>some (.inr (qa2,l7)))
def LV:Hn Tryz.prog := .cl iF [2,4,0] (.tw 4 (.wt 8 (.opb 4 5 (.wt 1000010 (.mc 4 0 7 (.cl MU [] .nil))))) (.wt 17 (.opb 2 3 (.cl j7 [] (.pl .nil)))))
def NQ:Spec:=⟨69,⟨[(0,.ptr 0 0)],[bkN 88 [.is 1 (.dat Yq2),.od (.box 120 (.one (.row 3 (.dat Yq2)))),.od (.box 116 (.cons (.dat Yq2) (.one (.row 113 (.dat Yq7)))))],bkM]⟩,[⟨[(0,.fn 122 [.ptr 1 0])],[bkC 0 88 [.is 3 (.any),.od (.box 120 (.one (.row 3 (.dat Yq2)))),.ptr 2 0],bkN 86 [.ptr 2 0],bkN 116 [.dat Yq2,.own 113 Yq7],bkU 1]⟩,⟨[(0,.fn 89 [.ptr 1 0])],[bkC 0 88 [.is 3 (.any),.ptr 2 0,.od (.box 116 (.cons (.dat Yq2) (.one (.row 113 (.dat Yq7)))))],bkN 85 [.ptr 2 0],bkN 120 [.own 3 Yq2],bkU 1]⟩],fun x=>su x.1 x.2.1 x.2.2⟩
def Ln:OkSpec Tryz.prog:=⟨NQ,ab func69 LV (by kernel_rfl) (by kernel_rfl),call69⟩
def C2 (l1:(List Int)):Int→Option (Int⊕Unit):=fun i2=>cond (decide (i2 < (l1.length:Int))) ((aa l1 i2).bind fun x3=>(gI x3).bind fun t4=>some (.inl (IntKind.wrap .i64 (i2 + 1)))) (some (.inr ((()))))
def C1 (xa:Tq1) (xb:Int) (p1:(Option cO)):Int→Option (Int⊕Unit):=fun i2=>cond (decide (i2 < (xa.2.2.2.1.length:Int))) ((aa xa.2.2.2.1 i2).bind fun x3=>(my x3 xb).bind fun t4=>cond (t4) ((cQ p1 i2).bind fun l5=>(loop (C2 l5) 0).bind fun ()=>some (.inl (IntKind.wrap .i64 (i2 + 1)))) (some (.inl (IntKind.wrap .i64 (i2 + 1))))) (some (.inr ((()))))
def C3 (l1:(List Int)):gC→Option (gC⊕(List Int)):=fun (i2,t3,l4)=>cond (t3) ((app l4 ([i2]:List Int)).bind fun z5=>(bQ (some l1) (IntKind.wrap .i64 (i2 + 1))).bind fun i6=>(bv (some l1) i6).bind fun (i7,t8)=>some (.inl (i7,t8,z5))) (some (.inr (l4)))
def ll (i1:Int) (l2:(List Int)):Tq2→Option (Tq2⊕(aE×Tq5)):=fun (i3,l4,l5)=>cond (decide (i3 < (l2.length:Int))) ((aa l2 i3).bind fun x6=>(bJ x6 i1 l4 l5).bind fun (t7,l8,l9)=>some (.inl ((IntKind.wrap .i64 (i3 + 1),l8,l9)))) (some (.inr (((l4,l5)))))
def lm (xa:Tq1) (xb:Int) (p1:(Option cO)) (i2:Int):Tq2→Option (Tq2⊕(aE×Tq5)):=fun (i3,l4,l5)=>cond (decide (i3 < (xa.2.2.2.1.length:Int))) ((aa xa.2.2.2.1 i3).bind fun x6=>(my x6 xb).bind fun t7=>cond (t7) ((cQ p1 i3).bind fun l8=>(loop (ll i2 l8) (0,l4,l5)).bind fun (l9,l10)=>some (.inl ((IntKind.wrap .i64 (i3 + 1),l9,l10)))) (some (.inl ((IntKind.wrap .i64 (i3 + 1),l4,l5))))) (some (.inr (((l4,l5)))))
def oz (i1:Int) (l2:(List Int)):bA→Option (bA⊕(List Int)):=fun (i3,l4)=>cond (decide (0≤i3)) ((app l4 ([i3]:List Int)).bind fun z5=>(cD (some (i1,l2)) (IntKind.wrap .i64 (i3 + 1))).bind fun i6=>some (.inl (i6,z5))) (some (.inr (l4)))
def lj (l1:(List Int)):gC→Option (gC⊕(List Int)):=fun (i2,t3,l4)=>cond (t3) ((app l4 ([i2]:List Int)).bind fun z5=>(bQ (some l1) (IntKind.wrap .i64 (i2 + 1))).bind fun i6=>(bv (some l1) i6).bind fun (i7,t8)=>some (.inl (i7,t8,z5))) (some (.inr (l4)))
def aP (xa:Tq1) (xb:Int):Option (List Int) :=
 (fx xa).bind fun p1=>(eD p1).bind fun i2=>cond (((decide (i2=0))||(decide (xb < 0)))||(decide (xa.2.1≤xb))) (some ([])) ((eD p1).bind fun i3=>(cF i3).bind fun o=>match o with | .inl _=>(cond (decide (xb < xa.1)) ((eD p1).bind fun i4=>(nV 0 i4).bind fun _=>some (())) (some (())):Option Unit).bind fun ()=>(loop (C1 xa xb p1) 0).bind fun ()=>(wI).bind fun _=>(wE).bind fun l5=>(bv (some l5) 0).bind fun (i6,t7)=>(loop (C3 l5) (i6,t7,[])).bind fun l8=>some (l8) | .inr (i9,l10)=>(cond (decide (xb < xa.1)) ((eD p1).bind fun i11=>(gG 0 i11 i9 l10 none).bind fun (l12,l13)=>some ((l12,l13))) (some ((l10,none))):Option ((aE×Tq5))).bind fun (l14,l15)=>(loop (lm xa xb p1 i9) (0,l14,l15)).bind fun (l16,l17)=>(sy i9 l16 l17).bind fun (l18,l19)=>(su i9 l18 l19).bind fun o=>match o with | .inl (l20,i21,l22)=>(cD (some (i21,l22)) 0).bind fun i23=>(loop (oz i21 l22) (i23,[])).bind fun l24=>some (l24) | .inr (l25,l26)=>(bv (some l26) 0).bind fun (i27,t28)=>(loop (lj l26) (i27,t28,[])).bind fun l29=>some (l29))
def Kk:Hn Tryz.prog := .cl Ba [] (.cl kc [] (.gp 2 (.wt 22 (.gp 4 (.tw 27 .nil (.cl kc [] (.c2 dF [] (.sq [] ⟨[],[]⟩ [] (.tw 34 (.cl kc [] (.cl vL [] .nil)) .nil) (.jn [] ⟨[],[]⟩ [0] (.lp ⟨[kdI 42],[]⟩ (.tw 43 (.cl Bs [] (.tw 49 (.cl ec [] (.jn [] ⟨[],[]⟩ [2] (.lp ⟨[kdI 54],[]⟩ (.tw 55 (.cl ka [] .nil) .nil)) .nil)) .nil)) .nil)) (.cl LW [] (.rg ⟨68,_,func68,call68⟩ (.cl Mw [] (.rg ⟨89,_,func89,call89⟩ (.cl cL [12,10] (.jn [] ⟨[],[bkC 2 48 [.own 3 Yq2],⟨(some 6),0,[],false,false,none,true⟩,⟨(some 15),0,[],false,false,none,true⟩]⟩ [15,6,2] (.lp ⟨[kdI 3,kdB 4],[bkC 2 48 [.own 3 Yq2],⟨(some 6),0,[],false,false,none,true⟩,⟨(some 15),0,[],false,false,none,true⟩]⟩ (.tw 10 (.yl 2 (.pl (.yl 2 (.mix [([0,1,2,3],4),([],5)] [6,7,8,9,10] [] [] (.cl cW [12,10] (.cl cL [12,10] .nil)))))) .nil)) .nil)))))))) (.sq [(2,0)] ⟨[],[bkC 2 88 [.is 1 (.any),.od (.box 120 (.one (.row 3 (.dat Yq2)))),.od (.box 116 (.cons (.dat Yq2) (.one (.row 113 (.dat Yq7)))))],bkU 6]⟩ [2,3] (.tw 34 (.cl kc [] (.cl vN [] .nil)) .nil) (.jn [] ⟨[],[bkC 2 88 [.is 1 (.any),.od (.box 120 (.one (.row 3 (.dat Yq2)))),.od (.box 116 (.cons (.dat Yq2) (.one (.row 113 (.dat Yq7)))))],bkU 6]⟩ [0,2,7,9] (.lp ⟨[kdI 42],[bkC 2 88 [.is 1 (.any),.od (.box 120 (.one (.row 3 (.dat Yq2)))),.od (.box 116 (.cons (.dat Yq2) (.one (.row 113 (.dat Yq7)))))],bkU 6]⟩ (.tw 43 (.cl Bs [] (.tw 49 (.cl ec [] (.jn [] ⟨[],[bkC 2 88 [.is 1 (.any),.od (.box 120 (.one (.row 3 (.dat Yq2)))),.od (.box 116 (.cons (.dat Yq2) (.one (.row 113 (.dat Yq7)))))],bkU 6]⟩ [17,2,12,14] (.lp ⟨[kdI 54],[bkC 2 88 [.is 1 (.any),.od (.box 120 (.one (.row 3 (.dat Yq2)))),.od (.box 116 (.cons (.dat Yq2) (.one (.row 113 (.dat Yq7)))))],bkU 6]⟩ (.tw 55 (.cl cB [] .nil) .nil)) .nil)) .nil)) .nil)) (.cl NK [] (.rg ⟨68,_,func68,call68⟩ (.c2 Ln [] (.rg ⟨122,_,func122,call122⟩ (.cl j9 [45,40] (.jn [] ⟨[],[bkC 17 48 [.own 3 Yq2],⟨(some 31),0,[],false,false,none,true⟩,⟨(some 48),0,[],false,false,none,true⟩]⟩ [48,31,17] (.lp ⟨[kdI 3],[bkC 17 48 [.own 3 Yq2],⟨(some 31),0,[],false,false,none,true⟩,⟨(some 48),0,[],false,false,none,true⟩]⟩ (.tw 7 (.yl 2 (.pl (.yl 2 (.cl j9 [45,40] .nil)))) .nil)) .nil))) (.rg ⟨89,_,func89,call89⟩ (.cl cL [45,40] (.jn [] ⟨[],[bkC 17 48 [.own 3 Yq2],⟨(some 31),0,[],false,false,none,true⟩,⟨(some 48),0,[],false,false,none,true⟩]⟩ [48,31,17] (.lp ⟨[kdI 3,kdB 4],[bkC 17 48 [.own 3 Yq2],⟨(some 31),0,[],false,false,none,true⟩,⟨(some 48),0,[],false,false,none,true⟩]⟩ (.tw 10 (.yl 2 (.pl (.yl 2 (.mix [([0,1,2,3],4),([],5)] [6,7,8,9,10] [] [] (.cl cW [45,40] (.cl cL [45,40] .nil)))))) .nil)) .nil)))))))))))))))
def KK:Spec:=⟨15,⟨[(0,.dat Yq1),kdI 1],[]⟩,[⟨[(0,.own 3 Yq2)],[]⟩],fun x=>aP x.1 x.2⟩
def ce:OkSpec Tryz.prog:=⟨KK,ab func15 Kk (by kernel_rfl) (by kernel_rfl),call15⟩
def lr (xa:(List Int)):aO→Option (aO⊕(List Int)):=fun (l1,i2)=>cond (decide (i2 < (xa.length:Int))) ((aa xa i2).bind fun x3=>cond (decide (x3=1)) ((app l1 ([i2]:List Int)).bind fun z4=>some (.inl ((z4,IntKind.wrap .i64 (i2 + 1))))) (some (.inl ((l1,IntKind.wrap .i64 (i2 + 1)))))) (some (.inr (l1)))
def bB (xa:(List Int)):Option (List Int) :=
 (loop (lr xa) ((([]:List Int),0))).bind fun l1=>some (l1)
def Kx:Hn Tryz.prog := .jn [] ⟨[(3,.own 3 Yq2),(5,.any)],[]⟩ [0] (.lp ⟨[(3,.own 3 Yq2),kdI 4],[]⟩ (.tw 9 (.tw 16 .nil .nil) .nil)) .nil
def NV:Spec:=⟨19,⟨[(0,.dat (.sl Yq2))],[]⟩,[⟨[(0,.own 3 Yq2)],[]⟩],fun x=>bB x⟩
def cu:OkSpec Tryz.prog:=⟨NV,ab func19 Kx (by kernel_rfl) (by kernel_rfl),call19⟩
def kM (xa:Tq1) (l1:Tq8) (l2:aL) (l3:aR):Int→Option (Int⊕(Unit⊕Bool)):=fun i4=>cond (decide (i4 < (l2.length:Int))) ((aa l1 i4).bind fun x5=>(b8 x5).bind fun i6=>cond (!decide (i6=(IntKind.wrap .i64 ((l3.length:Int) + xa.1)))) (some (.inr ((.inr (false))))) ((aa l1 i4).bind fun x7=>(aa l2 i4).bind fun x8=>(cR x7).bind fun l9=>(bB x8).bind fun l10=>(bh l9 l10).bind fun t11=>cond (!t11) (some (.inr ((.inr (false))))) (some (.inl (IntKind.wrap .i64 (i4 + 1)))))) (some (.inr ((.inl ()))))
def CF (xa:Tq1) (l1:Tq8) (l2:aL) (l3:aR):Int→Option (Int⊕(Unit⊕Bool)):=fun i4=>cond (decide (i4 < (l2.length:Int))) ((aa l1 i4).bind fun x5=>(b8 x5).bind fun i6=>cond (!decide (i6=(IntKind.wrap .i64 ((l3.length:Int) + xa.1)))) (some (.inr ((.inr (false))))) ((aa l1 i4).bind fun x7=>(aa l2 i4).bind fun x8=>(cR x7).bind fun l9=>(bB x8).bind fun l10=>(bh l9 l10).bind fun t11=>cond (!t11) (some (.inr ((.inr (false))))) (some (.inl (IntKind.wrap .i64 (i4 + 1)))))) (some (.inr ((.inl ()))))
def CI (xa:Tq1) (l1:Tq8) (l2:aL) (l3:aR):Int→Option (Int⊕(Unit⊕Bool)):=fun i4=>cond (decide (i4 < (l2.length:Int))) ((aa l1 i4).bind fun x5=>(b8 x5).bind fun i6=>cond (!decide (i6=(IntKind.wrap .i64 ((l3.length:Int) + xa.1)))) (some (.inr ((.inr (false))))) ((aa l1 i4).bind fun x7=>(aa l2 i4).bind fun x8=>(cR x7).bind fun l9=>(bB x8).bind fun l10=>(bh l9 l10).bind fun t11=>cond (!t11) (some (.inr ((.inr (false))))) (some (.inl (IntKind.wrap .i64 (i4 + 1)))))) (some (.inr ((.inl ()))))
def CE (xa:Tq1) (l1:Tq8) (l2:aL) (l3:aR):Int→Option (Int⊕(Unit⊕Bool)):=fun i4=>cond (decide (i4 < (l2.length:Int))) ((aa l1 i4).bind fun x5=>(b8 x5).bind fun i6=>cond (!decide (i6=(IntKind.wrap .i64 ((l3.length:Int) + xa.1)))) (some (.inr ((.inr (false))))) ((aa l1 i4).bind fun x7=>(aa l2 i4).bind fun x8=>(cR x7).bind fun l9=>(bB x8).bind fun l10=>(bh l9 l10).bind fun t11=>cond (!t11) (some (.inr ((.inr (false))))) (some (.inl (IntKind.wrap .i64 (i4 + 1)))))) (some (.inr ((.inl ()))))
def CL (xa:Tq1) (l1:Tq8) (l2:aL) (l3:aR):Int→Option (Int⊕(Unit⊕Bool)):=fun i4=>cond (decide (i4 < (l2.length:Int))) ((aa l1 i4).bind fun x5=>(b8 x5).bind fun i6=>cond (!decide (i6=(IntKind.wrap .i64 ((l3.length:Int) + xa.1)))) (some (.inr ((.inr (false))))) ((aa l1 i4).bind fun x7=>(aa l2 i4).bind fun x8=>(cR x7).bind fun l9=>(bB x8).bind fun l10=>(bh l9 l10).bind fun t11=>cond (!t11) (some (.inr ((.inr (false))))) (some (.inl (IntKind.wrap .i64 (i4 + 1)))))) (some (.inr ((.inl ()))))
def CM (xa:Tq1) (l1:Tq8) (l2:aL) (l3:aR):Int→Option (Int⊕(Unit⊕Bool)):=fun i4=>cond (decide (i4 < (l2.length:Int))) ((aa l1 i4).bind fun x5=>(b8 x5).bind fun i6=>cond (!decide (i6=(IntKind.wrap .i64 ((l3.length:Int) + xa.1)))) (some (.inr ((.inr (false))))) ((aa l1 i4).bind fun x7=>(aa l2 i4).bind fun x8=>(cR x7).bind fun l9=>(bB x8).bind fun l10=>(bh l9 l10).bind fun t11=>cond (!t11) (some (.inr ((.inr (false))))) (some (.inl (IntKind.wrap .i64 (i4 + 1)))))) (some (.inr ((.inl ()))))
def CG (xa:Tq1) (l1:Tq8) (l2:aL) (l3:aR):Int→Option (Int⊕(Unit⊕Bool)):=fun i4=>cond (decide (i4 < (l2.length:Int))) ((aa l1 i4).bind fun x5=>(b8 x5).bind fun i6=>cond (!decide (i6=(IntKind.wrap .i64 ((l3.length:Int) + xa.1)))) (some (.inr ((.inr (false))))) ((aa l1 i4).bind fun x7=>(aa l2 i4).bind fun x8=>(cR x7).bind fun l9=>(bB x8).bind fun l10=>(bh l9 l10).bind fun t11=>cond (!t11) (some (.inr ((.inr (false))))) (some (.inl (IntKind.wrap .i64 (i4 + 1)))))) (some (.inr ((.inl ()))))
def CK (xa:Tq1) (l1:Tq8) (l2:aL) (l3:aR):Int→Option (Int⊕(Unit⊕Bool)):=fun i4=>cond (decide (i4 < (l2.length:Int))) ((aa l1 i4).bind fun x5=>(b8 x5).bind fun i6=>cond (!decide (i6=(IntKind.wrap .i64 ((l3.length:Int) + xa.1)))) (some (.inr ((.inr (false))))) ((aa l1 i4).bind fun x7=>(aa l2 i4).bind fun x8=>(cR x7).bind fun l9=>(bB x8).bind fun l10=>(bh l9 l10).bind fun t11=>cond (!t11) (some (.inr ((.inr (false))))) (some (.inl (IntKind.wrap .i64 (i4 + 1)))))) (some (.inr ((.inl ()))))
def sG (xa:Tq1) (xb:Int) (xc:Int):Option Bool :=
 (fv xa).bind fun t1=>cond ((!t1)||(decide (20 < xa.2.1))) ((bf).bind fun t2=>some (t2)) ((kK xa 0 0 0 0 0 0 0).bind fun (l3,i4)=>(eH xa).bind fun l5=>(dd xa).bind fun l6=>(eG xa xb).bind fun (i7,t8)=>(cond (!decide ((l3.length:Int)=(l5.length:Int))) (some (true)) ((kF 0 0 i4 0 0 0 0).bind fun i9=>(kG 0 0 i4 0 0 0 0).bind fun i10=>some (!decide (i9=i10)))).bind fun t11=>(cond (t11) (some (true)) ((kF 0 0 i4 0 0 0 0).bind fun i12=>some (decide (i12 < (l6.length:Int))))).bind fun t13=>cond (t13) (some (false)) (cond (decide ((l6.length:Int)=0)) ((eE xa).bind fun i14=>(cond (((decide (i14=0))&&(decide (i7=0)))&&(!t8)) ((aP xa xc).bind fun l15=>some (decide ((l15.length:Int)=0))) (some (false))).bind fun t16=>(cond (t16) ((bf).bind fun t17=>some (t17)) (some (false))).bind fun t18=>some (t18)) ((eE xa).bind fun i19=>cond (!decide (i19=(IntKind.wrap .i64 ((l6.length:Int) + xa.1)))) (some (false)) (cond (decide (0≤xb)) (cond (!(t8 == (decide (xb < xa.1)))) (some (false)) (cond (t8) (cond (!decide (i7=(IntKind.wrap .i64 ((l6.length:Int) + xb)))) (some (false)) (cond (!t8) (cond (!decide (i7=0)) (some (false)) ((loop (kM xa l3 l5 l6) 0).bind fun o=>match o with | .inr r=>some r | .inl ()=>cond ((decide (xc < 0))||(decide (xa.2.1≤xc))) ((aP xa xc).bind fun l20=>(cond (decide ((l20.length:Int)=0)) ((bf).bind fun t21=>some (t21)) (some (false))).bind fun t22=>some (t22)) ((aa l5 xc).bind fun x23=>(subL x23 0 (l6.length:Int)).bind fun y24=>(aP xa xc).bind fun l25=>(bB y24).bind fun l26=>(bh l25 l26).bind fun t27=>cond (t27) ((bf).bind fun t28=>some (t28)) (some (false))))) ((loop (CF xa l3 l5 l6) 0).bind fun o=>match o with | .inr r=>some r | .inl ()=>cond ((decide (xc < 0))||(decide (xa.2.1≤xc))) ((aP xa xc).bind fun l29=>(cond (decide ((l29.length:Int)=0)) ((bf).bind fun t30=>some (t30)) (some (false))).bind fun t31=>some (t31)) ((aa l5 xc).bind fun x32=>(subL x32 0 (l6.length:Int)).bind fun y33=>(aP xa xc).bind fun l34=>(bB y33).bind fun l35=>(bh l34 l35).bind fun t36=>cond (t36) ((bf).bind fun t37=>some (t37)) (some (false)))))) (cond (!t8) (cond (!decide (i7=0)) (some (false)) ((loop (CI xa l3 l5 l6) 0).bind fun o=>match o with | .inr r=>some r | .inl ()=>cond ((decide (xc < 0))||(decide (xa.2.1≤xc))) ((aP xa xc).bind fun l38=>(cond (decide ((l38.length:Int)=0)) ((bf).bind fun t39=>some (t39)) (some (false))).bind fun t40=>some (t40)) ((aa l5 xc).bind fun x41=>(subL x41 0 (l6.length:Int)).bind fun y42=>(aP xa xc).bind fun l43=>(bB y42).bind fun l44=>(bh l43 l44).bind fun t45=>cond (t45) ((bf).bind fun t46=>some (t46)) (some (false))))) ((loop (CE xa l3 l5 l6) 0).bind fun o=>match o with | .inr r=>some r | .inl ()=>cond ((decide (xc < 0))||(decide (xa.2.1≤xc))) ((aP xa xc).bind fun l47=>(cond (decide ((l47.length:Int)=0)) ((bf).bind fun t48=>some (t48)) (some (false))).bind fun t49=>some (t49)) ((aa l5 xc).bind fun x50=>(subL x50 0 (l6.length:Int)).bind fun y51=>(aP xa xc).bind fun l52=>(bB y51).bind fun l53=>(bh l52 l53).bind fun t54=>cond (t54) ((bf).bind fun t55=>some (t55)) (some (false))))))) (cond (!(t8 == false)) (some (false)) (cond (t8) (cond (!decide (i7=(IntKind.wrap .i64 ((l6.length:Int) + xb)))) (some (false)) (cond (!t8) (cond (!decide (i7=0)) (some (false)) ((loop (CL xa l3 l5 l6) 0).bind fun o=>match o with | .inr r=>some r | .inl ()=>cond ((decide (xc < 0))||(decide (xa.2.1≤xc))) ((aP xa xc).bind fun l56=>(cond (decide ((l56.length:Int)=0)) ((bf).bind fun t57=>some (t57)) (some (false))).bind fun t58=>some (t58)) ((aa l5 xc).bind fun x59=>(subL x59 0 (l6.length:Int)).bind fun y60=>(aP xa xc).bind fun l61=>(bB y60).bind fun l62=>(bh l61 l62).bind fun t63=>cond (t63) ((bf).bind fun t64=>some (t64)) (some (false))))) ((loop (CM xa l3 l5 l6) 0).bind fun o=>match o with | .inr r=>some r | .inl ()=>cond ((decide (xc < 0))||(decide (xa.2.1≤xc))) ((aP xa xc).bind fun l65=>(cond (decide ((l65.length:Int)=0)) ((bf).bind fun t66=>some (t66)) (some (false))).bind fun t67=>some (t67)) ((aa l5 xc).bind fun x68=>(subL x68 0 (l6.length:Int)).bind fun y69=>(aP xa xc).bind fun l70=>(bB y69).bind fun l71=>(bh l70 l71).bind fun t72=>cond (t72) ((bf).bind fun t73=>some (t73)) (some (false)))))) (cond (!t8) (cond (!decide (i7=0)) (some (false)) ((loop (CG xa l3 l5 l6) 0).bind fun o=>match o with | .inr r=>some r | .inl ()=>cond ((decide (xc < 0))||(decide (xa.2.1≤xc))) ((aP xa xc).bind fun l74=>(cond (decide ((l74.length:Int)=0)) ((bf).bind fun t75=>some (t75)) (some (false))).bind fun t76=>some (t76)) ((aa l5 xc).bind fun x77=>(subL x77 0 (l6.length:Int)).bind fun y78=>(aP xa xc).bind fun l79=>(bB y78).bind fun l80=>(bh l79 l80).bind fun t81=>cond (t81) ((bf).bind fun t82=>some (t82)) (some (false))))) ((loop (CK xa l3 l5 l6) 0).bind fun o=>match o with | .inr r=>some r | .inl ()=>cond ((decide (xc < 0))||(decide (xa.2.1≤xc))) ((aP xa xc).bind fun l83=>(cond (decide ((l83.length:Int)=0)) ((bf).bind fun t84=>some (t84)) (some (false))).bind fun t85=>some (t85)) ((aa l5 xc).bind fun x86=>(subL x86 0 (l6.length:Int)).bind fun y87=>(aP xa xc).bind fun l88=>(bB y87).bind fun l89=>(bh l88 l89).bind fun t90=>cond (t90) ((bf).bind fun t91=>some (t91)) (some (false)))))))))))
def CU:Hn Tryz.prog := .cl oQ2 [] (.gp 3 (.tw 21 (.cl bR [] .nil) (.mc 2 0 3 (.mc 2 1 3 (.mc 2 3 3 (.mc 2 4 3 (.mc 2 5 3 (.mc 2 6 3 (.cl Jv [] (.per 11 12 (.cl Mo [] (.cl rn [] (.cl KJ [] (.mc 2 2 13 (.gj 3 ⟨[kdB 45],[bkC 2 35 [.is 1 (.any),.is 2 (.any),.is 3 (.any),.is 4 (.any),.is 5 (.any),.is 6 (.any),.is 7 (.any)],bkU 4,bkU 5,bkU 18,bkU 6,bkU 7,bkU 8,bkU 9]⟩ [2] (.two 41 .nil (.cl Bh [] (.cl Bv [] .nil))) (.wt 46 (.gj 3 ⟨[kdB 50],[bkC 2 35 [.is 1 (.any),.is 2 (.any),.is 3 (.any),.is 4 (.any),.is 5 (.any),.is 6 (.any),.is 7 (.any)],bkU 4,bkU 5,bkU 18,bkU 6,bkU 7,bkU 8,bkU 9]⟩ [2] (.two 46 .nil (.cl Bh [] .nil)) (.tw 50 .nil (.tw 52 (.cl vG [] (.gp 2 (.wt 60 (.gp 2 (.wt 64 (.gj 5 ⟨[kdB 70],[]⟩ [] (.two 64 (.cl ce [] .nil) .nil) (.wt 71 (.gj 1 ⟨[kdB 73],[]⟩ [] (.two 71 (.cl bR [] .nil) .nil) .nil)))))))) (.mix [([0,2,3,4,5],1)] [6,7,8,9,10,11,12,13,14,15,16,17,18,19,20,21,22,23,24,25,26,27,28,29,30,31,32,33,34,35,36] [] [] (.cl vG [] (.two 81 .nil (.two 85 (.two 93 .nil (.two 95 (.two 103 .nil (.two 106 (.tw 110 .nil (.jx [] ⟨[],[]⟩ [16,2] (.lp ⟨[kdI 13],[]⟩ (.tw 114 (.mix [([0,1,2,3,5,6,7,8],4),([9,10,11,12,13,14,16,17,18,19],15)] [] [20,21,22,23] [] (.cl dj [] (.two 127 .nil (.cl ed [] (.cl cu [] (.cl bU [21,23] (.tw 140 .nil .nil))))))) .nil)) (.gp 4 (.tw 148 (.cl ce [] (.gj 1 ⟨[kdB 156],[]⟩ [] (.two 154 (.cl bR [] .nil) .nil) .nil)) (.mix [([0,1,3,4,5,6,7,8],2)] [] [9,10,11,12,13,14] [] (.cl ce [] (.cl cu [] (.cl bU [21,23] (.two 168 (.cl bR [] .nil) .nil))))))))) (.jx [] ⟨[],[]⟩ [16,2] (.lp ⟨[kdI 13],[]⟩ (.tw 114 (.mix [([0,1,2,3,5,6,7,8],4),([9,10,11,12,13,14,16,17,18,19],15)] [] [20,21,22,23] [] (.cl dj [] (.two 127 .nil (.cl ed [] (.cl cu [] (.cl bU [21,23] (.tw 140 .nil .nil))))))) .nil)) (.gp 4 (.tw 148 (.cl ce [] (.gj 1 ⟨[kdB 156],[]⟩ [] (.two 154 (.cl bR [] .nil) .nil) .nil)) (.mix [([0,1,3,4,5,6,7,8],2)] [] [9,10,11,12,13,14] [] (.cl ce [] (.cl cu [] (.cl bU [21,23] (.two 168 (.cl bR [] .nil) .nil)))))))))) (.two 106 (.tw 110 .nil (.jx [] ⟨[],[]⟩ [16,2] (.lp ⟨[kdI 13],[]⟩ (.tw 114 (.mix [([0,1,2,3,5,6,7,8],4),([9,10,11,12,13,14,16,17,18,19],15)] [] [20,21,22,23] [] (.cl dj [] (.two 127 .nil (.cl ed [] (.cl cu [] (.cl bU [21,23] (.tw 140 .nil .nil))))))) .nil)) (.gp 4 (.tw 148 (.cl ce [] (.gj 1 ⟨[kdB 156],[]⟩ [] (.two 154 (.cl bR [] .nil) .nil) .nil)) (.mix [([0,1,3,4,5,6,7,8],2)] [] [9,10,11,12,13,14] [] (.cl ce [] (.cl cu [] (.cl bU [21,23] (.two 168 (.cl bR [] .nil) .nil))))))))) (.jx [] ⟨[],[]⟩ [16,2] (.lp ⟨[kdI 13],[]⟩ (.tw 114 (.mix [([0,1,2,3,5,6,7,8],4),([9,10,11,12,13,14,16,17,18,19],15)] [] [20,21,22,23] [] (.cl dj [] (.two 127 .nil (.cl ed [] (.cl cu [] (.cl bU [21,23] (.tw 140 .nil .nil))))))) .nil)) (.gp 4 (.tw 148 (.cl ce [] (.gj 1 ⟨[kdB 156],[]⟩ [] (.two 154 (.cl bR [] .nil) .nil) .nil)) (.mix [([0,1,3,4,5,6,7,8],2)] [] [9,10,11,12,13,14] [] (.cl ce [] (.cl cu [] (.cl bU [21,23] (.two 168 (.cl bR [] .nil) .nil))))))))))) (.two 93 .nil (.two 95 (.two 103 .nil (.two 106 (.tw 110 .nil (.jx [] ⟨[],[]⟩ [16,2] (.lp ⟨[kdI 13],[]⟩ (.tw 114 (.mix [([0,1,2,3,5,6,7,8],4),([9,10,11,12,13,14,16,17,18,19],15)] [] [20,21,22,23] [] (.cl dj [] (.two 127 .nil (.cl ed [] (.cl cu [] (.cl bU [21,23] (.tw 140 .nil .nil))))))) .nil)) (.gp 4 (.tw 148 (.cl ce [] (.gj 1 ⟨[kdB 156],[]⟩ [] (.two 154 (.cl bR [] .nil) .nil) .nil)) (.mix [([0,1,3,4,5,6,7,8],2)] [] [9,10,11,12,13,14] [] (.cl ce [] (.cl cu [] (.cl bU [21,23] (.two 168 (.cl bR [] .nil) .nil))))))))) (.jx [] ⟨[],[]⟩ [16,2] (.lp ⟨[kdI 13],[]⟩ (.tw 114 (.mix [([0,1,2,3,5,6,7,8],4),([9,10,11,12,13,14,16,17,18,19],15)] [] [20,21,22,23] [] (.cl dj [] (.two 127 .nil (.cl ed [] (.cl cu [] (.cl bU [21,23] (.tw 140 .nil .nil))))))) .nil)) (.gp 4 (.tw 148 (.cl ce [] (.gj 1 ⟨[kdB 156],[]⟩ [] (.two 154 (.cl bR [] .nil) .nil) .nil)) (.mix [([0,1,3,4,5,6,7,8],2)] [] [9,10,11,12,13,14] [] (.cl ce [] (.cl cu [] (.cl bU [21,23] (.two 168 (.cl bR [] .nil) .nil)))))))))) (.two 106 (.tw 110 .nil (.jx [] ⟨[],[]⟩ [16,2] (.lp ⟨[kdI 13],[]⟩ (.tw 114 (.mix [([0,1,2,3,5,6,7,8],4),([9,10,11,12,13,14,16,17,18,19],15)] [] [20,21,22,23] [] (.cl dj [] (.two 127 .nil (.cl ed [] (.cl cu [] (.cl bU [21,23] (.tw 140 .nil .nil))))))) .nil)) (.gp 4 (.tw 148 (.cl ce [] (.gj 1 ⟨[kdB 156],[]⟩ [] (.two 154 (.cl bR [] .nil) .nil) .nil)) (.mix [([0,1,3,4,5,6,7,8],2)] [] [9,10,11,12,13,14] [] (.cl ce [] (.cl cu [] (.cl bU [21,23] (.two 168 (.cl bR [] .nil) .nil))))))))) (.jx [] ⟨[],[]⟩ [16,2] (.lp ⟨[kdI 13],[]⟩ (.tw 114 (.mix [([0,1,2,3,5,6,7,8],4),([9,10,11,12,13,14,16,17,18,19],15)] [] [20,21,22,23] [] (.cl dj [] (.two 127 .nil (.cl ed [] (.cl cu [] (.cl bU [21,23] (.tw 140 .nil .nil))))))) .nil)) (.gp 4 (.tw 148 (.cl ce [] (.gj 1 ⟨[kdB 156],[]⟩ [] (.two 154 (.cl bR [] .nil) .nil) .nil)) (.mix [([0,1,3,4,5,6,7,8],2)] [] [9,10,11,12,13,14] [] (.cl ce [] (.cl cu [] (.cl bU [21,23] (.two 168 (.cl bR [] .nil) .nil))))))))))))))))))))))))))))))))))
def wF:Spec:=⟨3,⟨[(0,.dat Yq1),kdI 1,kdI 2],[]⟩,[⟨[kdB 0],[]⟩],fun x=>sG x.1 x.2.1 x.2.2⟩
theorem CP:dh Tryz.prog wF:=ab func3 CU (by kernel_rfl) (by kernel_rfl)
end
set_option linter.unnecessarySimpa false
set_option linter.unusedSimpArgs false
open Go.RowKit
abbrev St:=Int×Bool
def shp (xa xb:List St):Bool:=decide (xa.map (·.2)=xb.map (·.2))
theorem xo (xa xb:List St) {body:Int→Option (Int⊕(Unit⊕Bool))} (hl:xa.length=xb.length) (hb:∀ (k:Nat) (h:k < xa.length),body (k:Int)=some (if xa[k].2=(xb[k]'(by omega)).2 then .inl ((k + 1:Nat):Int) else .inr (.inr false))) (he:body (xa.length:Int)=some (.inr (.inl ()))) :
   loop body 0=some (if shp xa xb then .inl () else .inr false):=by
 have:=xP (body:=body) (xa.map (·.2)) (xb.map (·.2)) (.inr false) (.inl ()) (by simp [hl]) (fun k h=>by simpa using hb k (by simpa using h)) (by simpa using he)
 rw [this]; unfold shp
 by_cases h:xa.map (·.2)=xb.map (·.2) <;> simp [h]
theorem uS {xa xb:List St} (h:¬ xa.length=xb.length):shp xa xb=false:=by
 unfold shp; simp only [decide_eq_false_iff_not]
 intro e; exact h (by simpa using congrArg List.length e)
theorem mJ {xa xb:List St} (h:shp xa xb=true):xa.length=xb.length:=by
 unfold shp at h; simpa using congrArg List.length (of_decide_eq_true h)
theorem ij (xa xb:List St):shp xa xb=shp xb xa:=by unfold shp; simp only [eq_comm]
theorem vr (xa:List St) (n:Int):gY xa n=some (decide ((xa.length:Int)≤n)):=rfl
theorem ph (xa xb:List St) (hn:xa.length≤1073741824):gQ xa xb=some (shp xa xb):=by
 unfold gQ
 by_cases hl:xa.length=xb.length
 . rw [wc hl,cond_false,xo xa xb hl ?_ ?_]
   . cases shp xa xb <;> rfl
   . intro k h; unfold sM
     have h2:k < xb.length:=by omega
     by_cases q:xa[k].2=xb[k].2 <;> simp [ah h,ah h2,h,q,aj h (by omega),zZ]
   . simp [sM]
 . rw [qW hl,cond_true,uS hl]
theorem jo (xa xb:List St) (hn:xa.length≤1073741824):dR xa xb=some (shp xa xb):=by
 unfold dR nD
 by_cases hl:xa.length=xb.length
 . rw [wc hl,cond_false,xo xa xb hl ?_ ?_]
   . cases shp xa xb <;> rfl
   . intro k h; unfold rV sS
     have h2:k < xb.length:=by omega
     by_cases q:xa[k].2=xb[k].2 <;> simp [ah h,ah h2,h,q,aj h (by omega),zZ]
   . simp [rV]
 . rw [qW hl,cond_true,uS hl]; rfl
theorem Fa (xa:List St) (n:Int) (m:Bool) (hn:xa.length≤1000000000):py xa n m=some ((n,false) :: xa.map fun x=>(x.1,x.2||m)):=by
 unfold py
 have:=uC xa (fun x:St=>(x.1,x.2||m)) [(n,false)] (by simp; omega) (body:=wS xa m) (fun c i=>rfl)
 rw [this]; rfl
theorem Fy (xa:List St) (n:Int) (m:Bool) (hn:xa.length≤1000000000):pe xa n m=some ((n,false) :: xa.map fun x=>(x.1,x.2||m)):=by
 unfold pe
 have:=uC xa (fun x:St=>(x.1,x.2||m)) [(n,false)] (by simp; omega) (body:=sP xa m) (fun c i=>by
   unfold sP
   cases hg:aa xa i with
   | none=>simp [hg]
   | some x=>cases h2:x.2 <;> simp [hg,h2])
 rw [this]; rfl
theorem xJ {α:Type} (xa:List α) (t:α→Bool):(∃ k,xa.findIdx? t=some k∧xa.any t=true)∨(xa.findIdx? t=none∧xa.any t=false):=by
 cases h:xa.findIdx? t with
 | none =>
   refine .inr ⟨rfl,?_⟩
   rw [List.any_eq_false]; intro x hx; have:=List.findIdx?_eq_none_iff.1 h x hx; simp [this]
 | some k =>
   obtain ⟨hk,h1,_⟩:=List.findIdx?_eq_some_iff_getElem.1 h
   exact .inl ⟨k,rfl,List.any_eq_true.2 ⟨_,List.getElem_mem hk,h1⟩⟩
def rin (n:Int) (xa:List St):Bool:=xa.any fun x=>decide (x.1 < 0)||decide (n≤x.1)
def rck (n:Int) (xa:List St):Int:=if 16 < xa.length then 6 else if rin n xa then 7 else 0
def sbs (xb:List Int) (x:St):St:=(xb.getD x.1.toNat 0,x.2)
theorem Fo {n:Int} {xa:List St} (h:rin n xa=false) {k:Nat} {x:St} (hx:xa[k]? = some x):0≤x.1∧x.1 < n:=by
 unfold rin at h
 have:=List.any_eq_false.1 h x (List.mem_of_getElem? hx)
 simp at this; omega
theorem p8 {xb:List Int} {i:Int} (h:0≤i) (h2:i < (xb.length:Nat)):aa xb i=some (xb.getD i.toNat 0):=by
 unfold aa; rw [if_pos h]
 have:i.toNat < xb.length:=by omega
 simp [this]
theorem wZ (xa:List St) (n:Int) (hn:xa.length≤1073741824):mf xa n=some (!rin n xa):=by
 unfold mf rZ r4
 rw [b9 (body:=nE xa n) xa (fun x=>decide (x.1 < 0)||decide (n≤x.1)) (fun k => .inr (k:Int)) (.inl ()) ?_ ?_]
 . rcases xJ xa (fun x=>decide (x.1 < 0)||decide (n≤x.1)) with ⟨k,h1,h2⟩ | ⟨h1,h2⟩
   . rw [h1]; unfold rin; simp [h2]
   . rw [h1]; unfold rin; simp [h2]
 . intro k hk
   unfold nE sB
   simp only [dlt hk,cond_true,ah hk,Option.bind_some,aj hk (by omega:xa.length≤9223372036854775807)]
   cases (decide (xa[k].1 < 0)||decide (n≤xa[k].1)) <;> rfl
 . simp [nE]
theorem tC (xa:List St) (n:Int) (hn:xa.length≤1073741824):fB xa n=some (rck n xa):=by
 unfold fB rck
 rw [wZ xa n hn]
 by_cases h:16 < xa.length
 . rw [decide_eq_true (by omega),if_pos h]; rfl
 . rw [decide_eq_false (by omega),if_neg h,cond_false]
   cases rin n xa <;> rfl
theorem pn (xa:List St) (n:Int):gR xa n=some (rck n xa):=by
 unfold gR rck
 by_cases h:16 < xa.length
 . rw [decide_eq_true (by omega),if_pos h]; rfl
 . rw [decide_eq_false (by omega),if_neg h,cond_false]
   rw [dV (body:=ow xa n) xa (fun x=>decide (x.1 < 0)||decide (n≤x.1)) (.inr 7) (.inl ()) ?_ ?_]
   . unfold rin; cases (xa.any fun x=>decide (x.1 < 0)||decide (n≤x.1)) <;> rfl
   . intro k hk
     unfold ow
     by_cases q:xa[k].1 < 0 <;> by_cases q2:n≤xa[k].1 <;> simp [hk,ah hk,aj hk (by omega:xa.length≤9223372036854775807),q,q2]
   . simp [ow]
theorem DV (xa:List St) (hn:xa.length≤1073741824):pb xa=some xa:=by
 unfold pb sd
 rw [uI]
 . rw [aH (by simpa using hn)]; simp
 . rintro rfl; rw [aH (by simp)]; rfl
theorem xk (xa:List St) (xb:List Int) (hn:xa.length≤1073741824):mh xa xb=some (if rin xb.length xa then ([],7) else (xa.map (sbs xb),0)):=by
 unfold mh
 rw [wZ xa _ hn,Option.bind_some,DV xa hn]
 cases h:rin xb.length xa with
 | true=>simp
 | false =>
   simp only [Bool.not_false,Bool.not_true,cond_false,Option.bind_some,Bool.false_eq_true,if_false]
   have hl:=aF (body:=lL xb xa) (fun k:Nat=>((xa.take k).map (sbs xb)++xa.drop k,(k:Int))) xa.length (b:=xa.map (sbs xb)) ?_ ?_
   . simp only [List.take_zero,List.map_nil,List.nil_append,List.drop_zero] at hl
     have hl':loop (lL xb xa) (xa,0)=some (xa.map (sbs xb)):=hl
     rw [hl']; rfl
   . intro k hk
     have hg:aa ((xa.take k).map (sbs xb)++xa.drop k) (k:Int)=some xa[k]:=by
       rw [ah (by simp; omega)]
       rw [List.getElem_append_right (by simp; omega)]
       simp [List.getElem_drop,Nat.min_eq_left (Nat.le_of_lt hk)]
     have hr:=Fo h (k:=k) (x:=xa[k]) (by simp [hk])
     unfold lL
     dsimp only
     rw [hg]
     simp only [Option.bind_some,p8 hr.1 hr.2,Int.ofNat_lt.2 hk,decide_true,cond_true,aj hk (by omega:xa.length≤9223372036854775807),Int.toNat_natCast]
     congr 3
     rw [List.take_succ_eq_append_getElem hk,List.drop_eq_getElem_cons hk,List.set_append_right _ _ (by simp; omega)]
     rw [List.length_map,List.length_take,Nat.min_eq_left (Nat.le_of_lt hk),Nat.sub_self,List.set_cons_zero,List.map_append,List.append_assoc]
     rfl
   . simp [lL]
theorem tA (xa:List St) (xb:List Int) (hn:xa.length≤1073741824):lO xa xb=some (if rin xb.length xa then ([],7) else (xa.map (sbs xb),0)):=by
 unfold lO
 have hl:=g9 (body:=k8 xa xb)
   (fun k=>∃ x,xa[k]? = some x∧(x.1 < 0∨(xb.length:Int)≤x.1)) (fun k:Nat=>((xa.take k).map (sbs xb),(k:Int))) xa.length (fun _ => .inr ([],7)) (.inl (xa.map (sbs xb))) ?_ ?_ ?_
 . simp only [List.take_zero,List.map_nil] at hl
   rcases hl with ⟨k,h1,⟨x,h2,h2'⟩,_,h3⟩ | ⟨h1,h3⟩
   . have:rin xb.length xa=true:=List.any_eq_true.2 ⟨x,List.mem_of_getElem? h2,by simpa using h2'⟩
     rw [this]; erw [h3]; rfl
   . have:rin xb.length xa=false:=by
       cases hh:rin xb.length xa with
       | false=>rfl
       | true =>
         obtain ⟨x,h4,h5⟩:=List.any_eq_true.1 hh
         obtain ⟨k,h6,rfl⟩:=List.getElem_of_mem h4
         exact absurd ⟨xa[k],by simp [h6],by simpa using h5⟩ (h1 k h6)
     rw [this]; erw [h3]; rfl
 . intro k hk hp
   have hx:¬ (xa[k].1 < 0∨(xb.length:Int)≤xa[k].1):=fun h=>hp ⟨_,by simp [hk],h⟩
   have h1:((decide (xa[k].1 < 0))||(decide (((xb.length:Nat):Int)≤xa[k].1)))=false:=by simp; omega
   have ha:=aH (a:=(xa.take k).map (sbs xb)) (b:=[sbs xb xa[k]]) (by simp; omega)
   have h5:aa xb xa[k].1=some (xb.getD xa[k].1.toNat 0):=p8 (by omega) (by omega)
   unfold k8
   dsimp only
   simp only [Option.bind_some,ah hk,h1,cond_false,h5,Int.ofNat_lt.2 hk,decide_true,cond_true,aj hk (by omega:xa.length≤9223372036854775807)]
   rw [show app ((xa.take k).map (sbs xb)) [(xb.getD xa[k].1.toNat 0,xa[k].2)]=_ from ha,List.take_succ_eq_append_getElem hk,List.map_append]
   rfl
 . rintro k hk ⟨x,h1,h2⟩
   have hx:xa[k]=x:=by rw [List.getElem?_eq_getElem hk] at h1; exact Option.some.inj h1
   have h1:((decide (xa[k].1 < 0))||(decide (((xb.length:Nat):Int)≤xa[k].1)))=true:=by rw [hx]; simpa using h2
   unfold k8
   dsimp only
   simp only [Option.bind_some,ah hk,h1,cond_true,Int.ofNat_lt.2 hk,decide_true]
 . simp [k8]
abbrev Nd:=Int×Int×Int×Int×Bool
def kp (kind f:Int) (x y:St):List Nd:=(x.1,y.1,kind,f,false) :: if y.2 then [(y.1,x.1,kind,f,true)] else []
def rel (kind f:Int):List St→List St→List Nd
 | x :: xs,y :: ys=>kp kind f x y++rel kind (f + 1) xs ys
 | _,_=>[]
theorem yx (kind:Int) (x y:St):∀ (xs ys:List St) (f:Int),xs.length=ys.length→rel kind f (xs++[x]) (ys++[y])=rel kind f xs ys++kp kind (f + xs.length) x y
 | [],[],f,_=>by simp [rel]
 | [],_ :: _,f,h=>by simp at h
 | _ :: _,[],f,h=>by simp at h
 | a :: xs,b :: ys,f,h=>by
   simp only [List.cons_append,rel,yx kind x y xs ys (f + 1) (by simpa using h),List.append_assoc,List.length_cons]
   rw [show f + 1 + (xs.length:Int)=f + ((xs.length + 1:Nat):Int) by omega]
theorem cT (kind:Int) (xs ys:List St) (f:Int):(rel kind f xs ys).length≤2 * xs.length:=by
 induction xs generalizing ys f with
 | nil=>simp [rel]
 | cons a xs ih=>cases ys with
   | nil=>simp [rel]
   | cons b ys =>
     have:=ih ys (f + 1)
     cases hb:b.2 <;> simp [rel,kp,hb] <;> omega
theorem js (xa xb:List St) (kind f:Int) (hl:xa.length=xb.length) (hn:xa.length≤30) (hf : -9223372036854775808≤f) (hf2:f≤1099511627776) (c:List Nd) (hc:c.length≤10) :
   gH xa xb kind f c=some (c++rel kind f xa xb):=by
 unfold gH
 have h:=xI (body:=nS xa xb kind f) xa (fun k=>c++rel kind f (xa.take k) (xb.take k)) (c++rel kind f xa xb) ?_ ?_
 . simp only [List.take_zero,rel,List.append_nil] at h
   rw [h]; rfl
 . intro k h
   have h2:k < xb.length:=by omega
   have hlen:=cT kind (xa.take k) (xb.take k) f
   simp only [List.length_take] at hlen
   have hw:IntKind.wrap .i64 (f + (k:Int))=f + k:=w64 (by omega) (by omega)
   unfold nS
   rw [aM h,aM h2,yx _ _ _ _ _ _ (by simp; omega)]
   have e:(xa.take k).length=k:=by simp; omega
   rw [e]
   cases hb:xb[k].2 with
   | true =>
     simp [ah h,ah h2,h,hb,aj h (by omega),hw,kp]
     rw [aH (by simp; omega)]
     simp
     rw [aH (by simp; omega)]
     simp
   | false =>
     simp [ah h,ah h2,h,hb,aj h (by omega),hw,kp]
     rw [aH (by simp; omega)]
     simp
 . have e:xb.take xa.length=xb:=by rw [hl,List.take_length]
   simp [nS,e]
theorem s8 (xa xb:List St) (kind f:Int):lk xa xb kind f=gH xa xb kind f []:=rfl
theorem pv (xa xb:List St) (kind f:Int) (hn:xa.length≤30) (hf : -9223372036854775808≤f) (hf2:f≤1099511627776):gP xa xb kind f=some (if shp xa xb then (rel kind f xa xb,0) else ([],8)):=by
 unfold gP
 rw [jo _ _ (by omega),Option.bind_some]
 cases hs:shp xa xb with
 | false=>rfl
 | true=>rw [Bool.not_true,cond_false,s8,js xa xb kind f (mJ hs) hn hf hf2 [] (by simp)]; simp
theorem jr (xa xb:List St) (kind f:Int) (hn:xa.length≤30) (hf : -9223372036854775808≤f) (hf2:f≤1099511627776):gS xa xb kind f=some (if shp xa xb then (rel kind f xa xb,0) else ([],8)):=by
 unfold gS
 rw [ph _ _ (by omega),Option.bind_some]
 cases hs:shp xa xb with
 | false=>rfl
 | true=>rw [Bool.not_true,cond_false,js xa xb kind f (mJ hs) hn hf hf2 [] (by simp)]; simp
def lo (n:Int) (m:Bool) (xa xb:List St):List Nd×Int :=
 if shp ((n,false) :: xa.map fun x=>(x.1,x.2||m)) xb then ((n,(xb.head?.getD (0,false)).1,2,0,false) :: rel 1 1 xa (xb.drop 1),0) else ([],8)
theorem vb {n:Int} {m:Bool} {xa xb:List St} (h:shp ((n,false) :: xa.map fun x=>(x.1,x.2||m)) xb=true):xb.length=xa.length + 1:=by
 have:=mJ h; simp at this; omega
theorem EB (xa xb:List St) (n:Int) (m:Bool) (hn:xa.length≤30):oY xa xb n m=some (lo n m xa xb):=by
 unfold oY lo
 rw [Fa _ _ _ (by omega),Option.bind_some,ij]
 by_cases hb:xb.length≤1000
 . rw [jo _ _ (by omega),Option.bind_some]
   cases hs:shp xb ((n,false) :: xa.map fun x=>(x.1,x.2||m)) with
   | false=>rfl
   | true =>
     have hl:=vb (by rw [ij]; exact hs)
     cases xb with
     | nil=>simp at hl
     | cons y ys =>
       have hl2:xa.length=ys.length:=by simpa using hl.symm
       rw [Bool.not_true,cond_false,show aa (y :: ys) 0=some y from rfl,Option.bind_some,iG (by simp),Option.bind_some,s8,js _ _ _ _ (by simpa using hl2) hn (by omega) (by omega) _ (by simp)]
       have:=cT 1 xa ys 1
       simp only [List.nil_append,Option.bind_some,List.drop_succ_cons,List.drop_zero]
       rw [aH (by simp; omega)]
       simp
 . have hs:shp xb ((n,false) :: xa.map fun x=>(x.1,x.2||m))=false:=uS (by simp; omega)
   unfold dR nD
   rw [qW (by simp; omega),cond_true,hs]; rfl
theorem Ey (xa xb:List St) (n:Int) (m:Bool) (hn:xa.length≤30):o9 xa xb n m=some (lo n m xa xb):=by
 unfold o9 lo
 rw [Fy _ _ _ (by omega),Option.bind_some,ph _ _ (by simp; omega),Option.bind_some]
 cases hs:shp ((n,false) :: xa.map fun x=>(x.1,x.2||m)) xb with
 | false=>rfl
 | true =>
   have hl:=vb hs
   cases xb with
   | nil=>simp at hl
   | cons y ys =>
     have hl2:xa.length=ys.length:=by simpa using hl.symm
     rw [Bool.not_true,cond_false,show aa (y :: ys) 0=some y from rfl,Option.bind_some,iG (by simp),Option.bind_some,js _ _ _ _ (by simpa using hl2) hn (by omega) (by omega) _ (by simp)]
     simp
def ag (n:Int) (m:Bool) (xa xb:List St):List Nd×Int :=
 match xa,xb with
 | x :: xs,y :: ys=>if x.2||!shp (x :: xs) (y :: ys)||(m&&xs.any (fun z=>!z.2)) then ([],8) else ((x.1,n,3,0,false) :: (n,y.1,2,0,false) :: rel 1 1 xs ys,0)
 | _,_=>([],8)
theorem Iv (xa xb:List St) (m:Bool) (hn:xa.length≤30):nQ xa xb m=some (match xa with | []=>false | x :: xs=>!(x.2||!shp xa xb||(m&&xs.any (fun z=>!z.2)))):=by
 unfold nQ
 cases xa with
 | nil=>rfl
 | cons x xs =>
   have e0:decide ((((x :: xs).length:Nat):Int)=0)=false:=by simp; omega
   rw [e0,cond_false,show aa (x :: xs) 0=some x from rfl,Option.bind_some,Option.bind_some]
   cases hx:x.2 with
   | true=>simp [hx]
   | false =>
     rw [cond_false,jo _ _ (by omega),Option.bind_some,Option.bind_some]
     cases hs:shp (x :: xs) xb with
     | false=>simp
     | true =>
       rw [Bool.not_true,cond_false,iG (by simp),Option.bind_some]
       unfold rX rY
       rw [b9 (List.drop 1 (x :: xs)) (fun z:St=>!z.2) (fun k => .inr (k:Int)) (.inl ()) ?_ ?_]
       . simp only [List.drop_succ_cons,List.drop_zero]
         cases h:xs.findIdx? (fun z:St=>!z.2) with
         | none =>
           have:xs.any (fun z:St=>!z.2)=false:=by
             rw [List.any_eq_false]; intro z hz; have:=List.findIdx?_eq_none_iff.1 h z hz; simpa using this
           simp [this,hx]
         | some k =>
           obtain ⟨hk,h1,_⟩:=List.findIdx?_eq_some_iff_getElem.1 h
           have:xs.any (fun z:St=>!z.2)=true:=List.any_eq_true.2 ⟨_,List.getElem_mem hk,h1⟩
           simp [this,hx]
       . intro k h
         unfold rW sw
         simp only [List.drop_succ_cons,List.drop_zero] at h ⊢
         have hn':xs.length≤30:=by simp at hn; omega
         cases hz:xs[k].2 <;> simp [ah h,h,aj h (by omega),hz]
       . simp [rW]
theorem D4 (xa xb:List St) (n:Int) (m:Bool) (hn:xa.length≤30):oQ xa xb n m=some (ag n m xa xb):=by
 unfold oQ
 rw [Iv _ _ _ hn,Option.bind_some]
 cases xa with
 | nil=>rfl
 | cons x xs =>
   simp only [ag,Bool.not_not]
   by_cases hc:(x.2||!shp (x :: xs) xb||(m&&xs.any (fun z=>!z.2)))=true
   . rw [hc]; cases xb <;> simp_all
   . have hc':(x.2||!shp (x :: xs) xb||(m&&xs.any (fun z=>!z.2)))=false:=by simpa using hc
     have hs:shp (x :: xs) xb=true:=by
       cases q:shp (x :: xs) xb with
       | true=>rfl
       | false=>rw [q] at hc'; simp at hc'
     have hl:=mJ hs
     cases xb with
     | nil=>simp at hl
     | cons y ys =>
       simp only [hc',cond_false,if_false,show aa (x :: xs) 0=some x from rfl,show aa (y :: ys) 0=some y from rfl,Option.bind_some,iG (show 1≤(x :: xs).length by simp),iG (show 1≤(y :: ys).length by simp),List.drop_succ_cons,List.drop_zero,Bool.false_eq_true]
       have hl2:xs.length=ys.length:=by simpa using hl
       rw [s8,js _ _ _ _ hl2 (by simp at hn; omega) (by omega) (by omega) _ (by simp),Option.bind_some]
       have:=cT 1 xs ys 1
       simp at hn
       rw [aH (by simp; omega)]
       simp
theorem DS (xa xb:List St) (n:Int) (m:Bool) (hn:xa.length≤30):oZ xa xb n m=some (ag n m xa xb):=by
 unfold oZ
 cases xa with
 | nil=>rfl
 | cons x xs =>
   have e0:decide ((((x :: xs).length:Nat):Int)=0)=false:=by simp; omega
   rw [e0,cond_false,ph _ _ (by omega),Option.bind_some,Option.bind_some]
   cases hs:shp (x :: xs) xb with
   | false=>cases xb <;> simp [ag,hs]
   | true =>
     have hl:=mJ hs
     cases xb with
     | nil=>simp at hl
     | cons y ys =>
       have hl2:xs.length=ys.length:=by simpa using hl
       simp only [Bool.not_true,cond_false,show aa (x :: xs) 0=some x from rfl,show aa (y :: ys) 0=some y from rfl,Option.bind_some]
       cases hx:x.2 with
       | true=>simp [ag,hx]
       | false =>
         have hn':xs.length≤29:=by simp at hn; omega
         have hloop:loop (iU (x :: xs) m) 1=some (if (m&&xs.any (fun z=>!z.2)) then .inr ([],8) else .inl ()):=by
           have:=GL (body:=iU (x :: xs) m) (fun k=>(m&&(xs[k]?.any (fun z=>!z.2)))=true) (fun k=>((k + 1:Nat):Int)) xs.length (.inr ([],8)) (.inl ()) ?_ ?_ ?_
           . rw [show ((1:Int))=((0 + 1:Nat):Int) from rfl,this]
             congr 1
             by_cases hq:(m&&xs.any (fun z=>!z.2))=true
             . rw [if_pos hq,if_pos]
               simp only [Bool.and_eq_true] at hq
               obtain ⟨z,hz,hz2⟩:=List.any_eq_true.1 hq.2
               obtain ⟨k,hk,rfl⟩:=List.getElem_of_mem hz
               exact ⟨k,hk,by simp [hq.1,hk]; simpa using hz2⟩
             . rw [if_neg hq,if_neg]
               rintro ⟨k,hk,hk2⟩
               apply hq
               simp [hk] at hk2
               rw [hk2.1,Bool.true_and]
               exact List.any_eq_true.2 ⟨_,List.getElem_mem hk,by simpa using hk2.2⟩
           . intro k hk hp
             have h2:k + 1 < (x :: xs).length:=by simp; omega
             simp [hk] at hp
             unfold iU
             rw [dlt h2,cond_true,aj h2 (by simp; omega)]
             cases m with
             | false=>simp
             | true=>simp [Bz h2,hp rfl]
           . intro k hk hp
             have h2:k + 1 < (x :: xs).length:=by simp; omega
             simp [hk] at hp
             unfold iU
             rw [dlt h2,cond_true]
             simp [Bz h2,hp.1,hp.2]
           . simp [iU]
         rw [hloop]
         by_cases hq:(m&&xs.any (fun z=>!z.2))=true
         . simp [ag,hx,hs,hq]
         . have hq':(m&&xs.any (fun z=>!z.2))=false:=by simpa using hq
           rw [hq']
           simp only [cond_false,Option.bind_some,if_false,iG (show 1≤(x :: xs).length by simp),iG (show 1≤(y :: ys).length by simp),List.drop_succ_cons,List.drop_zero,Bool.false_eq_true]
           rw [js _ _ _ _ hl2 (by omega) (by omega) (by omega) _ (by simp)]
           simp [ag,hx,hs,hq']
theorem FM (n:Int) (m:Bool) (xa xb:List St) (h:xa.length≤30):(lo n m xa xb).1.length≤100:=by
 unfold lo
 have:=cT 1 xa (xb.drop 1) 1
 simp at this
 split <;> simp; omega
theorem Gu (n:Int) (m:Bool) (xa xb:List St) (h:xa.length≤30):(ag n m xa xb).1.length≤100:=by
 unfold ag
 split
 . rename_i x xs y ys
   have:=cT 1 xs ys 1
   simp at h
   split <;> simp; omega
 . simp
abbrev Sg:=Int×List (Int×Int)×List (List St)×List St
def bI (n:Int) (b:Int×Int):Bool:=(((decide (b.1 < 0))||(decide (n≤b.1)))||(decide (b.2 < 0)))||(decide (n≤b.2))
def lc (n:Int) (A:List (List St)):Unit⊕Int:=match A.findIdx? (fun t=>!decide (rck n t=0)) with | some k => .inr (rck n (A.getD k [])) | none => .inl ()
def chk (s:Sg):Int :=
 if s.1 < 0 then 7 else if 16 < s.1∨16 < s.2.1.length∨16 < s.2.2.1.length then 6 else if s.2.1.any (bI s.1) then 7
 else match lc s.1 s.2.2.1 with | .inr e=>e | .inl ()=>rck s.1 s.2.2.2
theorem zC (a:Int) (b c:Nat):(((decide (16 < a))||(decide (16 < ((b:Nat):Int))))||(decide (16 < ((c:Nat):Int))))=decide (16 < a∨16 < b∨16 < c):=by
 by_cases h1:16 < a <;> by_cases h2:16 < b <;> by_cases h3:16 < c <;> simp [h1,h2,h3] <;> omega
theorem Bl {n:Int} {A:List (List St)} {body:Int→Option (Int⊕(Unit⊕Int))} (hn:A.length≤1000) (hb:∀ (k:Nat) (h:k < A.length),body (k:Int)=cond (!decide (rck n A[k]=0)) (some (.inr (.inr (rck n A[k])))) (some (.inl (IntKind.wrap .i64 ((k:Int) + 1))))) (he:body (A.length:Int)=some (.inr (.inl ()))):loop body 0=some (lc n A):=by
 rw [b9 A (fun t=>!decide (rck n t=0)) (fun k => .inr (rck n (A.getD k []))) (.inl ()) ?_ he]
 . rfl
 . intro k hk
   rw [hb k hk,aj hk (by omega:A.length≤9223372036854775807)]
   have:A.getD k []=A[k]:=by simp [List.getD,hk]
   rw [this]
   cases (!decide (rck n A[k]=0)) <;> rfl
theorem w9 (s:Sg) (hr:s.2.2.2.length≤1000) (ha:∀ t∈s.2.2.1,t.length≤1000):fy s=some (chk s):=by
 obtain ⟨n,B,A,R⟩:=s
 unfold fy chk
 dsimp only at *
 by_cases h0:n < 0
 . rw [decide_eq_true h0,if_pos h0]; rfl
 . rw [decide_eq_false h0,if_neg h0,cond_false,zC]
   by_cases h1:16 < n∨16 < B.length∨16 < A.length
   . rw [decide_eq_true h1,if_pos h1]; rfl
   . rw [decide_eq_false h1,if_neg h1,cond_false]
     rw [dV (body:=oS (n,B,A,R)) B (bI n) (.inr 7) (.inl ()) ?_ ?_]
     . cases hb:B.any (bI n) with
       | true=>rfl
       | false =>
         simp only [Bool.false_eq_true,if_false,Option.bind_some]
         rw [Bl (body:=oO (n,B,A,R)) (n:=n) (A:=A) (by omega) ?_ ?_]
         . rw [tC R n (by omega)]
           simp only [Option.bind_some]
           cases lc n A <;> rfl
         . intro k hk
           unfold oO
           have:=ha A[k] (List.getElem_mem hk)
           simp only [dlt hk,cond_true,ah hk,Option.bind_some]
           rw [tC _ _ (by omega),Option.bind_some]
         . simp [oO]
     . intro k hk
       unfold oS nR
       simp only [dlt hk,cond_true,ah hk,Option.bind_some,aj hk (by omega:B.length≤9223372036854775807)]
       generalize B[k]=b
       obtain ⟨b1,b2⟩:=b
       have e (x:Int):(!((decide (0≤x))&&(decide (x < n))))=(decide (x < 0)||decide (n≤x)):=by
         by_cases p:x < 0 <;> by_cases q:n≤x <;> simp [p,q] <;> omega
       simp only [e,bI]
       by_cases p1:b1 < 0 <;> by_cases p2:n≤b1 <;> by_cases p3:b2 < 0 <;> by_cases p4:n≤b2 <;> simp [p1,p2,p3,p4]
     . simp [oS]
theorem w6 (s:Sg):gO s=some (chk s):=by
 obtain ⟨n,B,A,R⟩:=s
 unfold gO chk
 dsimp only at *
 by_cases h0:n < 0
 . rw [decide_eq_true h0,if_pos h0]; rfl
 . rw [decide_eq_false h0,if_neg h0,cond_false,zC]
   by_cases h1:16 < n∨16 < B.length∨16 < A.length
   . rw [decide_eq_true h1,if_pos h1]; rfl
   . rw [decide_eq_false h1,if_neg h1,cond_false]
     rw [dV (body:=oD (n,B,A,R)) B (bI n) (.inr 7) (.inl ()) ?_ ?_]
     . cases hb:B.any (bI n) with
       | true=>rfl
       | false =>
         simp only [Bool.false_eq_true,if_false,Option.bind_some]
         rw [Bl (body:=ov (n,B,A,R)) (n:=n) (A:=A) (by omega) ?_ ?_]
         . rw [pn R n]
           simp only [Option.bind_some]
           cases lc n A <;> rfl
         . intro k hk
           unfold ov
           simp only [dlt hk,cond_true,ah hk,Option.bind_some]
           rw [pn _ _,Option.bind_some]
         . simp [ov]
     . intro k hk
       unfold oD
       simp only [dlt hk,cond_true,ah hk,Option.bind_some,aj hk (by omega:B.length≤9223372036854775807)]
       generalize B[k]=b
       show cond (bI n b) _ _=_
       cases bI n b <;> rfl
     . simp [oD]
theorem uc {n:Int} {t:List St} (h:rck n t=0):t.length≤16∧rin n t=false:=by
 unfold rck at h
 by_cases q:16 < t.length
 . rw [if_pos q] at h; cases h
 . rw [if_neg q] at h
   cases hr:rin n t with
   | true=>rw [hr] at h; cases h
   | false=>exact ⟨by omega,rfl⟩
theorem zx {s:Sg} (h:chk s=0):0≤s.1∧s.1≤16∧s.2.1.length≤16∧s.2.2.1.length≤16∧(∀ b∈s.2.1,bI s.1 b=false)∧(∀ t∈s.2.2.1,t.length≤16∧rin s.1 t=false)∧s.2.2.2.length≤16∧rin s.1 s.2.2.2=false:=by
 unfold chk at h
 by_cases h0:s.1 < 0
 . rw [if_pos h0] at h; cases h
 . rw [if_neg h0] at h
   by_cases h1:16 < s.1∨16 < s.2.1.length∨16 < s.2.2.1.length
   . rw [if_pos h1] at h; cases h
   . rw [if_neg h1] at h
     cases hb:s.2.1.any (bI s.1) with
     | true=>rw [hb] at h; cases h
     | false =>
       rw [hb] at h
       simp only [Bool.false_eq_true,if_false] at h
       unfold lc at h
       cases hf:s.2.2.1.findIdx? (fun t=>!decide (rck s.1 t=0)) with
       | some k =>
         rw [hf] at h
         obtain ⟨hk,h2,_⟩:=List.findIdx?_eq_some_iff_getElem.1 hf
         have:s.2.2.1.getD k []=s.2.2.1[k]:=by simp [List.getD,hk]
         simp only [this] at h
         simp [h] at h2
       | none =>
         rw [hf] at h
         have hz:=List.findIdx?_eq_none_iff.1 hf
         refine ⟨by omega,by omega,by omega,by omega,fun b hb2=>?_,fun t ht=>uc (by simpa using hz t ht),(uc h).1,(uc h).2⟩
         have:=List.any_eq_false.1 hb b hb2
         simpa using this
theorem qj (names:List Int) (xs ys:List St):shp xs (ys.map (sbs names))=shp xs ys:=by
 unfold shp; rw [List.map_map]; rfl
theorem yX (names:List Int) (xs ys:List St):shp (xs.map (sbs names)) ys=shp xs ys:=by
 rw [ij,qj,ij]
def mis (A C:List (List St)) (k:Nat):Bool:=!shp (C.getD k []) (A.getD k [])
def fl (names:List Int) (A C:List (List St)) (j:Nat):List Nd:=rel 5 (16 * (j:Int)) (C.getD j []) ((A.getD j []).map (sbs names))
def fls (names:List Int) (A C:List (List St)):Nat→List Nd
 | 0=>[]
 | k + 1=>fls names A C k++fl names A C k
theorem jN (names:List Int) (A C:List (List St)) (hc:∀ t∈C,t.length≤20):∀ k,(fls names A C k).length≤40 * k
 | 0=>by simp [fls]
 | k + 1=>by
   have ih:=jN names A C hc k
   have h1:=cT 5 (C.getD k []) ((A.getD k []).map (sbs names)) (16 * (k:Int))
   have h2:(C.getD k []).length≤20:=by
     by_cases h:k < C.length
     . have:C.getD k []=C[k]:=by simp [List.getD,h]
       rw [this]; exact hc _ (List.getElem_mem h)
     . have:C.getD k []=[]:=by simp [List.getD,List.getElem?_eq_none (Nat.not_lt.1 h)]
       rw [this]; simp
   simp only [fls,List.length_append,fl]
   omega
def bds (names:List Int) (B:List (Int×Int)):Nat→List Nd
 | 0=>[]
 | k + 1=>bds names B k++[(names.getD (B.getD k (0,0)).1.toNat 0,names.getD (B.getD k (0,0)).2.toNat 0,4,(k:Int),false)]
theorem jJ (names:List Int) (B:List (Int×Int)):∀ k,(bds names B k).length=k
 | 0=>rfl
 | k + 1=>by simp [bds,jJ names B k]
def csp (s:Sg) (names:List Int) (C:List (List St)) (D:List St):List Nd×Int :=
 if chk s≠0 then ([],chk s)
 else if ¬ (names.length:Int)=s.1∨¬ C.length=s.2.2.1.length then ([],2)
 else if (List.range s.2.2.1.length).any (mis s.2.2.1 C) then ([],8)
 else if shp D s.2.2.2 then (bds names s.2.1 s.2.1.length++fls names s.2.2.1 C s.2.2.1.length++rel 6 0 (s.2.2.2.map (sbs names)) D,0) else ([],8)
theorem xm {names:List Int} {n:Int} {B:List (Int×Int)} {body:(List Nd×Int)→Option ((List Nd×Int)⊕List Nd)} (hB:B.length≤16) (hn:(names.length:Int)=n) (hb:∀ b∈B,bI n b=false)
   (hgo:∀ (l:List Nd) (k:Nat) (h:k < B.length),body (l,(k:Int))=((aa names B[k].1).bind fun x=>(aa names B[k].2).bind fun y=>(app l [(x,y,4,(k:Int),false)]).bind fun z=>some (.inl (z,IntKind.wrap .i64 ((k:Int) + 1))))) (he:∀ l,body (l,(B.length:Int))=some (.inr l)) :
   loop body ([],0)=some (bds names B B.length):=by
 refine aF (body:=body) (fun k=>(bds names B k,(k:Int))) B.length ?_ (he _)
 intro k hk
 have h1:=hb B[k] (List.getElem_mem hk)
 have e:B.getD k (0,0)=B[k]:=by simp [List.getD,hk]
 unfold bI at h1
 simp at h1
 rw [hgo _ k hk,p8 (by omega) (by omega),Option.bind_some,p8 (by omega) (by omega),Option.bind_some,aH (by simp [jJ]; omega),Option.bind_some,aj hk (by omega)]
 simp only [bds,e]
theorem mQ {names:List Int} {n:Int} {t:List St} (hn:(names.length:Int)=n) (h:rin n t=false):rin names.length t=false:=by rw [hn]; exact h
theorem Ej (s:Sg) (names:List Int) (C:List (List St)) (D:List St) (hr:s.2.2.2.length≤20) (ha:∀ t∈s.2.2.1,t.length≤20) (hC:∀ t∈C,t.length≤20) (hD:D.length≤20) :
   mq s names C D=some (csp s names C D):=by
 have hck:=w9 s (by omega) (fun t ht=>by have:=ha t ht; omega)
 unfold mq sQ csp
 rw [show fy (s.1,s.2.1,s.2.2.1,s.2.2.2)=some (chk s) from hck]
 obtain ⟨n,B,A,R⟩:=s
 dsimp only at *
 by_cases h0:chk (n,B,A,R)=0
 . obtain ⟨n0, n1, hB, hA, hb, hat, hR, hrin⟩ := zx h0
   dsimp only at n0 n1 hB hA hb hat hR hrin
   simp only [h0,Option.bind_some,decide_true,Bool.not_true,cond_false,ne_eq,not_true_eq_false,if_false]
   by_cases h1:¬ (names.length:Int)=n∨¬ C.length=A.length
   . have:((!decide ((((names.length:Nat):Int))=n))||(!decide ((((C.length:Nat):Int))=(((A.length:Nat):Int)))))=true:=by simp; omega
     rw [this,if_pos h1]; rfl
   . have:((!decide ((((names.length:Nat):Int))=n))||(!decide ((((C.length:Nat):Int))=(((A.length:Nat):Int)))))=false:=by simp; omega
     rw [this,if_neg h1,cond_false]
     have hn:(names.length:Int)=n:=by omega
     have hl:C.length=A.length:=by omega
     rw [dV (body:=oe (n,B,A,R) C) (List.range A.length) (mis A C) (.inr 8) (.inl ()) ?_ ?_]
     . cases hm:(List.range A.length).any (mis A C) with
       | true=>rfl
       | false =>
         simp only [Bool.false_eq_true,if_false,Option.bind_some]
         rw [jo D R (by omega)]
         cases hs:shp D R with
         | false=>rfl
         | true =>
           simp only [Option.bind_some,Bool.not_true,cond_false,decide_true,if_true]
           rw [xm (body:=oU (n,B,A,R) names) hB hn hb ?_ ?_]
           . simp only [Option.bind_some]
             have hfl:=aF (body:=lS (n,B,A,R) names C) (fun k=>(bds names B B.length++fls names A C k,(k:Int))) A.length (b:=bds names B B.length++fls names A C A.length) ?_ ?_
             . have hfl':loop (lS (n,B,A,R) names C) (bds names B B.length,0)=some (bds names B B.length++fls names A C A.length):=by
                 have e0:(bds names B B.length,(0:Int))=(bds names B B.length++fls names A C 0,((0:Nat):Int)):=by simp [fls]
                 rw [e0]; exact hfl
               have q1:=jN names A C hC A.length
               have q2:=jJ names B B.length
               have q3:=cT 6 (R.map (sbs names)) D 0
               rw [List.length_map] at q3
               rw [hfl',Option.bind_some,xk R names (by omega),mQ hn hrin]
               simp only [Bool.false_eq_true,if_false,Option.bind_some]
               rw [pv _ _ _ _ (by simp; omega) (by omega) (by omega),yX,ij,hs]
               simp only [if_true,Option.bind_some]
               rw [aH (by simp only [List.length_append]; omega)]
               rfl
             . intro k hk
               have hkC:k < C.length:=by omega
               have ht:=hat A[k] (List.getElem_mem hk)
               have hc:=hC C[k] (List.getElem_mem hkC)
               have e1:A.getD k []=A[k]:=by simp [List.getD,hk]
               have e2:C.getD k []=C[k]:=by simp [List.getD,hkC]
               have hsh:shp C[k] A[k]=true:=by
                 have:=List.any_eq_false.1 hm k (List.mem_range.2 hk)
                 unfold mis at this
                 rw [e1,e2] at this
                 simpa using this
               have q1:=jN names A C hC k
               have q2:=jJ names B B.length
               have q3:=cT 5 C[k] (A[k].map (sbs names)) (16 * (k:Int))
               unfold lS
               simp only [dlt hk,cond_true,ah hk,Option.bind_some]
               rw [xk _ names (by omega),mQ hn ht.2]
               simp only [Bool.false_eq_true,if_false,Option.bind_some,ah hkC]
               rw [w64 (x:=16 * (k:Int)) (by omega) (by omega),pv _ _ _ _ (by omega) (by omega) (by omega),qj,hsh]
               simp only [if_true,Option.bind_some]
               rw [aH (by simp only [List.length_append]; omega),Option.bind_some,aj hk (by omega)]
               simp only [fls,fl,e1,e2,List.append_assoc]
             . simp [lS]
           . intro l k hk
             unfold oU
             simp only [dlt hk,cond_true,ah hk,Option.bind_some]
           . intro l; simp [oU]
     . intro k hk
       simp only [List.length_range] at hk
       have hkC:k < C.length:=by omega
       have e1:A.getD k []=A[k]:=by simp [List.getD,hk]
       have e2:C.getD k []=C[k]:=by simp [List.getD,hkC]
       have hc:=hC C[k] (List.getElem_mem hkC)
       unfold oe
       simp only [dlt hk,cond_true,ah hk,ah hkC,Option.bind_some,List.getElem_range,mis,e1,e2,aj hk (by omega:A.length≤9223372036854775807)]
       rw [jo _ _ (by omega),Option.bind_some]
       cases shp C[k] A[k] <;> rfl
     . simp [oe]
 . simp [h0]
theorem Eu (s:Sg) (names:List Int) (C:List (List St)) (D:List St) (hr:s.2.2.2.length≤20) (ha:∀ t∈s.2.2.1,t.length≤20) (hC:∀ t∈C,t.length≤20) (hD:D.length≤20) :
   lY s names C D=some (csp s names C D):=by
 unfold lY csp
 rw [show gO (s.1,s.2.1,s.2.2.1,s.2.2.2)=some (chk s) from w6 s]
 obtain ⟨n,B,A,R⟩:=s
 dsimp only at *
 by_cases h0:chk (n,B,A,R)=0
 . obtain ⟨n0,n1,hB,hA,hb,hat,hR,hrin⟩:=zx h0
   dsimp only at n0 n1 hB hA hb hat hR hrin
   simp only [h0,Option.bind_some,decide_true,Bool.not_true,cond_false,ne_eq,not_true_eq_false,if_false]
   by_cases h1:¬ (names.length:Int)=n∨¬ C.length=A.length
   . have:((!decide ((((names.length:Nat):Int))=n))||(!decide ((((C.length:Nat):Int))=(((A.length:Nat):Int)))))=true:=by simp; omega
     rw [this,if_pos h1]; rfl
   . have:((!decide ((((names.length:Nat):Int))=n))||(!decide ((((C.length:Nat):Int))=(((A.length:Nat):Int)))))=false:=by simp; omega
     rw [this,if_neg h1,cond_false]
     have hn:(names.length:Int)=n:=by omega
     have hl:C.length=A.length:=by omega
     rw [xm (body:=oJ (n,B,A,R) names) hB hn hb ?_ ?_]
     . simp only [Option.bind_some]
       have q2:=jJ names B B.length
       have hfl:=g9 (body:=lA (n,B,A,R) names C) (fun k=>mis A C k=true) (fun k=>(bds names B B.length++fls names A C k,(k:Int))) A.length (fun _ => .inr ([],8)) (.inl (bds names B B.length++fls names A C A.length)) ?_ ?_ ?_
       . have e0:(bds names B B.length,(0:Int))=(bds names B B.length++fls names A C 0,((0:Nat):Int)):=by simp [fls]
         rw [e0]
         rcases hfl with ⟨k,k1,k2,_,k3⟩ | ⟨k1,k3⟩
         . have:(List.range A.length).any (mis A C)=true:=List.any_eq_true.2 ⟨k,List.mem_range.2 k1,k2⟩
           rw [k3,this]; rfl
         . have:(List.range A.length).any (mis A C)=false:=by
             rw [List.any_eq_false]; intro k hk; exact k1 k (List.mem_range.1 hk)
           rw [k3,this]
           have q1:=jN names A C hC A.length
           have q3:=cT 6 (R.map (sbs names)) D 0
           rw [List.length_map] at q3
           simp only [Option.bind_some,Bool.false_eq_true,if_false]
           rw [tA R names (by omega),mQ hn hrin]
           simp only [Bool.false_eq_true,if_false,Option.bind_some]
           rw [jr _ _ _ _ (by simp; omega) (by omega) (by omega),yX,ij]
           cases hs:shp D R with
           | false=>rfl
           | true =>
             simp only [if_true,Option.bind_some,decide_true,Bool.not_true,cond_false]
             rw [aH (by simp only [List.length_append]; omega)]
             rfl
       . intro k hk hp
         have hkC:k < C.length:=by omega
         have ht:=hat A[k] (List.getElem_mem hk)
         have hc:=hC C[k] (List.getElem_mem hkC)
         have e1:A.getD k []=A[k]:=by simp [List.getD,hk]
         have e2:C.getD k []=C[k]:=by simp [List.getD,hkC]
         have hsh:shp C[k] A[k]=true:=by
           unfold mis at hp
           rw [e1,e2] at hp
           simpa using hp
         have q1:=jN names A C hC k
         have q3:=cT 5 C[k] (A[k].map (sbs names)) (16 * (k:Int))
         unfold lA
         simp only [dlt hk,cond_true,ah hk,Option.bind_some]
         rw [tA _ names (by omega),mQ hn ht.2]
         simp only [Bool.false_eq_true,if_false,Option.bind_some,ah hkC]
         rw [w64 (x:=16 * (k:Int)) (by omega) (by omega),jr _ _ _ _ (by omega) (by omega) (by omega),qj,hsh]
         simp only [if_true,Option.bind_some,decide_true,Bool.not_true,cond_false]
         rw [aH (by simp only [List.length_append]; omega),Option.bind_some,aj hk (by omega)]
         simp only [fls,fl,e1,e2,List.append_assoc]
       . intro k hk hp
         have hkC:k < C.length:=by omega
         have ht:=hat A[k] (List.getElem_mem hk)
         have hc:=hC C[k] (List.getElem_mem hkC)
         have e1:A.getD k []=A[k]:=by simp [List.getD,hk]
         have e2:C.getD k []=C[k]:=by simp [List.getD,hkC]
         have hsh:shp C[k] A[k]=false:=by
           unfold mis at hp
           rw [e1,e2] at hp
           simpa using hp
         unfold lA
         simp only [dlt hk,cond_true,ah hk,Option.bind_some]
         rw [tA _ names (by omega),mQ hn ht.2]
         simp only [Bool.false_eq_true,if_false,Option.bind_some,ah hkC]
         rw [w64 (x:=16 * (k:Int)) (by omega) (by omega),jr _ _ _ _ (by omega) (by omega) (by omega),qj,hsh]
         rfl
       . simp [lA]
     . intro l k hk
       unfold oJ
       simp only [dlt hk,cond_true,ah hk,Option.bind_some]
     . intro l; simp [oJ]
 . simp [h0]
theorem Id (s:Sg) (names:List Int) (C:List (List St)) (D:List St) (hs:s.2.1.length≤20∧s.2.2.1.length≤20∧s.2.2.2.length≤20) (hC:∀ t∈C,t.length≤20):(csp s names C D).1.length≤1000000:=by
 have q1:=jN names s.2.2.1 C hC s.2.2.1.length
 have q2:=jJ names s.2.1 s.2.1.length
 have q3:=cT 6 (s.2.2.2.map (sbs names)) D 0
 rw [List.length_map] at q3
 unfold csp
 split
 . simp
 . split
   . simp
   . split
     . simp
     . split
       . simp only [List.length_append]; omega
       . simp
abbrev Stm:=Int×Int×Int×Int×Bool
def be (k:Int):Bool:=(((decide (k=1))||(decide (k=2)))||(decide (k=3)))||(decide (k=5))
def a8 (k:Int):Bool:=(decide (1≤k))&&(decide (k≤4))
def cw (k:Int):Bool:=(decide (k=2))||(decide (k=3))
def fOk (x:Stm):Bool:=decide (0≤x.1)&&decide (x.1≤5)&&(be x.1||decide (x.2.1=0))&&(a8 x.1||decide (x.2.2.1=0))&&(cw x.1||(decide (x.2.2.2.1=0)&&!x.2.2.2.2))
theorem six {k:Int} (h:decide (0≤k)&&decide (k≤5)):k=0∨k=1∨k=2∨k=3∨k=4∨k=5:=by simp at h; omega
theorem DX (k:Int):oH k=some (if decide (0≤k)&&decide (k≤5) then (be k,a8 k,cw k,true) else (false,false,false,false)):=by
 by_cases h:(decide (0≤k)&&decide (k≤5))=true
 . rcases six h with rfl | rfl | rfl | rfl | rfl | rfl <;> rfl
 . rw [if_neg h]
   have h':k < 0∨5 < k:=by simp at h; omega
   have e (j:Int) (h0:0≤j) (h5:j≤5):decide (k=j)=false:=by simp; omega
   unfold oH
   simp only [e 0 (by omega) (by omega),e 1 (by omega) (by omega),e 2 (by omega) (by omega),e 3 (by omega) (by omega),e 4 (by omega) (by omega),e 5 (by omega) (by omega),cond_false,Option.bind_some]
theorem xt (x:Stm):me x=some (fOk x):=by
 obtain ⟨k,d,s,r,m⟩:=x
 have h1:jj k=some (be k):=rfl
 have h2:jk k=some (a8 k):=rfl
 have h3:lM k=some (cw k):=rfl
 unfold me fOk
 simp only [h1,h2,h3,Option.bind_some]
 cases (decide (0≤k)&&decide (k≤5)) <;> simp
 cases (be k||decide (d=0)) <;> simp
 cases (a8 k||decide (s=0)) <;> simp
theorem H5 (x:Stm):pd x=some (if fOk x then (be x.1,a8 x.1,cw x.1,0) else (false,false,false,3)):=by
 obtain ⟨k,d,s,r,m⟩:=x
 unfold pd
 rw [DX]
 by_cases h:(decide (0≤k)&&decide (k≤5))=true
 . simp only [h,if_true,Option.bind_some,Bool.not_true,cond_false]
   have ho:pm (k,d,s,r,m) (be k,a8 k,cw k)=some (k,if be k then d else 0,if a8 k then s else 0,if cw k then r else 0,if cw k then m else false):=by
     unfold pm
     cases be k <;> cases a8 k <;> cases cw k <;> rfl
   rw [ho,Option.bind_some]
   unfold fOk
   simp only [h,Bool.true_and]
   cases be k <;> cases a8 k <;> cases cw k <;> simp
   all_goals (by_cases q1:d=0 <;> by_cases q2:s=0 <;> by_cases q3:r=0 <;> cases m <;> simp [q1,q2,q3])
 . have h':(decide (0≤k)&&decide (k≤5))=false:=by simpa using h
   unfold fOk
   simp [h']
def loc (xb:List (List St)) (d:Int):Bool:=decide (0≤d)&&decide (d < ((xb.length:Nat):Int))
theorem Aq (xb:List (List St)) (d:Int):(decide (d < 0)||decide (((xb.length:Nat):Int)≤d)) = !loc xb d:=by
 unfold loc
 by_cases h1:d < 0 <;> by_cases h2:((xb.length:Nat):Int)≤d <;> simp [h1,h2] <;> omega
theorem jV {xb:List (List St)} {d:Int} (h:loc xb d=true) (hb:∀ t∈xb,t.length≤20):∃ t:List St,aa xb d=some t∧t.length≤20:=by
 unfold loc at h
 simp at h
 exact ⟨_,rJ h.1 h.2,hb _ (List.getElem_mem _)⟩
def Gd (R:Int) (n:Nd):Prop:=(0≤n.1∧n.1 < R)∧(0≤n.2.1∧n.2.1 < R)∧(1≤n.2.2.1∧n.2.2.1≤7)∧(0≤n.2.2.2.1∧n.2.2.2.1≤1000000)
theorem dZ {R:Int} {t:List St} (h:rin R t=false) {x:St} (hx:x∈t):0≤x.1∧x.1 < R:=by
 have:=List.any_eq_false.1 h x hx
 simp at this; omega
theorem jS {R:Int} {t:List St} (h:∀ x∈t,0≤x.1∧x.1 < R):rin R t=false:=by
 unfold rin
 rw [List.any_eq_false]
 intro x hx
 have:=h x hx
 simp; omega
theorem ig {R kind:Int} (hk:1≤kind∧kind≤7):∀ (xs ys:List St) (f:Int),0≤f→f + (xs.length:Int)≤1000000→rin R xs=false→rin R ys=false→∀ n∈rel kind f xs ys,Gd R n
 | x :: xs,y :: ys,f,h0,h1,hx,hy,n,hn=>by
   have a1:=dZ hx (x:=x) (by simp)
   have a2:=dZ hy (x:=y) (by simp)
   simp only [List.length_cons] at h1
   simp only [rel,List.mem_append] at hn
   rcases hn with hn | hn
   . unfold kp at hn
     rcases List.mem_cons.1 hn with rfl | hn
     . exact ⟨a1,a2,hk,h0,by show f≤_; omega⟩
     . split at hn
       . rcases List.mem_cons.1 hn with rfl | hn
         . exact ⟨a2,a1,hk,h0,by show f≤_; omega⟩
         . simp at hn
       . simp at hn
   . exact ig hk xs ys (f + 1) (by omega) (by omega) (jS fun z hz=>dZ hx (by simp [hz])) (jS fun z hz=>dZ hy (by simp [hz])) n hn
 | [],_,_,_,_,_,_,n,hn=>by simp [rel] at hn
 | _ :: _,[],_,_,_,_,_,n,hn=>by simp [rel] at hn
theorem Ib {R r:Int} {m:Bool} {xa xb:List St} (hr:0≤r∧r < R) (hl:xa.length≤30) (hx:rin R xa=false) (hy:rin R xb=false):∀ n∈(lo r m xa xb).1,Gd R n:=by
 intro n hn
 unfold lo at hn
 split at hn
 . rename_i hs
   have:=vb hs
   cases xb with
   | nil=>simp at this
   | cons y ys =>
     rcases List.mem_cons.1 hn with rfl | hn
     . exact ⟨hr,dZ hy (x:=y) (by simp),by simp,by simp⟩
     . exact ig (by decide) xa _ 1 (by omega) (by omega) hx (jS fun z hz=>dZ hy (List.mem_of_mem_drop hz)) n hn
 . simp at hn
theorem HS {R r:Int} {m:Bool} {xa xb:List St} (hr:0≤r∧r < R) (hl:xa.length≤30) (hx:rin R xa=false) (hy:rin R xb=false):∀ n∈(ag r m xa xb).1,Gd R n:=by
 intro n hn
 unfold ag at hn
 split at hn
 . split at hn
   . simp at hn
   . rename_i x xs y ys _
     simp only [List.length_cons] at hl
     rcases List.mem_cons.1 hn with rfl | hn
     . exact ⟨dZ hx (by simp),hr,by simp,by simp⟩
     . rcases List.mem_cons.1 hn with rfl | hn
       . exact ⟨hr,dZ hy (by simp),by simp,by simp⟩
       . exact ig (by decide) xs ys 1 (by omega) (by omega) (jS fun z hz=>dZ hx (by simp [hz])) (jS fun z hz=>dZ hy (by simp [hz])) n hn
 . simp at hn
theorem jz {α:Type} {l:List α} {i:Int} {x:α} (h:aa l i=some x):x∈l:=List.mem_of_getElem? (dT h).2.1
theorem DM (x:Stm) (xb:List (List St)) (xc:Int) (hb:∀ t∈xb,t.length≤20):∃ l e,jf x xb xc=some (l,e)∧fu x xb xc=some (l,e)∧l.length≤1000∧((∀ t∈xb,rin xc t=false)→∀ n∈l,Gd xc n):=by
 obtain ⟨k,d,s,r,m⟩:=x
 unfold jf fu
 have g1:jj k=some (be k):=rfl
 have g2:jk k=some (a8 k):=rfl
 have g3:lM k=some (cw k):=rfl
 have g4 (d:Int):nW d xb=some (loc xb d):=rfl
 simp only [H5,xt,Option.bind_some,g1,g2,g3,g4,Aq]
 cases hf:fOk (k,d,s,r,m) with
 | false=>exact ⟨[],3,rfl,rfl,by simp,by simp⟩
 | true =>
   have hk:k=0∨k=1∨k=2∨k=3∨k=4∨k=5:=by
     unfold fOk at hf
     simp only [Bool.and_eq_true] at hf
     exact six (by simpa using hf.1.1.1)
   have bad:∃ l e,(some (([]:List Nd),(7:Int)):Option (List Nd×Int))=some (l,e)∧(some (([]:List Nd),(7:Int)):Option (List Nd×Int))=some (l,e)∧l.length≤1000∧((∀ t∈xb,rin xc t=false)→∀ n∈l,Gd xc n):=⟨[],7,rfl,rfl,by simp,by simp⟩
   have good:∃ l e,(some (([]:List Nd),(0:Int)):Option (List Nd×Int))=some (l,e)∧(some (([]:List Nd),(0:Int)):Option (List Nd×Int))=some (l,e)∧l.length≤1000∧((∀ t∈xb,rin xc t=false)→∀ n∈l,Gd xc n):=⟨[],0,rfl,rfl,by simp,by simp⟩
   rcases hk with rfl | rfl | rfl | rfl | rfl | rfl
   . simpa [be,a8,cw] using good
   . have e1:be 1=true:=rfl
     have e2:a8 1=true:=rfl
     have e3:cw 1=false:=rfl
     cases h1:loc xb d with
     | false=>simpa [e1,e2,e3,h1] using bad
     | true =>
       cases h2:loc xb s with
       | false=>simpa [e1,e2,e3,h1,h2] using bad
       | true =>
         obtain ⟨t1,a1,b1⟩:=jV h1 hb
         obtain ⟨t2,a2,b2⟩:=jV h2 hb
         simp [e1,e2,e3,h1,h2,a1,a2]
         rw [pv _ _ _ _ (by omega) (by omega) (by omega),jr _ _ _ _ (by omega) (by omega) (by omega)]
         have hr:=cT 1 t2 t1 0
         by_cases q:shp t2 t1=true
         . exact ⟨rel 1 0 t2 t1,0,by simp [q],by simp [q],by omega,fun hg=>by simpa using ig (kind:=1) (by decide) t2 t1 0 (by omega) (by omega) (hg _ (jz a2)) (hg _ (jz a1))⟩
         . exact ⟨[],8,by simp [q],by simp [q],by simp,by simp⟩
   all_goals try
     (have e1:be 4=false:=rfl
      have e2:a8 4=true:=rfl
      have e3:cw 4=false:=rfl
      cases h2:loc xb s with
      | false=>simpa [e1,e2,e3,h2] using bad
      | true=>simpa [e1,e2,e3,h2] using good)
   all_goals try
     (have e1:be 5=true:=rfl
      have e2:a8 5=false:=rfl
      have e3:cw 5=false:=rfl
      cases h2:loc xb d with
      | false=>simpa [e1,e2,e3,h2] using bad
      | true=>simpa [e1,e2,e3,h2] using good)
   . have e1:be 2=true:=rfl
     have e2:a8 2=true:=rfl
     have e3:cw 2=true:=rfl
     cases h1:loc xb d with
     | false=>simpa [e1,e2,e3,h1] using bad
     | true =>
       cases h2:loc xb s with
       | false=>simpa [e1,e2,e3,h1,h2] using bad
       | true =>
         cases h3:(decide (r < 0)||decide (xc≤r)) with
         | true=>simpa [e1,e2,e3,h1,h2,h3] using bad
         | false =>
           obtain ⟨t1,a1,b1⟩:=jV h1 hb
           obtain ⟨t2,a2,b2⟩:=jV h2 hb
           have hq:=FM r m t2 t1 (by omega)
           refine ⟨(lo r m t2 t1).1,(lo r m t2 t1).2,?_,?_,by omega,fun hg=>Ib (by simp at h3; omega) (by omega) (hg _ (jz a2)) (hg _ (jz a1))⟩
           . simp [e1,e2,e3,h1,h2,h3,a1,a2,EB t2 t1 r m (by omega)]
           . simp [e1,e2,e3,h1,h2,h3,a1,a2,Ey t2 t1 r m (by omega)]
   . have e1:be 3=true:=rfl
     have e2:a8 3=true:=rfl
     have e3:cw 3=true:=rfl
     cases h1:loc xb d with
     | false=>simpa [e1,e2,e3,h1] using bad
     | true =>
       cases h2:loc xb s with
       | false=>simpa [e1,e2,e3,h1,h2] using bad
       | true =>
         cases h3:(decide (r < 0)||decide (xc≤r)) with
         | true=>simpa [e1,e2,e3,h1,h2,h3] using bad
         | false =>
           obtain ⟨t1,a1,b1⟩:=jV h1 hb
           obtain ⟨t2,a2,b2⟩:=jV h2 hb
           have hq:=Gu r m t2 t1 (by omega)
           refine ⟨(ag r m t2 t1).1,(ag r m t2 t1).2,?_,?_,by omega,fun hg=>HS (by simp at h3; omega) (by omega) (hg _ (jz a2)) (hg _ (jz a1))⟩
           . simp [e1,e2,e3,h1,h2,h3,a1,a2,D4 t2 t1 r m (by omega)]
           . simp [e1,e2,e3,h1,h2,h3,a1,a2,DS t2 t1 r m (by omega)]
abbrev Tm:=Int×Int×Int×List Int×List Int×List Int
def jX (x:Tm):Bool:=((!decide (x.2.1=0))||(!decide (x.2.2.1=0)))||(decide (0 < x.2.2.2.2.2.length))
def m7 (x:Tm):Bool :=
 if x.1=1 then decide (x.2.2.2.1.length=1)&&decide (x.2.2.2.2.1.length=0)&&!jX x
 else if x.1=2 then decide (0 < x.2.2.2.1.length)&&!jX x
 else if x.1=3 then decide (x.2.2.2.1.length=0)&&decide (x.2.2.2.2.1.length=0)&&!jX x
 else if x.1=4 then decide (x.2.2.2.1.length=1) else false
def cb (x:Tm):Int:=if m7 x=true then if 16 < x.2.2.2.1.length∨16 < x.2.2.2.2.1.length∨16 < x.2.2.2.2.2.length then 6 else 0 else 3
theorem bnd (a b:Bool):(cond a (some b) (some false):Option Bool)=some (a&&b):=by cases a <;> rfl
theorem dn1 (n:Nat):decide ((n:Int)=1)=decide (n=1):=by by_cases h:n=1 <;> simp [h] <;> omega
theorem dn0 (n:Nat):decide ((n:Int)=0)=decide (n=0):=by by_cases h:n=0 <;> simp [h] <;> omega
theorem dp0 (n:Nat):decide (0 < (n:Int))=decide (0 < n):=by by_cases h:0 < n <;> simp [h] <;> omega
theorem d16 (n:Nat):decide (16 < (n:Int))=decide (16 < n):=by by_cases h:16 < n <;> simp [h] <;> omega
theorem Gf (x:Tm):mi x=some (cb x):=by
 obtain ⟨k,g,d,to,args,ps⟩:=x
 have hc:jh (k,g,d,to,args,ps)=some (jX (k,g,d,to,args,ps)):=by unfold jh jX; simp only [dp0]
 unfold mi cb
 have hr:∀ b:Bool,(cond (!b) (some 3) (cond (((decide (16 < ((to.length:Nat):Int)))||(decide (16 < ((args.length:Nat):Int))))||(decide (16 < ((ps.length:Nat):Int)))) (some 6) (some 0)):Option Int)=some (if b=true then if 16 < to.length∨16 < args.length∨16 < ps.length then 6 else 0 else 3):=by
   intro b
   cases b with
   | false=>rfl
   | true =>
     simp only [d16,Bool.not_true,cond_false,if_true]
     by_cases h1:16 < to.length <;> by_cases h2:16 < args.length <;> by_cases h3:16 < ps.length <;> simp [h1,h2,h3]
 dsimp only at *
 have hm:∀ (m:Option Bool) (b:Bool),m=some b→(m.bind fun t194=>cond (!t194) (some 3) (cond (((decide (16 < ((to.length:Nat):Int)))||(decide (16 < ((args.length:Nat):Int))))||(decide (16 < ((ps.length:Nat):Int)))) (some 6) (some 0)):Option Int)=some (if b=true then if 16 < to.length∨16 < args.length∨16 < ps.length then 6 else 0 else 3):=by
   rintro _ b rfl; exact hr b
 refine hm _ _ ?_
 simp only [hc,Option.bind_some,dn1,dn0,dp0]
 unfold m7
 dsimp only
 by_cases k1:k=1
 . simp [k1,bnd,Bool.and_assoc]
 . by_cases k2:k=2
   . simp [k2,bnd,Bool.and_assoc]
   . by_cases k3:k=3
     . simp [k3,bnd,Bool.and_assoc]
     . by_cases k4:k=4
       . simp [k4]
       . simp [k1,k2,k3,k4]
theorem Ei {x:Tm} (h:cb x=0):m7 x=true∧x.2.2.2.1.length≤16∧x.2.2.2.2.1.length≤16∧x.2.2.2.2.2.length≤16:=by
 unfold cb at h
 split at h
 . split at h
   . cases h
   . rename_i q; exact ⟨by assumption,by omega,by omega,by omega⟩
 . cases h
theorem EJ (xa:List Int) (n:Int) (hn:xa.length≤1073741824):dO xa n=some (!xa.any (fun x=>decide (x < 0)||decide (n≤x))):=by
 unfold dO
 rw [dV (body:=om xa n) xa (fun x=>decide (x < 0)||decide (n≤x)) (.inr false) (.inl ()) ?_ ?_]
 . cases xa.any (fun x=>decide (x < 0)||decide (n≤x)) <;> rfl
 . intro k hk
   unfold om
   by_cases q:xa[k] < 0 <;> by_cases q2:n≤xa[k] <;> simp [hk,ah hk,aj hk (by omega:xa.length≤9223372036854775807),q,q2]
 . simp [om]
theorem pi (x:Tm):fw x=some (cb x):=by
 obtain ⟨k,g,d,to,args,ps⟩:=x
 unfold fw cb m7 jX
 dsimp only
 simp only [dn1,dn0,d16,dp0]
 have hps:decide (0 < ps.length) = !decide (ps.length=0):=by by_cases h:ps.length=0 <;> simp [h] <;> omega
 have hto:decide (0 < to.length) = !decide (to.length=0):=by by_cases h:to.length=0 <;> simp [h] <;> omega
 rw [hps,hto]
 have last:(cond (((decide (16 < to.length))||(decide (16 < args.length)))||(decide (16 < ps.length))) (some 6) (some 0):Option Int)=some (if 16 < to.length∨16 < args.length∨16 < ps.length then 6 else 0):=by
   by_cases h1:16 < to.length <;> by_cases h2:16 < args.length <;> by_cases h3:16 < ps.length <;> simp [h1,h2,h3]
 rw [last]
 generalize (if 16 < to.length∨16 < args.length∨16 < ps.length then (6:Int) else 0)=z
 generalize decide (to.length=1)=t1
 generalize decide (to.length=0)=t0
 generalize decide (args.length=0)=a0
 generalize decide (ps.length=0)=p0
 generalize decide (g=0)=g0
 generalize decide (d=0)=d0
 by_cases k1:k=1
 . subst k1; cases t1 <;> cases t0 <;> cases a0 <;> cases p0 <;> cases g0 <;> cases d0 <;> simp
 . by_cases k2:k=2
   . subst k2; cases t1 <;> cases t0 <;> cases a0 <;> cases p0 <;> cases g0 <;> cases d0 <;> simp
   . by_cases k3:k=3
     . subst k3; cases t1 <;> cases t0 <;> cases a0 <;> cases p0 <;> cases g0 <;> cases d0 <;> simp
     . by_cases k4:k=4
       . subst k4; cases t1 <;> cases t0 <;> cases a0 <;> cases p0 <;> cases g0 <;> cases d0 <;> simp
       . have:(decide (k < 1)||decide (4 < k))=true:=by simp; omega
         simp [this,k1,k2,k3,k4]
theorem Ck {xa:List (List St)} {body:Int→Option (Int⊕(Unit⊕Bool))} (hn:xa.length≤1000) (hb:∀ i,body i=cond (decide (i < (((xa.length:Nat):Int)))) ((aa xa i).bind fun x=>(gY x 20).bind fun t=>cond (!t) (some (.inr ((.inr (false))))) (some (.inl (IntKind.wrap .i64 (i + 1))))) (some (.inr ((.inl ()))))) :
   loop body 0=some (if xa.any (fun t=>!decide (t.length≤20)) then (Sum.inr false:Unit⊕Bool) else .inl ()):=by
 refine dV (β:=Unit⊕Bool) xa (fun t=>!decide (t.length≤20)) (.inr false) (.inl ()) ?_ ?_
 . intro k hk
   rw [hb]
   simp only [dlt hk,cond_true,ah hk,Option.bind_some,aj hk (by omega:xa.length≤9223372036854775807),vr]
   by_cases q:xa[k].length≤20
   . have:decide (((xa[k].length:Nat):Int)≤20)=true:=by simp; omega
     simp [this,q]
   . have:decide (((xa[k].length:Nat):Int)≤20)=false:=by simp; omega
     simp [this,q]
 . rw [hb]; simp
theorem zQ {xa:List (List St)} (h:xa.any (fun t=>!decide (t.length≤20))=false):∀ t∈xa,t.length≤20:=by
 intro t ht
 have:=List.any_eq_false.1 h t ht
 simpa using this
theorem BP (s:Sg):fC s=some false∨(fC s=some true∧s.2.1.length≤20∧s.2.2.1.length≤20∧s.2.2.2.length≤20∧∀ t∈s.2.2.1,t.length≤20):=by
 unfold fC
 by_cases h:20 < s.2.1.length∨20 < s.2.2.1.length
 . have:((decide (20 < (((s.2.1.length:Nat):Int))))||(decide (20 < (((s.2.2.1.length:Nat):Int)))))=true:=by simp; omega
   rw [this]; exact .inl rfl
 . have:((decide (20 < (((s.2.1.length:Nat):Int))))||(decide (20 < (((s.2.2.1.length:Nat):Int)))))=false:=by simp; omega
   rw [this,cond_false,vr]
   by_cases q:s.2.2.2.length≤20
   . have e:decide (((s.2.2.2.length:Nat):Int)≤20)=true:=by simp; omega
     simp only [Option.bind_some,e,Bool.not_true,cond_false]
     rw [Ck (body:=wM s) (xa:=s.2.2.1) (by omega) (fun i=>rfl)]
     cases hf:s.2.2.1.any (fun t=>!decide (t.length≤20)) with
     | true=>exact .inl rfl
     | false=>exact .inr ⟨rfl,by omega,by omega,q,zQ hf⟩
   . have e:decide (((s.2.2.2.length:Nat):Int)≤20)=false:=by simp; omega
     simp only [Option.bind_some,e]; exact .inl rfl
def bad (n:Int) (xa:List Int):Bool:=xa.any (fun x=>decide (x < 0)||decide (n≤x))
theorem tD (xa:List Int) (n:Int) (hn:xa.length≤1000):iN xa n=some (bad n xa):=by
 unfold iN r8
 rw [b9 (body:=nG xa n) xa (fun x=>decide (x < 0)||decide (n≤x)) (fun k => .inr (k:Int)) (.inl ()) ?_ ?_]
 . rcases xJ xa (fun x=>decide (x < 0)||decide (n≤x)) with ⟨k,h1,h2⟩ | ⟨h1,h2⟩
   . rw [h1]; unfold bad; simp [h2]
   . rw [h1]; unfold bad; simp [h2]
 . intro k hk
   unfold nG iQ
   simp only [dlt hk,cond_true,ah hk,Option.bind_some,aj hk (by omega:xa.length≤9223372036854775807)]
   cases (decide (xa[k] < 0)||decide (n≤xa[k])) <;> rfl
 . simp [nG]
theorem dx (xa:List Int) (n:Int) (hn:xa.length≤1000):dO xa n=some (!bad n xa):=EJ xa n (by omega)
abbrev Ar:=Int×Int×List (List St)×List St×List Sg
theorem Fm {x:Tm} {a:Ar} (hx:x.2.2.2.2.1.length≤20) (hb:bad (a.2.2.1.length:Int) x.2.2.2.2.1=false) (hL:∀ t∈a.2.2.1,t.length≤20) :
   ∃ C:List (List St),loop (iW x a) ([],0)=some C∧(∀ t∈C,t.length≤20)∧∀ t∈C,t∈a.2.2.1:=by
 have hin (k:Nat) (hk:k < x.2.2.2.2.1.length):0≤x.2.2.2.2.1[k]∧x.2.2.2.2.1[k] < (a.2.2.1.length:Int):=by
   have:=List.any_eq_false.1 hb _ (List.getElem_mem hk)
   simp at this; omega
 have hl:=aF (body:=iW x a) (fun k:Nat=>((x.2.2.2.2.1.take k).map (fun i=>a.2.2.1.getD i.toNat []),(k:Int))) x.2.2.2.2.1.length (b:=x.2.2.2.2.1.map (fun i=>a.2.2.1.getD i.toNat [])) ?_ ?_
 . have hm:∀ t∈x.2.2.2.2.1.map (fun i=>a.2.2.1.getD i.toNat []),t∈a.2.2.1:=by
     intro t ht
     obtain ⟨i,hi,rfl⟩:=List.mem_map.1 ht
     obtain ⟨k,hk,rfl⟩:=List.getElem_of_mem hi
     have h2:=hin k hk
     have:x.2.2.2.2.1[k].toNat < a.2.2.1.length:=by omega
     have e:a.2.2.1.getD x.2.2.2.2.1[k].toNat []=a.2.2.1[x.2.2.2.2.1[k].toNat]:=by simp [List.getD,this]
     rw [e]; exact List.getElem_mem _
   refine ⟨_,hl,fun t ht=>?_,hm⟩
   obtain ⟨i,hi,rfl⟩:=List.mem_map.1 ht
   obtain ⟨k,hk,rfl⟩:=List.getElem_of_mem hi
   have h2:=hin k hk
   have:x.2.2.2.2.1[k].toNat < a.2.2.1.length:=by omega
   have e:a.2.2.1.getD x.2.2.2.2.1[k].toNat []=a.2.2.1[x.2.2.2.2.1[k].toNat]:=by simp [List.getD,this]
   rw [e]; exact hL _ (List.getElem_mem _)
 . intro k hk
   have h2:=hin k hk
   have h3:x.2.2.2.2.1[k].toNat < a.2.2.1.length:=by omega
   have e:a.2.2.1.getD x.2.2.2.2.1[k].toNat []=a.2.2.1[x.2.2.2.2.1[k].toNat]:=by simp [List.getD,h3]
   unfold iW
   simp only [dlt hk,cond_true,ah hk,Option.bind_some]
   rw [rJ h2.1 h2.2,Option.bind_some,aH (by simp; omega),Option.bind_some,aj hk (by omega),aM hk,List.map_append]
   simp only [List.map_cons,List.map_nil,e]
 . simp [iW]
theorem tY {R:Int} {names:List Int} (hR:0 < R) (hn:bad R names=false) (i:Nat):0≤names.getD i 0∧names.getD i 0 < R:=by
 by_cases q:i < names.length
 . have e:names.getD i 0=names[i]:=by simp [List.getD,q]
   rw [e]
   have:=List.any_eq_false.1 hn _ (List.getElem_mem q)
   simp at this; omega
 . have e:names.getD i 0=0:=by simp [List.getD,List.getElem?_eq_none (Nat.not_lt.1 q)]
   rw [e]; omega
theorem zj {R:Int} {names:List Int} (hR:0 < R) (hn:bad R names=false) {t:List St}:rin R (t.map (sbs names))=false:=by
 refine jS fun x hx=>?_
 obtain ⟨y,_,rfl⟩:=List.mem_map.1 hx
 exact tY hR hn _
theorem Gn {R:Int} {s:Sg} {names:List Int} {C:List (List St)} {D:List St} (hR:0 < R) (hn:bad R names=false) (hC:∀ t∈C,t.length≤20∧rin R t=false) (hD:rin R D=false) (hs:s.2.1.length≤20∧s.2.2.1.length≤20∧s.2.2.2.length≤20):∀ n∈(csp s names C D).1,Gd R n:=by
 intro n h
 unfold csp at h
 split at h
 . simp at h
 split at h
 . simp at h
 split at h
 . simp at h
 split at h
 . have hb : ∀ k, k ≤ 20 → ∀ n ∈ bds names s.2.1 k, Gd R n := by
     intro k
     induction k with
     | zero=>intro _ n hn; simp [bds] at hn
     | succ k ih =>
       intro hk n hn'
       simp only [bds,List.mem_append,List.mem_singleton] at hn'
       rcases hn' with hn' | rfl
       . exact ih (by omega) n hn'
       . exact ⟨tY hR hn _,tY hR hn _,by simp,by show (0:Int)≤(k:Int); omega,by show (k:Int)≤_; omega⟩
   have hf : ∀ k, k ≤ 20 → ∀ n ∈ fls names s.2.2.1 C k, Gd R n := by
     intro k
     induction k with
     | zero=>intro _ n hn; simp [fls] at hn
     | succ k ih =>
       intro hk n hn'
       simp only [fls,List.mem_append] at hn'
       rcases hn' with hn' | hn'
       . exact ih (by omega) n hn'
       . unfold fl at hn'
         have hc:(C.getD k []).length≤20∧rin R (C.getD k [])=false:=by
           by_cases q:k < C.length
           . have e:C.getD k []=C[k]:=by simp [List.getD,q]
             rw [e]; exact hC _ (List.getElem_mem q)
           . have e:C.getD k []=[]:=by simp [List.getD,List.getElem?_eq_none (Nat.not_lt.1 q)]
             rw [e]; exact ⟨by simp,rfl⟩
         exact ig (by decide) _ _ _ (by omega) (by omega) hc.2 (zj hR hn) n hn'
   rcases List.mem_append.1 h with h | h
   . rcases List.mem_append.1 h with h | h
     . exact hb _ hs.1 n h
     . exact hf _ hs.2.1 n h
   . exact ig (by decide) _ _ 0 (by omega) (by simp; omega) (zj hR hn) hD n h
 . simp at h
theorem Hm (x:Tm) (a:Ar) (l2:x.2.2.2.1.length≤20) (l3:x.2.2.2.2.1.length≤20) (l4:x.2.2.2.2.2.length≤20) (hR:a.2.2.2.1.length≤20) (hL:∀ t∈a.2.2.1,t.length≤20) (hS:∀ s∈a.2.2.2.2,s.2.1.length≤20∧s.2.2.1.length≤20∧s.2.2.2.length≤20∧∀ t∈s.2.2.1,t.length≤20) :
   ∃ l e,jg x a=some (l,e)∧dq x a=some (l,e)∧l.length≤1000000∧((0 < a.2.1∧(∀ t∈a.2.2.1,rin a.2.1 t=false)∧rin a.2.1 a.2.2.2.1=false)→∀ n∈l,Gd a.2.1 n):=by
 have same:wK x a=iW x a:=rfl
 unfold jg dq
 rw [show mi (x.1,x.2.1,x.2.2.1,x.2.2.2.1,x.2.2.2.2.1,x.2.2.2.2.2)=some (cb x) from Gf x,show fw (x.1,x.2.1,x.2.2.1,x.2.2.2.1,x.2.2.2.2.1,x.2.2.2.2.2)=some (cb x) from pi x,same]
 have hw:oW (x.1,x.2.1,x.2.2.1,x.2.2.2.1,x.2.2.2.2.1,x.2.2.2.2.2) (a.1,a.2.1,a.2.2.1,a.2.2.2.1,a.2.2.2.2)=some (!(bad a.1 x.2.2.2.1||bad (a.2.2.1.length:Int) x.2.2.2.2.1||bad a.2.1 x.2.2.2.2.2||(decide (x.1=4)&&(bad (a.2.2.1.length:Int) [x.2.2.1]||bad (a.2.2.2.2.length:Int) [x.2.1])))):=by
   unfold oW jd iQ
   simp only [Option.bind_some,tD x.2.2.2.1 _ (by omega:x.2.2.2.1.length≤1000),tD x.2.2.2.2.1 _ (by omega:x.2.2.2.2.1.length≤1000),tD x.2.2.2.2.2 _ (by omega:x.2.2.2.2.2.length≤1000)]
   have e (n i:Int):bad n [i]=(decide (i < 0)||decide (n≤i)):=by simp [bad]
   rw [e,e]
   cases bad a.1 x.2.2.2.1 <;> cases bad (a.2.2.1.length:Int) x.2.2.2.2.1 <;> cases bad a.2.1 x.2.2.2.2.2 <;> cases decide (x.1=4) <;> cases (decide (x.2.2.1 < 0)||decide ((a.2.2.1.length:Int)≤x.2.2.1)) <;> cases (decide (x.2.1 < 0)||decide ((a.2.2.2.2.length:Int)≤x.2.1)) <;> rfl
 rw [hw]
 by_cases hf:cb x=0
 . have o1 (i n:Int):dO [i] n=some (!bad n [i]):=dx [i] n (by simp)
   simp only [hf,Option.bind_some,decide_true,Bool.not_true,cond_false,dx x.2.2.2.1 _ (by omega:x.2.2.2.1.length≤1000),dx x.2.2.2.2.1 _ (by omega:x.2.2.2.2.1.length≤1000),dx x.2.2.2.2.2 _ (by omega:x.2.2.2.2.2.length≤1000),o1,Bool.not_not]
   have seven:∃ l e,(some (([]:List Nd),(7:Int)):Option (List Nd×Int))=some (l,e)∧(some (([]:List Nd),(7:Int)):Option (List Nd×Int))=some (l,e)∧l.length≤1000000∧((0 < a.2.1∧(∀ t∈a.2.2.1,rin a.2.1 t=false)∧rin a.2.1 a.2.2.2.1=false)→∀ n∈l,Gd a.2.1 n):=⟨[],7,rfl,rfl,by simp,by simp⟩
   cases b1:bad a.1 x.2.2.2.1 with
   | true=>exact seven
   | false =>
     cases b2:bad (a.2.2.1.length:Int) x.2.2.2.2.1 with
     | true=>exact seven
     | false =>
       cases b3:bad a.2.1 x.2.2.2.2.2 with
       | true=>exact seven
       | false =>
         by_cases k4:x.1=4
         . have n3:¬ x.1=3:=by omega
           rw [decide_eq_true k4,decide_eq_false n3]
           cases b4:bad (a.2.2.1.length:Int) [x.2.2.1] with
           | true=>exact seven
           | false =>
             cases b5:bad (a.2.2.2.2.length:Int) [x.2.1] with
             | true=>exact seven
             | false =>
               obtain ⟨C,c1,c2,c3⟩:=Fm l3 b2 hL
               simp [bad] at b4 b5
               simp only [Bool.or_self,Bool.and_false,Bool.not_false,Bool.not_true,cond_false,cond_true,Option.bind_some,c1,Bool.false_and,Bool.true_and]
               rw [rJ b5.1 b5.2,rJ b4.1 b4.2]
               have hs:=hS _ (List.getElem_mem (l:=a.2.2.2.2) (n:=x.2.1.toNat) (by omega))
               have ht:=hL _ (List.getElem_mem (l:=a.2.2.1) (n:=x.2.2.1.toNat) (by omega))
               have hDm:=List.getElem_mem (l:=a.2.2.1) (n:=x.2.2.1.toNat) (by omega)
               simp only [Option.bind_some]
               generalize a.2.2.2.2[x.2.1.toNat]=S at hs ⊢
               generalize a.2.2.1[x.2.2.1.toNat]=D at ht hDm ⊢
               rw [show mq (S.1,S.2.1,S.2.2.1,S.2.2.2) x.2.2.2.2.2 C D=_ from Ej S _ C D hs.2.2.1 hs.2.2.2 c2 ht,show lY (S.1,S.2.1,S.2.2.1,S.2.2.2) x.2.2.2.2.2 C D=_ from Eu S _ C D hs.2.2.1 hs.2.2.2 c2 ht]
               have hn:=Id S x.2.2.2.2.2 C D ⟨hs.1,hs.2.1,hs.2.2.1⟩ c2
               exact ⟨(csp S x.2.2.2.2.2 C D).1,(csp S x.2.2.2.2.2 C D).2,rfl,rfl,hn,fun hg=>Gn hg.1 b3 (fun t ht=>⟨c2 t ht,hg.2.1 t (c3 t ht)⟩) (hg.2.1 _ hDm) ⟨hs.1,hs.2.1,hs.2.2.1⟩⟩
         . rw [decide_eq_false k4]
           by_cases k3:x.1=3
           . rw [decide_eq_true k3]
             cases hz:a.2.2.1 with
             | nil=>exact ⟨[],14,by simp,by simp,by simp,by simp⟩
             | cons t ts =>
               have ht:=hL t (by rw [hz]; simp)
               have hl0:decide ((((t :: ts).length:Nat):Int)=0)=false:=decide_eq_false (by simp; omega)
               simp only [hl0,Bool.or_self,Bool.and_false,Bool.false_and,Bool.not_false,Bool.not_true,cond_false,cond_true,Option.bind_some,show aa (t :: ts) 0=some t from rfl]
               rw [pv _ _ _ _ (by omega) (by omega) (by omega),jr _ _ _ _ (by omega) (by omega) (by omega)]
               have hr:=cT 7 t a.2.2.2.1 0
               by_cases q:shp t a.2.2.2.1=true
               . exact ⟨rel 7 0 t a.2.2.2.1,0,by simp [q],by simp [q],by omega,fun hg=>ig (by decide) _ _ 0 (by omega) (by omega) (hg.2.1 t (by simp)) hg.2.2⟩
               . exact ⟨[],8,by simp [q],by simp [q],by simp,by simp⟩
           . rw [decide_eq_false k3]
             exact ⟨[],0,rfl,rfl,by simp,by simp⟩
 . exact ⟨[],cb x,by simp [hf],by simp [hf],by simp,by simp⟩
abbrev R3:Tp := .cons (.int .i64) (.cons (.sl (.cons (.int .i64) (.one (.int .i64)))) (.cons (.sl (.one (.sl (.cons (.int .i64) (.one .bool))))) (.one (.one (.sl (.cons (.int .i64) (.one .bool)))))))
abbrev RP:Tp := .cons (.int .i64) (.cons (.int .i64) (.cons (.int .i64) (.cons (.sl (.int .i64)) (.cons (.sl (.int .i64)) (.one (.sl (.int .i64)))))))
abbrev va:Tp := .cons (.int .i64) (.cons (.int .i64) (.cons (.sl (.cons (.int .i64) (.one (.int .i64)))) (.cons (.sl (.one (.sl (.cons (.int .i64) (.one .bool))))) (.cons (.one (.sl (.cons (.int .i64) (.one .bool)))) (.cons (.sl R3) (.one (.sl (.cons (.sl (.cons (.int .i64) (.cons (.int .i64) (.cons (.int .i64) (.cons (.int .i64) (.one .bool)))))) (.one RP)))))))))
abbrev Blk:=List Stm×Tm
abbrev Bo:=Int×Int×List (Int×Int)×List (List St)×List St×List Sg×List Blk
def stm (l:List Blk):Nat:=(l.map (fun x=>x.1.length)).sum
structure Sm (b:Bo):Prop where
 bounds:b.2.2.1.length≤20
 locals:b.2.2.2.1.length≤10
 loc:∀ t∈b.2.2.2.1,t.length≤20
 ret:b.2.2.2.2.1.length≤20
 sigs:b.2.2.2.2.2.1.length≤4
 sig:∀ s∈b.2.2.2.2.2.1,s.2.1.length≤20∧s.2.2.1.length≤20∧s.2.2.2.length≤20∧∀ t∈s.2.2.1,t.length≤20
 blocks:b.2.2.2.2.2.2.length≤8
 term:∀ x∈b.2.2.2.2.2.2,x.2.2.2.2.1.length≤20∧x.2.2.2.2.2.1.length≤20∧x.2.2.2.2.2.2.length≤20
 many:stm b.2.2.2.2.2.2≤24
theorem zX {α:Type} (f:α→Nat):∀ (l:List α) (x:α),x∈l→f x≤(l.map f).sum
 | [],x,h=>by cases h
 | y :: l,x,h=>by
   rcases List.mem_cons.1 h with rfl | h
   . simp
   . have:=zX f l x h; simp; omega
theorem ur {α:Type} (f:α→Nat) (l:List α) (k:Nat):((l.take k).map f).sum≤(l.map f).sum:=by
 have:l.map f=(l.take k).map f++(l.drop k).map f:=by rw [← List.map_append,List.take_append_drop]
 rw [this,List.sum_append]; omega
theorem Sm.stmts {b:Bo} (h:Sm b) {x:Blk} (hx:x∈b.2.2.2.2.2.2):x.1.length≤24:=by
 have:=zX (fun x:Blk=>x.1.length) _ x hx
 have:=h.many; unfold stm at this; omega
theorem pS {X:List Blk} {k:Nat} (hk:k < X.length):stm (X.take (k + 1))=stm (X.take k) + X[k].1.length:=by
 unfold stm; rw [aM hk,List.map_append,List.sum_append]; simp
theorem Gx {b:Bo} (h:Tp.Fit va b):∀ x∈b.2.2.2.2.2.2,x.1.length≤140737488351232:=by
 obtain ⟨_,_,_,_,_,_,_,h2⟩:=h
 exact fun x hx=>(h2 x hx).1.1
theorem Hg (b:Bo) (hb:∀ x∈b.2.2.2.2.2.2,x.1.length≤140737488351232):fv b=some false∨(fv b=some true∧Sm b):=by
 obtain ⟨u,n,B,L,R,S,X⟩:=b
 unfold fv
 dsimp only at *
 have e1:((((decide (20 < (((B.length:Nat):Int))))||(decide (10 < (((L.length:Nat):Int)))))||(decide (4 < (((S.length:Nat):Int)))))||(decide (8 < (((X.length:Nat):Int)))))=decide (20 < B.length∨10 < L.length∨4 < S.length∨8 < X.length):=by
   by_cases h1:20 < B.length <;> by_cases h2:10 < L.length <;> by_cases h3:4 < S.length <;> by_cases h4:8 < X.length <;> simp [h1,h2,h3,h4] <;> omega
 rw [e1]
 by_cases h0:20 < B.length∨10 < L.length∨4 < S.length∨8 < X.length
 . rw [decide_eq_true h0]; exact .inl rfl
 . rw [decide_eq_false h0,cond_false,vr]
   by_cases q:R.length≤20
   . have e:decide (((R.length:Nat):Int)≤20)=true:=by simp; omega
     simp only [Option.bind_some,e,Bool.not_true,cond_false]
     rw [Ck (body:=wJ (u,n,B,L,R,S,X)) (xa:=L) (by omega) (fun i=>rfl)]
     cases hf:L.any (fun t=>!decide (t.length≤20)) with
     | true=>exact .inl rfl
     | false =>
       simp only [Bool.false_eq_true,if_false,Option.bind_some]
       have hS:∃ t,loop (iS (u,n,B,L,R,S,X)) 0=some t∧(t = .inr false∨(t = .inl ()∧∀ s∈S,s.2.1.length≤20∧s.2.2.1.length≤20∧s.2.2.2.length≤20∧∀ t∈s.2.2.1,t.length≤20)):=by
         have hl:=g9 (body:=iS (u,n,B,L,R,S,X)) (fun k=>∃ h:k < S.length,fC S[k]=some false) (fun k:Nat=>(k:Int)) S.length (fun _ => .inr false) (.inl ()) ?_ ?_ ?_
         . rcases hl with ⟨k,_,_,_,h4⟩ | ⟨h1,h2⟩
           . exact ⟨_,h4,.inl rfl⟩
           . refine ⟨_,h2,.inr ⟨rfl,fun s hs=>?_⟩⟩
             obtain ⟨k,hk,rfl⟩:=List.getElem_of_mem hs
             rcases BP S[k] with h | ⟨h,f1,f2,f3,f4⟩
             . exact absurd ⟨hk,h⟩ (h1 k hk)
             . exact ⟨f1,f2,f3,f4⟩
         . intro k hk hp
           unfold iS
           rcases BP S[k] with h | ⟨h,_⟩
           . exact absurd ⟨hk,h⟩ hp
           . simp only [dlt hk,cond_true,ah hk,Option.bind_some,show fC (S[k].1,S[k].2.1,S[k].2.2.1,S[k].2.2.2)=_ from h,aj hk (by omega:S.length≤9223372036854775807)]
             rfl
         . rintro k hk ⟨_,hp⟩
           unfold iS
           simp only [dlt hk,cond_true,ah hk,Option.bind_some,show fC (S[k].1,S[k].2.1,S[k].2.2.1,S[k].2.2.2)=_ from hp]
           rfl
         . simp [iS]
       obtain ⟨t,ht,hS⟩:=hS
       rw [ht]
       rcases hS with rfl | ⟨rfl,hS⟩
       . exact .inl rfl
       . simp only [Option.bind_some]
         have hX:=g9 (body:=gM (u,n,B,L,R,S,X)) (fun k=>∃ h:k < X.length,(((decide (20 < ((((X[k]).2.2.2.2.1.length:Nat):Int))))||(decide (20 < ((((X[k]).2.2.2.2.2.1.length:Nat):Int)))))||(decide (20 < ((((X[k]).2.2.2.2.2.2.length:Nat):Int)))))=true) (fun k:Nat=>(((stm (X.take k):Nat):Int),(k:Int))) X.length (fun _ => .inr false) (.inl ((stm X:Nat):Int)) ?_ ?_ ?_
         . rcases hX with ⟨k,_,_,_,h4⟩ | ⟨h1,h2⟩
           . have h4':loop (gM (u,n,B,L,R,S,X)) (0,0)=some (.inr false):=by simpa [stm] using h4
             rw [h4']; exact .inl rfl
           . have h2':loop (gM (u,n,B,L,R,S,X)) (0,0)=some (.inl ((stm X:Nat):Int)):=by simpa [stm] using h2
             rw [h2']
             by_cases hm:stm X≤24
             . refine .inr ⟨by simp; omega,⟨by dsimp only; omega,by dsimp only; omega,zQ hf,q,by dsimp only; omega,hS,by dsimp only; omega,fun x hx=>?_,hm⟩⟩
               obtain ⟨k,hk,rfl⟩:=List.getElem_of_mem hx
               have hn:=h1 k hk
               dsimp only at hk hn
               have hn2:(((decide (20 < ((((X[k]).2.2.2.2.1.length:Nat):Int))))||(decide (20 < ((((X[k]).2.2.2.2.2.1.length:Nat):Int)))))||(decide (20 < ((((X[k]).2.2.2.2.2.2.length:Nat):Int)))))=false:=by
                 cases hc:(((decide (20 < ((((X[k]).2.2.2.2.1.length:Nat):Int))))||(decide (20 < ((((X[k]).2.2.2.2.2.1.length:Nat):Int)))))||(decide (20 < ((((X[k]).2.2.2.2.2.2.length:Nat):Int))))) with
                 | false=>rfl
                 | true=>exact absurd ⟨hk,hc⟩ hn
               simp at hn2
               dsimp only
               omega
             . refine .inl ?_
               simp; omega
         . intro k hk hp
           have hn2:(((decide (20 < ((((X[k]).2.2.2.2.1.length:Nat):Int))))||(decide (20 < ((((X[k]).2.2.2.2.2.1.length:Nat):Int)))))||(decide (20 < ((((X[k]).2.2.2.2.2.2.length:Nat):Int)))))=false:=by
             cases hc:(((decide (20 < ((((X[k]).2.2.2.2.1.length:Nat):Int))))||(decide (20 < ((((X[k]).2.2.2.2.2.1.length:Nat):Int)))))||(decide (20 < ((((X[k]).2.2.2.2.2.2.length:Nat):Int))))) with
             | false=>rfl
             | true=>exact absurd ⟨hk,hc⟩ hp
           have a1:=hb X[k] (List.getElem_mem hk)
           have a2:stm (X.take k)≤k * 140737488351232:=by
             unfold stm
             have:∀ q:List Blk,(∀ x∈q,x∈X)→(q.map (fun x=>x.1.length)).sum≤q.length * 140737488351232:=by
               intro q
               induction q with
               | nil=>intro _; simp
               | cons x q ih =>
                 intro hq
                 have:=ih (fun y hy=>hq y (by simp [hy]))
                 have:=hb x (hq x (by simp))
                 simp only [List.map_cons,List.sum_cons,List.length_cons,Nat.succ_mul]; omega
             have h3:=this (X.take k) (fun x hx=>List.mem_of_mem_take hx)
             rw [List.length_take,Nat.min_eq_left (by omega)] at h3
             exact h3
           have a3:k≤8:=by omega
           have a4:k * 140737488351232≤8 * 140737488351232:=Nat.mul_le_mul_right _ a3
           unfold gM
           simp only [dlt hk,cond_true,ah hk,Option.bind_some,hn2,cond_false,aj hk (by omega:X.length≤9223372036854775807)]
           rw [w64 (by omega) (by omega),pS hk]
           simp
         . rintro k hk ⟨_,hp⟩
           unfold gM
           simp only [dlt hk,cond_true,ah hk,Option.bind_some,hp]
         . unfold gM
           simp
   . have e:decide (((R.length:Nat):Int)≤20)=false:=by simp; omega
     simp only [Option.bind_some,e]; exact .inl rfl
section
abbrev Flt:=Int×Int×Int×Int
def sE (L:List (List St)) (R:Int) (x:Stm):Int:=((fu x L R).getD ([],0)).2
def tE (a:Ar) (x:Tm):Int:=((dq x a).getD ([],0)).2
def bG (b:Bo):Ar:=(((b.2.2.2.2.2.2.length:Nat):Int),b.2.1,b.2.2.2.1,b.2.2.2.2.1,b.2.2.2.2.2.1)
def ge (b:Bo):Flt:=if b.1 < 1∨b.2.1 < b.1 then (7,0,0,0) else if 65536 < b.2.1 then (6,0,0,0) else (0,0,0,0)
def ip (b:Bo):Flt:=match b.2.2.1.findIdx? (bI b.1) with | some k=>(7,1,(k:Int),0) | none=>(0,0,0,0)
def dL (b:Bo):Flt:=if b.2.2.2.1=[] then (14,2,0,0) else match b.2.2.2.1.findIdx? (fun t=>!decide (rck b.2.1 t=0)) with | some k=>(rck b.2.1 (b.2.2.2.1.getD k []),2,(k:Int),0) | none=>(0,0,0,0)
def gx (b:Bo):Flt:=if rck b.1 b.2.2.2.2.1=0 then if shp b.2.2.2.2.1 (b.2.2.2.1.getD 0 []) then (0,3,0,0) else (8,3,0,0) else (rck b.1 b.2.2.2.2.1,3,0,0)
def iJ (b:Bo):Flt:=match b.2.2.2.2.2.1.findIdx? (fun s=>!decide (chk s=0)) with | some k=>(chk (b.2.2.2.2.2.1.getD k (0,[],[],[])),4,(k:Int),0) | none=>(0,0,0,0)
def iK (b:Bo):Flt:=if b.2.2.2.2.2.2=[] then (14,5,0,0) else (0,0,0,0)
def bH (b:Bo) (x:Blk):Option (Int×Int×Int) :=
 match x.1.findIdx? (fun s=>!decide (sE b.2.2.2.1 b.2.1 s=0)) with
 | some j=>some (sE b.2.2.2.1 b.2.1 (x.1.getD j (0,0,0,0,false)),6,(j:Int))
 | none=>if tE (bG b) x.2=0 then none else some (tE (bG b) x.2,7,0)
def dD (k:Nat) (o:Option (Int×Int×Int)):Flt:=match o with | some (e,p,j)=>(e,p,(k:Int),j) | none=>(0,0,0,0)
def cd (b:Bo):Flt:=match b.2.2.2.2.2.2.findIdx? (fun x=>(bH b x).isSome) with | some k=>dD k (bH b (b.2.2.2.2.2.2.getD k ([],0,0,0,[],[],[]))) | none=>(0,0,0,0)
def or0 (a b:Flt):Flt:=if a.1=0 then b else a
def vck (b:Bo):Flt:=or0 (ge b) (or0 (ip b) (or0 (dL b) (or0 (gx b) (or0 (iJ b) (or0 (iK b) (cd b))))))
theorem xu {t:List St} (n:Int) (h:t.length≤20):fB t n=some (rck n t):=tC t n (by omega)
section
variable {b:Bo} (h:Sm b)
include h
theorem BD {x:Stm}:∃ l,jf x b.2.2.2.1 b.2.1=some (l,sE b.2.2.2.1 b.2.1 x)∧fu x b.2.2.2.1 b.2.1=some (l,sE b.2.2.2.1 b.2.1 x):=by
 obtain ⟨l,e,h1,h2,_⟩:=DM x b.2.2.2.1 b.2.1 h.loc
 have:sE b.2.2.2.1 b.2.1 x=e:=by unfold sE; rw [h2]; rfl
 exact ⟨l,by rw [h1,this],by rw [h2,this]⟩
theorem Bt {x:Blk} (hx:x∈b.2.2.2.2.2.2):∃ l,jg x.2 (bG b)=some (l,tE (bG b) x.2)∧dq x.2 (bG b)=some (l,tE (bG b) x.2):=by
 obtain ⟨a1,a2,a3⟩:=h.term x hx
 obtain ⟨l,e,h1,h2,_⟩:=Hm x.2 (bG b) a1 a2 a3 h.ret h.loc h.sig
 have:tE (bG b) x.2=e:=by unfold tE; rw [h2]; rfl
 exact ⟨l,by rw [h1,this],by rw [h2,this]⟩
theorem sgl {s:Sg} (hs:s∈b.2.2.2.2.2.1):fy s=some (chk s):=by
 obtain ⟨a1,a2,a3,a4⟩:=h.sig s hs
 exact w9 s (by omega) (fun t ht=>by have:=a4 t ht; omega)
theorem Ex:ma b=some (or0 (ge b) (ip b)):=by
 have h1:=h.bounds
 obtain ⟨u,n,B,L,R,S,X⟩:=b
 unfold ma ge ip or0
 dsimp only at *
 by_cases q:u < 1∨n < u
 . have:(decide (u < 1)||decide (n < u))=true:=by simpa using q
   rw [this,if_pos q]; rfl
 . have:(decide (u < 1)||decide (n < u))=false:=by simpa using q
   rw [this,if_neg q,cond_false]
   by_cases q2:65536 < n
   . rw [decide_eq_true q2,if_pos q2]; rfl
   . rw [decide_eq_false q2,if_neg q2,cond_false,decide_eq_false (by omega),cond_false,b9 (body:=oI (u,n,B,L,R,S,X)) B (bI u) (fun k=>(.inr (7,1,(k:Int),0):Unit⊕Flt)) (.inl ()) ?_ ?_]
     . cases B.findIdx? (bI u) <;> rfl
     . intro k hk
       unfold oI
       simp only [dlt hk,cond_true,ah hk,Option.bind_some,aj hk (by omega:B.length≤9223372036854775807)]
       show cond (bI u B[k]) _ _=_
       cases bI u B[k] <;> rfl
     . simp [oI]
theorem Dx:lQ b=some (or0 (dL b) (or0 (gx b) (iJ b))):=by
 have h1:=h.locals
 have h2:=h.sigs
 have h3:=h.ret
 have h4:=h.loc
 obtain ⟨u,n,B,L,R,S,X⟩:=b
 unfold lQ dL gx iJ
 dsimp only at *
 by_cases q:L=[]
 . subst q; rfl
 . have q' : ¬ ((L.length : Nat) : Int) = 0 := fun hc => q (List.length_eq_zero_iff.1 (by omega))
   rw [if_neg q,decide_eq_false q',cond_false,decide_eq_false (by omega),cond_false,b9 (body:=oy (u,n,B,L,R,S,X)) L (fun t=>!decide (rck n t=0)) (fun k=>(.inr (rck n (L.getD k []),2,(k:Int),0):Unit⊕Flt)) (.inl ()) ?_ ?_]
   . cases hf:L.findIdx? (fun t=>!decide (rck n t=0)) with
     | some k =>
       obtain ⟨hk,h5,_⟩:=List.findIdx?_eq_some_iff_getElem.1 hf
       have e:L.getD k []=L[k]:=by simp [List.getD,hk]
       have:¬ rck n L[k]=0:=by simpa using h5
       simp only [or0,e,if_neg this]; rfl
     | none =>
       have hp:0 < L.length:=List.length_pos_iff.2 q
       have e0:L.getD 0 []=L[0]:=by simp [List.getD,hp]
       simp only [Option.bind_some,pn]
       by_cases q2:rck u R=0
       . have g0:aa L 0=some L[0]:=ah (k:=0) hp
         simp only [q2,decide_true,Bool.not_true,cond_false,g0,Option.bind_some,e0]
         rw [ph _ _ (by have:=h4 L[0] (List.getElem_mem hp); omega),ij,Option.bind_some]
         cases hs:shp R L[0] with
         | false=>rfl
         | true =>
           simp only [Bool.not_true,cond_false]
           rw [decide_eq_false (by omega),cond_false,b9 (body:=oC (u,n,B,L,R,S,X)) S (fun s=>!decide (chk s=0)) (fun k=>(.inr (chk (S.getD k (0,[],[],[])),4,(k:Int),0):Unit⊕Flt)) (.inl ()) ?_ ?_]
           . cases S.findIdx? (fun s=>!decide (chk s=0)) <;> rfl
           . intro k hk
             unfold oC
             have e:S.getD k (0,[],[],[])=S[k]:=by simp [List.getD,hk]
             simp only [dlt hk,cond_true,ah hk,Option.bind_some,aj hk (by omega:S.length≤9223372036854775807),e,show gO (S[k].1,S[k].2.1,S[k].2.2.1,S[k].2.2.2)=_ from w6 S[k]]
             cases (!decide (chk S[k]=0)) <;> rfl
           . simp [oC]
       . simp [q2,or0]
   . intro k hk
     unfold oy
     have e:L.getD k []=L[k]:=by simp [List.getD,hk]
     simp only [dlt hk,cond_true,ah hk,Option.bind_some,aj hk (by omega:L.length≤9223372036854775807),e,pn]
     cases (!decide (rck n L[k]=0)) <;> rfl
   . simp [oy]
theorem Dg:lI b=some (or0 (iK b) (cd b)):=by
 have h1:=h.blocks
 have h2:=h.many
 have hst:=fun x (hx:x∈b.2.2.2.2.2.2)=>h.stmts hx
 have hT:=fun x (hx:x∈b.2.2.2.2.2.2)=>Bt h hx
 have hS:=fun x=>BD h (x:=x)
 unfold lI iK cd
 by_cases q:b.2.2.2.2.2.2=[]
 . rw [if_pos q,q]; rfl
 . have q' : ¬ ((b.2.2.2.2.2.2.length : Nat) : Int) = 0 := fun hc => q (List.length_eq_zero_iff.1 (by omega))
   rw [if_neg q,decide_eq_false q',cond_false,decide_eq_false (by omega),cond_false]
   have hl1:=aF (body:=kS b) (fun k:Nat=>(((stm (b.2.2.2.2.2.2.take k):Nat):Int),(k:Int))) b.2.2.2.2.2.2.length (b := .inl ()) ?_ ?_
   . have hl1':loop (kS b) (0,0)=some (.inl ()):=by simpa [stm] using hl1
     rw [hl1',Option.bind_some]
     dsimp only
     rw [b9 (body:=oh b) b.2.2.2.2.2.2 (fun x=>(bH b x).isSome) (fun k=>(.inr (dD k (bH b (b.2.2.2.2.2.2.getD k ([],0,0,0,[],[],[])))):Unit⊕Flt)) (.inl ()) ?_ ?_]
     . cases b.2.2.2.2.2.2.findIdx? (fun x=>(bH b x).isSome) <;> rfl
     . intro k hk
       unfold oh
       have e:b.2.2.2.2.2.2.getD k ([],0,0,0,[],[],[])=b.2.2.2.2.2.2[k]:=by simp [List.getD,hk]
       obtain ⟨l,_,hT'⟩:=hT _ (List.getElem_mem hk)
       have hst':=hst _ (List.getElem_mem hk)
       simp only [dlt hk,cond_true,ah hk,Option.bind_some,aj hk (by omega:b.2.2.2.2.2.2.length≤9223372036854775807),e]
       generalize b.2.2.2.2.2.2[k]=x at *
       rw [b9 (body:=ol b k x) x.1 (fun s=>!decide (sE b.2.2.2.1 b.2.1 s=0)) (fun j=>(.inr (.inr (.inr (sE b.2.2.2.1 b.2.1 (x.1.getD j (0,0,0,0,false)),6,(k:Int),(j:Int)))):Unit⊕(Int⊕(Unit⊕Flt)))) (.inl ()) ?_ ?_]
       . unfold bH
         cases hf:x.1.findIdx? (fun s=>!decide (sE b.2.2.2.1 b.2.1 s=0)) with
         | some j=>rfl
         | none =>
           simp only [Option.bind_some]
           rw [show dq (x.2.1,x.2.2.1,x.2.2.2.1,x.2.2.2.2.1,x.2.2.2.2.2.1,x.2.2.2.2.2.2) (((b.2.2.2.2.2.2.length:Nat):Int),b.2.1,b.2.2.2.1,b.2.2.2.2.1,b.2.2.2.2.2.1)=_ from hT',Option.bind_some]
           by_cases q3:tE (bG b) x.2=0
           . simp [q3]
           . simp [q3,dD]
       . intro j hj
         obtain ⟨l,_,hS'⟩:=hS x.1[j]
         have e2:x.1.getD j (0,0,0,0,false)=x.1[j]:=by simp [List.getD,hj]
         unfold ol
         simp only [dlt hj,cond_true,ah hj,Option.bind_some,aj hj (by omega:x.1.length≤9223372036854775807),e2,show fu (x.1[j].1,x.1[j].2.1,x.1[j].2.2.1,x.1[j].2.2.2.1,x.1[j].2.2.2.2) b.2.2.2.1 b.2.1=_ from hS']
         cases (!decide (sE b.2.2.2.1 b.2.1 x.1[j]=0)) <;> rfl
       . simp [ol]
     . simp [oh]
   . intro k hk
     have a1:=pS hk
     have a2:=ur (fun x:Blk=>x.1.length) b.2.2.2.2.2.2 (k + 1)
     have a3:stm (b.2.2.2.2.2.2.take (k + 1))≤stm b.2.2.2.2.2.2:=a2
     unfold kS
     simp only [dlt hk,cond_true,ah hk,Option.bind_some,aj hk (by omega:b.2.2.2.2.2.2.length≤9223372036854775807)]
     rw [w64 (by omega) (by omega),decide_eq_false (by omega),cond_false,a1]
     simp
   . unfold kS
     simp
theorem DP:lV b=some (vck b):=by
 unfold lV vck
 rw [show ma b=_ from Ex h,show lQ b=_ from Dx h,show lI b=_ from Dg h]
 generalize ge b=v1
 generalize ip b=v2
 generalize dL b=v3
 generalize gx b=v4
 generalize iJ b=v5
 generalize or0 (iK b) (cd b)=v6
 simp only [Option.bind_some]
 have key:∀ a c:Flt,(cond (!decide ((or0 a c).1=0)) (some ((or0 a c).1,(or0 a c).2.1,(or0 a c).2.2.1,(or0 a c).2.2.2)) none:Option Flt)=(cond (!decide ((or0 a c).1=0)) (some (or0 a c)) none):=fun a c=>rfl
 unfold or0
 by_cases q1:v1.1=0 <;> by_cases q2:v2.1=0 <;> by_cases q3:v3.1=0 <;> by_cases q4:v4.1=0 <;> by_cases q5:v5.1=0 <;> simp [q1,q2,q3,q4,q5]
end
end
section
theorem Ew {b:Bo}:(cd b).1=0→cd b=(0,0,0,0):=by
 unfold cd
 cases hf:b.2.2.2.2.2.2.findIdx? (fun x=>(bH b x).isSome) with
 | none=>intro _; rfl
 | some k =>
   obtain ⟨hk,h5,_⟩:=List.findIdx?_eq_some_iff_getElem.1 hf
   have e:b.2.2.2.2.2.2.getD k ([],0,0,0,[],[],[])=b.2.2.2.2.2.2[k]:=by simp [List.getD,hk]
   simp only [e]
   intro hz
   exfalso
   generalize b.2.2.2.2.2.2[k]=x at *
   unfold bH at hz h5
   cases hg:x.1.findIdx? (fun s=>!decide (sE b.2.2.2.1 b.2.1 s=0)) with
   | some j =>
     obtain ⟨hj,h6,_⟩:=List.findIdx?_eq_some_iff_getElem.1 hg
     have e2:x.1.getD j (0,0,0,0,false)=x.1[j]:=by simp [List.getD,hj]
     rw [hg] at hz
     simp only [dD,e2] at hz
     simp [hz] at h6
   | none =>
     rw [hg] at hz h5
     by_cases q:tE (bG b) x.2=0
     . simp [q] at h5
     . simp [q,dD] at hz
section
variable {b:Bo} (h:Sm b)
include h
theorem Eo:kY b=some (ip b):=by
 have h1:=h.bounds
 unfold kY ip
 rw [decide_eq_false (by omega),cond_false,b9 (body:=nX b) b.2.2.1 (bI b.1) (fun k=>(.inr (7,1,(k:Int),0):Unit⊕Flt)) (.inl ()) ?_ ?_]
 . cases b.2.2.1.findIdx? (bI b.1) <;> rfl
 . intro k hk
   unfold nX nO br
   simp only [dlt hk,cond_true,ah hk,Option.bind_some,aj hk (by omega:b.2.2.1.length≤9223372036854775807)]
   generalize b.2.2.1[k]=x
   obtain ⟨x1,x2⟩:=x
   have e (x:Int):(!((decide (0≤x))&&(decide (x < b.1))))=(decide (x < 0)||decide (b.1≤x)):=by
     by_cases p:x < 0 <;> by_cases q:b.1≤x <;> simp [p,q] <;> omega
   simp only [e,bI]
   by_cases p1:x1 < 0 <;> by_cases p2:b.1≤x1 <;> by_cases p3:x2 < 0 <;> by_cases p4:b.1≤x2 <;> simp [p1,p2,p3,p4]
 . simp [nX]
theorem Ht:kW b=some (dL b):=by
 have h1:=h.locals
 have h4:=h.loc
 unfold kW dL
 by_cases q:b.2.2.2.1=[]
 . rw [if_pos q,q]; rfl
 . have q':¬ ((b.2.2.2.1.length:Nat):Int)=0:=fun hc=>q (List.length_eq_zero_iff.1 (by omega))
   rw [if_neg q,decide_eq_false q',cond_false,decide_eq_false (by omega),cond_false,b9 (body:=nY b) b.2.2.2.1 (fun t=>!decide (rck b.2.1 t=0)) (fun k=>(.inr (rck b.2.1 (b.2.2.2.1.getD k []),2,(k:Int),0):Unit⊕Flt)) (.inl ()) ?_ ?_]
   . cases b.2.2.2.1.findIdx? (fun t=>!decide (rck b.2.1 t=0)) <;> rfl
   . intro k hk
     unfold nY br
     have e:b.2.2.2.1.getD k []=b.2.2.2.1[k]:=by simp [List.getD,hk]
     simp only [dlt hk,cond_true,ah hk,Option.bind_some,aj hk (by omega:b.2.2.2.1.length≤9223372036854775807),e,xu _ (h4 _ (List.getElem_mem hk))]
     cases (!decide (rck b.2.1 b.2.2.2.1[k]=0)) <;> rfl
   . simp [nY]
theorem G7 (hL:b.2.2.2.1≠[]):lJ b=some (gx b):=by
 have h3:=h.ret
 unfold lJ gx
 have hp:0 < b.2.2.2.1.length:=List.length_pos_iff.2 hL
 have e0:b.2.2.2.1.getD 0 []=b.2.2.2.1[0]:=by simp [List.getD,hp]
 have g0:aa b.2.2.2.1 0=some b.2.2.2.1[0]:=ah (k:=0) hp
 rw [xu _ h3,Option.bind_some,g0,Option.bind_some,jo _ _ (by omega),e0,Option.bind_some]
 by_cases q:rck b.1 b.2.2.2.2.1=0
 . rw [if_pos q,q]
   cases shp b.2.2.2.2.1 b.2.2.2.1[0] <;> rfl
 . rw [if_neg q,decide_eq_false q]; rfl
theorem Hb:ly b=some (iJ b):=by
 have h1:=h.sigs
 have hs:=fun s (hs:s∈b.2.2.2.2.2.1)=>sgl h hs
 unfold ly iJ
 rw [decide_eq_false (by omega),cond_false,b9 (body:=n8 b) b.2.2.2.2.2.1 (fun s=>!decide (chk s=0)) (fun k=>(.inr (chk (b.2.2.2.2.2.1.getD k (0,[],[],[])),4,(k:Int),0):Unit⊕Flt)) (.inl ()) ?_ ?_]
 . cases b.2.2.2.2.2.1.findIdx? (fun s=>!decide (chk s=0)) <;> rfl
 . intro k hk
   unfold n8 br
   have e:b.2.2.2.2.2.1.getD k (0,[],[],[])=b.2.2.2.2.2.1[k]:=by simp [List.getD,hk]
   have hs':=hs _ (List.getElem_mem hk)
   simp only [dlt hk,cond_true,ah hk,Option.bind_some,aj hk (by omega:b.2.2.2.2.2.1.length≤9223372036854775807),e,show fy (b.2.2.2.2.2.1[k].1,b.2.2.2.2.2.1[k].2.1,b.2.2.2.2.2.1[k].2.2.1,b.2.2.2.2.2.1[k].2.2.2)=_ from hs']
   cases (!decide (chk b.2.2.2.2.2.1[k]=0)) <;> rfl
 . simp [n8]
theorem Ho:kT b=some (iK b):=by
 have h1:=h.blocks
 have h2:=h.many
 unfold kT iK
 by_cases q:b.2.2.2.2.2.2=[]
 . rw [if_pos q,q]; rfl
 . have q':¬ ((b.2.2.2.2.2.2.length:Nat):Int)=0:=fun hc=>q (List.length_eq_zero_iff.1 (by omega))
   rw [if_neg q,decide_eq_false q',cond_false,decide_eq_false (by omega),cond_false]
   have hl1:=aF (body:=kN b) (fun k:Nat=>(((stm (b.2.2.2.2.2.2.take k):Nat):Int),(k:Int))) b.2.2.2.2.2.2.length (b := .inl ()) ?_ ?_
   . have hl1':loop (kN b) (0,0)=some (.inl ()):=by simpa [stm] using hl1
     rw [hl1']; rfl
   . intro k hk
     have a1:=pS hk
     have a2:=ur (fun x:Blk=>x.1.length) b.2.2.2.2.2.2 (k + 1)
     have a3:stm (b.2.2.2.2.2.2.take (k + 1))≤stm b.2.2.2.2.2.2:=a2
     unfold kN br
     simp only [dlt hk,cond_true,ah hk,Option.bind_some,aj hk (by omega:b.2.2.2.2.2.2.length≤9223372036854775807)]
     rw [w64 (by omega) (by omega),decide_eq_false (by omega),cond_false,a1]
     simp
   . unfold kN
     simp
theorem FO:lu b=some (cd b):=by
 have h1:=h.blocks
 have hst:=fun x (hx:x∈b.2.2.2.2.2.2)=>h.stmts hx
 have hT:=fun x (hx:x∈b.2.2.2.2.2.2)=>Bt h hx
 have hS:=fun x=>BD h (x:=x)
 unfold lu cd
 rw [b9 (body:=n7 b) b.2.2.2.2.2.2 (fun x=>(bH b x).isSome) (fun k=>(.inr (dD k (bH b (b.2.2.2.2.2.2.getD k ([],0,0,0,[],[],[])))):Unit⊕Flt)) (.inl ()) ?_ ?_]
 . cases b.2.2.2.2.2.2.findIdx? (fun x=>(bH b x).isSome) <;> rfl
 . intro k hk
   unfold n7
   have e:b.2.2.2.2.2.2.getD k ([],0,0,0,[],[],[])=b.2.2.2.2.2.2[k]:=by simp [List.getD,hk]
   obtain ⟨l,hT',_⟩:=hT _ (List.getElem_mem hk)
   have hst':=hst _ (List.getElem_mem hk)
   simp only [dlt hk,cond_true,ah hk,Option.bind_some,aj hk (by omega:b.2.2.2.2.2.2.length≤9223372036854775807),e]
   generalize b.2.2.2.2.2.2[k]=x at *
   rw [b9 (body:=oc b k x) x.1 (fun s=>!decide (sE b.2.2.2.1 b.2.1 s=0)) (fun j=>(.inr (.inr (.inr (sE b.2.2.2.1 b.2.1 (x.1.getD j (0,0,0,0,false)),6,(k:Int),(j:Int)))):Unit⊕(Int⊕(Unit⊕Flt)))) (.inl ()) ?_ ?_]
   . unfold bH
     cases hf:x.1.findIdx? (fun s=>!decide (sE b.2.2.2.1 b.2.1 s=0)) with
     | some j=>rfl
     | none =>
       simp only [Option.bind_some]
       unfold br sX
       rw [Option.bind_some,show jg (x.2.1,x.2.2.1,x.2.2.2.1,x.2.2.2.2.1,x.2.2.2.2.2.1,x.2.2.2.2.2.2) (((b.2.2.2.2.2.2.length:Nat):Int),b.2.1,b.2.2.2.1,b.2.2.2.2.1,b.2.2.2.2.2.1)=_ from hT',Option.bind_some]
       by_cases q3:tE (bG b) x.2=0
       . simp [q3]
       . simp [q3,dD]
   . intro j hj
     obtain ⟨l,hS',_⟩:=hS x.1[j]
     have e2:x.1.getD j (0,0,0,0,false)=x.1[j]:=by simp [List.getD,hj]
     unfold oc br sY
     simp only [dlt hj,cond_true,ah hj,Option.bind_some,aj hj (by omega:x.1.length≤9223372036854775807),e2,show jf (x.1[j].1,x.1[j].2.1,x.1[j].2.2.1,x.1[j].2.2.2.1,x.1[j].2.2.2.2) b.2.2.2.1 b.2.1=_ from hS']
     cases (!decide (sE b.2.2.2.1 b.2.1 x.1[j]=0)) <;> rfl
   . simp [oc]
 . simp [n7]
theorem Dv:lh b=some (vck b):=by
 unfold lh vck br
 have hh:lz b=some (ge b):=by
   unfold lz ge
   by_cases q:b.1 < 1∨b.2.1 < b.1
   . have:(decide (b.1 < 1)||decide (b.2.1 < b.1))=true:=by simpa using q
     rw [this,if_pos q]; rfl
   . have:(decide (b.1 < 1)||decide (b.2.1 < b.1))=false:=by simpa using q
     rw [this,if_neg q,cond_false]
     by_cases q2:65536 < b.2.1
     . rw [decide_eq_true q2,if_pos q2]; rfl
     . rw [decide_eq_false q2,if_neg q2]; rfl
 rw [Option.bind_some,show lz b=_ from hh,show kY b=_ from Eo h,show kW b=_ from Ht h,
   show ly b=_ from Hb h,show kT b=_ from Ho h,show lu b=_ from FO h]
 have hret:(dL b).1=0→lJ b=some (gx b):=by
   intro hz
   refine G7 h (fun hc=>?_)
   unfold dL at hz
   rw [if_pos hc] at hz; cases hz
 have hz6:(cd b).1=0→cd b=(0,0,0,0):=Ew
 generalize ge b=v1
 generalize ip b=v2
 generalize dL b=v3 at *
 generalize gx b=v4 at *
 generalize iJ b=v5
 generalize iK b=v6
 generalize cd b=v7 at *
 unfold or0
 by_cases q1:v1.1=0 <;> by_cases q2:v2.1=0 <;> by_cases q3:v3.1=0 <;> by_cases q4:v4.1=0 <;> by_cases q5:v5.1=0 <;> by_cases q6:v6.1=0 <;> by_cases q7:v7.1=0 <;> simp_all
end
end
theorem IX {a:Ar} {t:List St} {L:List (List St)} (h:a.2.2.1=t :: L) (hs:shp t a.2.2.2.1=true) (ht:t.length≤20):tE a (3,0,0,[],[],[])=0:=by
 unfold tE
 have:∃ l,dq (3,0,0,[],[],[]) a=some (l,0):=by
   unfold dq
   rw [show fw ((3:Int),0,0,[],[],[])=_ from pi (3,0,0,[],[],[])]
   simp only [dx _ _ (show ([]:List Int).length≤1000 by simp)]
   have h0:aa a.2.2.1 0=some t:=by rw [h]; rfl
   have h1:¬ ((a.2.2.1.length:Nat):Int)=0:=by rw [h]; simp; omega
   have h2:¬ a.2.2.1=[]:=by rw [h]; simp
   rw [h0]
   simp only [Option.bind_some]
   rw [jr t a.2.2.2.1 7 0 (by omega) (by decide) (by decide),hs]
   refine ⟨rel 7 0 t a.2.2.2.1,?_⟩
   have e1:cb (3,0,0,[],[],[])=0:=by decide
   have e2:∀ n,bad n []=false:=fun n=>rfl
   simp [e1,e2,h1,h2]
 obtain ⟨l,hl⟩:=this
 rw [hl]; rfl
def bg (X:List Blk) (k:Nat):Nat:=stm (X.take k) + k
theorem cq {X:List Blk} {k:Nat} (hk:k < X.length):bg X (k + 1)=bg X k + X[k].1.length + 1:=by
 unfold bg; rw [pS hk]; omega
theorem dB (X:List Blk) {i j:Nat} (h:i≤j) (hj:j≤X.length):bg X i≤bg X j:=by
 induction j with
 | zero => have : i = 0 := by omega
           subst this; exact Nat.le_refl _
 | succ j ih =>
   by_cases q:i=j + 1
   . subst q; exact Nat.le_refl _
   . have:=ih (by omega) (by omega)
     rw [cq (by omega)]; omega
theorem Nn (X:List Blk) {i j:Nat} (h:i < j) (hj:j≤X.length):bg X i < bg X j:=by
 have h1:=dB X (i:=i + 1) (j:=j) h hj
 have h2:=cq (X:=X) (k:=i) (by omega)
 omega
def bgs (X:List Blk):List Int:=(List.range X.length).map fun k=>((bg X k:Nat):Int)
theorem qd (X:List Blk):(bgs X).length=X.length:=by simp [bgs]
theorem pX (X:List Blk) {k:Nat} (hk:k < X.length):aa (bgs X) (k:Int)=some ((bg X k:Nat):Int):=by
 rw [ah (by rw [qd]; exact hk)]; simp [bgs]
def nC (i n:Nat):List (Int×Int×Bool):=(List.range (n + 1)).map fun (k:Nat)=>((i:Int),(k:Int),decide (k=n))
def cZ (X:List Blk):Nat→List (Int×Int×Bool)
 | 0=>[]
 | i + 1=>cZ X i++nC i (X.getD i ([],0,0,0,[],[],[])).1.length
theorem d6 {α:Type} {l:List α} {k:Nat} {d:α} (hk:k < l.length):l.getD k d=l[k]:=by simp [List.getD,hk]
theorem pL (X:List Blk):∀ i,i≤X.length→(cZ X i).length=bg X i
 | 0,_=>by simp [cZ,bg,stm]
 | i + 1,h=>by
   have ih:=pL X i (by omega)
   rw [cq (by omega)]
   simp only [cZ,List.length_append,ih,nC,List.length_map,List.length_range,d6 (show i < X.length by omega)]; omega
theorem zd (X:List Blk):∀ i,i≤X.length→∀ j k,j < i→(hj:j < X.length)→k≤X[j].1.length→(cZ X i)[bg X j + k]? = some ((j:Int),(k:Int),decide (k=X[j].1.length))
 | 0,_,j,k,h,_,_=>by omega
 | i + 1,h,j,k,hji,hj,hk=>by
   have hl:=pL X i (by omega)
   unfold cZ
   by_cases q:j=i
   . subst q
     rw [List.getElem?_append_right (by omega),hl,Nat.add_sub_cancel_left,d6 hj]
     unfold nC
     rw [List.getElem?_map,List.getElem?_range (by omega)]; rfl
   . have h1:=dB X (i:=j + 1) (j:=i) (by omega) (by omega)
     rw [cq hj] at h1
     rw [List.getElem?_append_left (by omega)]
     exact zd X i (by omega) j k (by omega) hj hk
abbrev au (X:List Blk):List (Int×Int×Bool):=cZ X X.length
theorem ii (X:List Blk):(au X).length=bg X X.length:=pL X _ (Nat.le_refl _)
theorem mH (X:List Blk) {j k:Nat} (hj:j < X.length) (hk:k≤X[j].1.length):(au X)[bg X j + k]? = some ((j:Int),(k:Int),decide (k=X[j].1.length)):=zd X _ (Nat.le_refl _) j k hj hj hk
theorem m6 (X:List Blk):∀ i,i≤X.length→∀ n,n < bg X i→∃ j k,∃ hj:j < X.length,k≤X[j].1.length∧n=bg X j + k∧j < i
 | 0,_,n,h=>by simp [bg,stm] at h
 | i + 1,h,n,hn=>by
   rw [cq (show i < X.length by omega)] at hn
   by_cases q:n < bg X i
   . obtain ⟨j,k,hj,h1,h2,h3⟩:=m6 X i (by omega) n q
     exact ⟨j,k,hj,h1,h2,by omega⟩
   . exact ⟨i,n - bg X i,by omega,by omega,by omega,by omega⟩
theorem mF {b:Bo} (h:Sm b) {k:Nat} (hk:k≤b.2.2.2.2.2.2.length):bg b.2.2.2.2.2.2 k≤32:=by
 have a2:=ur (fun x:Blk=>x.1.length) b.2.2.2.2.2.2 k
 have a3:stm (b.2.2.2.2.2.2.take k)≤stm b.2.2.2.2.2.2:=a2
 have:=h.many
 have:=h.blocks
 unfold bg; omega
def xs (b:Bo):List Blk:=if (vck b).1=0 then b.2.2.2.2.2.2 else []
theorem dY {b:Bo} (h:Sm b) {k:Nat} (hk:k≤(xs b).length):bg (xs b) k≤32∧(xs b).length≤8:=by
 unfold xs at *
 split
 . rename_i q; rw [if_pos q] at hk; exact ⟨mF h hk,h.blocks⟩
 . rename_i q; rw [if_neg q] at hk
   obtain rfl:k=0:=by simpa using hk
   simp [bg,stm]
theorem tG {b:Bo} (h:Sm b):dw b=some (some (bgs (xs b),((bg (xs b) (xs b).length:Nat):Int))):=by
 unfold dw th
 rw [show lh b=_ from Dv h]
 simp only [Option.bind_some]
 unfold xs
 by_cases q:(vck b).1=0
 . have h1:=h.blocks
   rw [decide_eq_true q,Bool.not_true,cond_false,if_pos q]
   have hl:=aF (body:=lH b) (fun k:Nat=>((k:Int),(List.range k).map (fun i=>((bg b.2.2.2.2.2.2 i:Nat):Int)),((bg b.2.2.2.2.2.2 k:Nat):Int))) b.2.2.2.2.2.2.length (b:=(bgs b.2.2.2.2.2.2,((bg b.2.2.2.2.2.2 b.2.2.2.2.2.2.length:Nat):Int))) ?_ ?_
   . have hl':loop (lH b) (0,[],0)=some (bgs b.2.2.2.2.2.2,((bg b.2.2.2.2.2.2 b.2.2.2.2.2.2.length:Nat):Int)):=by simpa [bg,stm] using hl
     rw [hl']; rfl
   . intro k hk
     have a1:=mF h (k:=k) (by omega)
     have a2:=mF h (k:=k + 1) (by omega)
     have a3:=cq hk
     unfold lH
     simp only [dlt hk,cond_true,ah hk,Option.bind_some]
     rw [aH (by simp; omega),Option.bind_some,aj hk (by omega),w64 (x:=((b.2.2.2.2.2.2[k].1.length:Nat):Int) + 1) (by omega) (by omega),w64 (by omega) (by omega),a3,List.range_succ,List.map_append]
     simp only [Option.some.injEq,Sum.inl.injEq,Prod.mk.injEq,true_and,List.map_cons,List.map_nil]
     omega
   . unfold lH
     simp [bgs]
 . rw [decide_eq_false q,if_neg q]; rfl
theorem mA {b:Bo} (h:Sm b):dd b=some (au (xs b)):=by
 unfold dd tj
 rw [show lV b=_ from DP h]
 simp only [Option.bind_some]
 unfold xs
 by_cases q:(vck b).1=0
 . have h1:=h.blocks
   rw [decide_eq_true q,Bool.not_true,cond_false,if_pos q]
   have hl:=aF (body:=lG b) (fun k:Nat=>(cZ b.2.2.2.2.2.2 k,(k:Int))) b.2.2.2.2.2.2.length (b:=au b.2.2.2.2.2.2) ?_ ?_
   . rw [show loop (lG b) ([],0)=_ from hl]; rfl
   . intro k hk
     have a1:=mF h (k:=k) (by omega)
     have a2:=mF h (k:=k + 1) (by omega)
     have a3:=cq hk
     have a4:=pL b.2.2.2.2.2.2 k (by omega)
     unfold lG
     simp only [dlt hk,cond_true,ah hk,Option.bind_some]
     have hin:=aF (body:=lF (k:Int) b.2.2.2.2.2.2[k]) (fun j:Nat=>(cZ b.2.2.2.2.2.2 k++(List.range j).map (fun (i:Nat)=>((k:Int),(i:Int),decide (i=b.2.2.2.2.2.2[k].1.length))),(j:Int))) (b.2.2.2.2.2.2[k].1.length + 1) (b:=cZ b.2.2.2.2.2.2 k++nC k b.2.2.2.2.2.2[k].1.length) ?_ ?_
     . have hin':loop (lF (k:Int) b.2.2.2.2.2.2[k]) (cZ b.2.2.2.2.2.2 k,0)=some (cZ b.2.2.2.2.2.2 k++nC k b.2.2.2.2.2.2[k].1.length):=by simpa using hin
       rw [hin',Option.bind_some,aj hk (by omega)]
       simp only [cZ,d6 hk]
     . intro j hj
       unfold lF
       dsimp only
       rw [decide_eq_true (by omega),cond_true,aH (by simp; omega),Option.bind_some,w64 (by omega) (by omega),List.range_succ,List.map_append]
       have e:decide ((j:Int)=((b.2.2.2.2.2.2[k].1.length:Nat):Int))=decide (j=b.2.2.2.2.2.2[k].1.length):=by
         by_cases c:j=b.2.2.2.2.2.2[k].1.length <;> simp [c] <;> omega
       rw [e]
       simp
     . unfold lF
       dsimp only
       rw [decide_eq_false (by omega)]
       rfl
   . unfold lG
     simp
 . rw [decide_eq_false q,if_neg q]; rfl
theorem Jf {a c:Nat} (h:a + c≤1000000):IntKind.wrap .i64 (Int.fdiv (IntKind.wrap .u64 (IntKind.wrap .i64 ((a:Int) + (c:Int)))) (2 ^ (min (Int.toNat 1) (IntKind.bits .u64))))=(((a + c) / 2:Nat):Int):=by
 have e1:IntKind.wrap .i64 ((a:Int) + (c:Int))=((a + c:Nat):Int):=by rw [w64 (by omega) (by omega)]; omega
 have e2:IntKind.wrap .u64 ((a + c:Nat):Int)=((a + c:Nat):Int):=by
   show ((a + c:Nat):Int) % 2 ^ 64=_
   omega
 have e3:(2:Int) ^ (min (Int.toNat 1) (IntKind.bits .u64))=2:=by decide
 rw [e1,e2,e3,Int.fdiv_eq_ediv_of_nonneg _ (by omega),w64 (by omega) (by omega)]
 omega
theorem Fv {X:List Blk} (hX:X.length≤1000) {t:Int} {j k:Nat} (hj:j < X.length) (hk:k≤X[j].1.length) {n:Nat} (hn:n=bg X j + k) :
   nH ((X.length:Nat):Int) (some (bgs X,t)) (n:Int)=some ((j + 1:Nat):Int):=by
 unfold nH
 have pr:∀ i,i < X.length→(n < bg X i↔j < i):=by
   intro i hi
   constructor
   . intro h
     by_cases q:j < i
     . exact q
     . have:=dB X (i:=i) (j:=j) (by omega) (by omega); omega
   . intro h
     have h1:=dB X (i:=j + 1) (j:=i) h (by omega)
     rw [cq hj] at h1; omega
 have key:=bL (body:=r9 (some (bgs X,t)) (n:Int)) (fun s:Int×Int=>∃ a c:Nat,s=((a:Int),(c:Int))∧a≤j + 1∧j + 1≤c∧c≤X.length) (fun s=>(s.2 - s.1).toNat) (Q:=fun r=>r=((j + 1:Nat):Int)) ?_ (s:=(0,((X.length:Nat):Int))) ⟨0,X.length,rfl,by omega,by omega,by omega⟩
 . obtain ⟨r,h1,h2⟩:=key
   rw [h1,h2]; rfl
 . rintro _ ⟨a,c,rfl,h1,h2,h3⟩
   unfold r9 sj
   dsimp only
   by_cases q:a < c
   . have hm:(a + c) / 2 < X.length:=by omega
     simp only [dlt q,cond_true,Jf (show a + c≤1000000 by omega),Option.bind_some,pX X hm]
     by_cases q2:j < (a + c) / 2
     . have:=(pr _ hm).2 q2
       rw [decide_eq_true (by omega),Bool.not_true,cond_false]
       refine .inl ⟨_,rfl,⟨a,(a + c) / 2,rfl,h1,by omega,by omega⟩,by dsimp only; omega⟩
     . have:¬ n < bg X ((a + c) / 2):=fun hc=>q2 ((pr _ hm).1 hc)
       rw [decide_eq_false (by omega),Bool.not_false,cond_true,w64 (by omega) (by omega)]
       refine .inl ⟨_,rfl,⟨(a + c) / 2 + 1,c,rfl,by omega,h2,h3⟩,by dsimp only; omega⟩
   . rw [decide_eq_false (by omega),cond_false]
     exact .inr ⟨_,rfl,by omega⟩
theorem Bp {X:List Blk} (hX:X.length≤1000) (hb:bg X X.length≤100000) {j k:Nat} (hj:j < X.length) (hk:k≤X[j].1.length) :
   kU (some (bgs X,((bg X X.length:Nat):Int))) ((bg X j + k:Nat):Int)=some ((j:Int),(k:Int),true):=by
 have h1:=dB X (i:=j + 1) (j:=X.length) hj (Nat.le_refl _)
 rw [cq hj] at h1
 unfold kU dp
 rw [decide_eq_false (by omega),cond_false]
 simp only [Option.isNone_some,cond_false,Option.bind_some]
 rw [decide_eq_false (by omega),cond_false,qd,Fv hX hj hk rfl,Option.bind_some,w64 (by omega) (by omega),show ((j + 1:Nat):Int) - 1=(j:Int) by omega,pX X hj,Option.bind_some,w64 (by omega) (by omega)]
 simp only [Option.some.injEq,Prod.mk.injEq,true_and,and_true]
 omega
theorem Im {X:List Blk} (hX:X.length≤1000) {j:Nat} (hj:j < X.length):oa (some (bgs X,((bg X X.length:Nat):Int))) (j:Int)=some ((bg X (j + 1):Nat):Int):=by
 unfold oa
 rw [Option.bind_some,w64 (by omega) (by omega)]
 dsimp only
 rw [qd]
 by_cases q:j + 1 < X.length
 . rw [decide_eq_true (by omega),cond_true,show (j:Int) + 1=((j + 1:Nat):Int) by omega,pX X q]; rfl
 . have:j + 1=X.length:=by omega
   rw [decide_eq_false (by omega),cond_false,this]
theorem G9 {X:List Blk} (hX:X.length≤1000) (hb:bg X X.length≤100000) {j k:Nat} (hj:j < X.length) (hk:k≤X[j].1.length) :
   n6 (some (bgs X,((bg X X.length:Nat):Int))) ((bg X j + k:Nat):Int)=some (decide (k=X[j].1.length)):=by
 have h1:=dB X (i:=j + 1) (j:=X.length) hj (Nat.le_refl _)
 have h2:=cq hj
 unfold n6
 rw [Bp hX hb hj hk]
 simp only [Option.bind_some,cond_true,Im hX hj,w64 (x:=((bg X j + k:Nat):Int) + 1) (by omega) (by omega)]
 congr 1
 by_cases c:k=X[j].1.length
 . rw [decide_eq_true c,decide_eq_true (by omega)]
 . rw [decide_eq_false c,decide_eq_false (by omega)]
theorem GA {X:List Blk} (hb:bg X X.length≤100000) {j k:Nat} (hj:j < X.length) (hk:k≤X[j].1.length):mn (au X) (j:Int) (k:Int)=some (((bg X j + k:Nat):Int),true):=by
 have h1:=dB X (i:=j + 1) (j:=X.length) hj (Nat.le_refl _)
 have h2:=cq hj
 have hl:=ii X
 unfold mn
 have key:=g9 (body:=lP (au X) (j:Int) (k:Int)) (fun n=>n=bg X j + k) (fun n:Nat=>(n:Int)) (au X).length (fun n => .inr ((n:Int),true)) (.inl ()) ?_ ?_ ?_
 . rcases key with ⟨n,_,rfl,_,h4⟩ | ⟨h3,_⟩
   . rw [show (0:Int)=((0:Nat):Int) from rfl,h4]; rfl
   . exact absurd rfl (h3 (bg X j + k) (by omega))
 . intro n hn hp
   obtain ⟨i,m,hi,hm,rfl,_⟩:=m6 X X.length (Nat.le_refl _) n (by omega)
   have hg:=mH X hi hm
   rw [List.getElem?_eq_getElem hn] at hg
   unfold lP
   simp only [dlt hn,cond_true,ah hn,Option.bind_some,Option.some.inj hg,aj hn (by omega:(au X).length≤9223372036854775807)]
   by_cases c1:i=j
   . subst c1
     have c2:¬ m=k:=fun e=>hp (by rw [e])
     have:¬ (m:Int)=(k:Int):=by omega
     simp [this]
   . have:¬ (i:Int)=(j:Int):=by omega
     simp [this]
 . rintro n hn rfl
   have hg:=mH X hj hk
   rw [List.getElem?_eq_getElem hn] at hg
   unfold lP
   simp only [dlt hn,cond_true,ah hn,Option.bind_some,Option.some.inj hg]
   simp
 . unfold lP; simp
theorem eJ:∀ {xs ys:List Int},xs.Pairwise (· < ·)→ys.Pairwise (· < ·)→(∀ a,a∈xs↔a∈ys)→xs=ys
 | [],[],_,_,_=>rfl
 | [],y :: ys,_,_,h=>by have:=(h y).2 (by simp); simp at this
 | x :: xs,[],_,_,h=>by have:=(h x).1 (by simp); simp at this
 | x :: xs,y :: ys,hx,hy,h=>by
   obtain ⟨hx1,hx2⟩:=List.pairwise_cons.1 hx
   obtain ⟨hy1,hy2⟩:=List.pairwise_cons.1 hy
   have e:x=y:=by
     have h1:=(h x).1 (by simp)
     have h2:=(h y).2 (by simp)
     rcases List.mem_cons.1 h1 with h1 | h1
     . exact h1
     . rcases List.mem_cons.1 h2 with h2 | h2
       . exact h2.symm
       . have:=hy1 x h1; have:=hx1 y h2; omega
   subst e
   rw [eJ hx2 hy2 (fun a=>?_)]
   constructor
   . intro ha
     rcases List.mem_cons.1 ((h a).1 (by simp [ha])) with e | e
     . subst e; have:=hx1 a ha; omega
     . exact e
   . intro ha
     rcases List.mem_cons.1 ((h a).2 (by simp [ha])) with e | e
     . subst e; have:=hy1 a ha; omega
     . exact e
theorem wH {zs:List Int} (hs:zs.Pairwise (·≤·)):∀ m,m≤zs.length→(Lib.compactUpTo zs.toArray m).Pairwise (· < ·)∧∀ a,a∈Lib.compactUpTo zs.toArray m↔a∈zs.take m
 | 0,_=>by simp [Lib.compactUpTo]
 | m + 1,h=>by
   obtain ⟨h1,h2⟩:=wH hs m (by omega)
   have hm:m < zs.length:=by omega
   have e:zs.toArray[m]! = zs[m]:=by simp [getElem!_pos,hm]
   rw [Lib.compactUpTo_succ,e]
   have htk:zs.take (m + 1)=zs.take m++[zs[m]]:=List.take_succ_eq_append_getElem hm
   have hle:∀ a∈zs.take m,a≤zs[m]:=by
     intro a ha
     have:=hs.sublist (List.take_sublist (m + 1) zs)
     rw [htk] at this
     exact (List.pairwise_append.1 this).2.2 a ha _ (by simp)
   rw [htk]
   cases hk:Lib.keeps zs.toArray m with
   | false =>
     simp only [Bool.false_eq_true,if_false,List.append_nil]
     refine ⟨h1,fun a=>?_⟩
     rw [h2,List.mem_append]
     have hm0:m≠0:=by rintro rfl; simp [Lib.keeps] at hk
     have he:zs.toArray[m]! = zs.toArray[m - 1]!:=by
       simp [Lib.keeps,hm0] at hk; simpa using hk
     have hp:m - 1 < zs.length:=by omega
     have e2:zs.toArray[m - 1]! = zs[m - 1]:=by simp [getElem!_pos,hp]
     rw [e,e2] at he
     constructor
     . exact .inl
     . rintro (h | h)
       . exact h
       . simp at h; rw [h,he]
         exact List.mem_take_iff_getElem.2 ⟨m - 1,by omega,rfl⟩
   | true =>
     simp only [if_true]
     refine ⟨List.pairwise_append.2 ⟨h1,by simp,fun a ha b hb=>?_⟩,fun a=>by rw [List.mem_append,List.mem_append,h2]⟩
     simp at hb; subst hb
     have ha':=(h2 a).1 ha
     have hle':=hle a ha'
     rcases Int.lt_or_eq_of_le hle' with h | h
     . exact h
     . exfalso
       obtain ⟨j,hj,rfl⟩:=List.mem_take_iff_getElem.1 ha'
       have hm0:m≠0:=by omega
       have hp:m - 1 < zs.length:=by omega
       have e2:zs.toArray[m - 1]! = zs[m - 1]:=by simp [getElem!_pos,hp]
       simp only [Lib.keeps,e,e2] at hk
       simp [hm0] at hk
       have a1:zs[j]≤zs[m - 1]:=by
         rcases Nat.lt_or_ge j (m - 1) with q | q
         . exact List.pairwise_iff_getElem.1 hs j (m - 1) _ _ q
         . have:j=m - 1:=by omega
           subst this; exact Int.le_refl _
       have a2:zs[m - 1]≤zs[m]:=List.pairwise_iff_getElem.1 hs (m - 1) m _ _ (by omega)
       omega
theorem oX {zs:List Int} (hs:zs.Pairwise (·≤·)):(Lib.compact zs).Pairwise (· < ·)∧∀ a,a∈Lib.compact zs↔a∈zs:=by
 have:=wH hs zs.length (Nat.le_refl _)
 rw [List.take_length] at this
 exact this
end
end Go.Proofs.YtaajcbeoafhmaaaGreatDoor
