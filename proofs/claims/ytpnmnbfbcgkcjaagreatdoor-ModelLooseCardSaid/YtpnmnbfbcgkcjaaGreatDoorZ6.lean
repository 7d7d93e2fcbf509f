/- A part of the proof: what lies ahead of the law. Nothing is claimed here. -/
import Derived.Test.YtpnmnbfbcgkcjaaGreatDoorZ5
import Derived.Lib.RowBridge
open BitVec renaming ofInt→X0
open Bool renaming and_assoc→ea0,and_eq_true→Y1,and_false→dZ0,false_eq_true→W7,not_false→aE0,not_not→ez0,not_true→X7,true_and→cd0
open Int renaming fdiv→X8,fdiv_eq_ediv_of_nonneg→ce0,le_refl→cn0,ofNat_lt→bL0,tdiv→bc0,tmod→bK0,toNat→Z5,toNat_natCast→W2
open List renaming any_eq_false→ao0,any_eq_true→av0,append_assoc→X1,append_nil→Z6,cons_append→aK0,drop→cu0,drop_eq_getElem_cons→aY0,drop_succ_cons→bS0,drop_zero→ab0,findIdx?_eq_none_iff→ar0,findIdx?_eq_some_iff_getElem→Z9,getD→ag0,getElem?_append_left→V6,getElem?_append_right→V5,getElem?_eq_getElem→Z0,getElem?_eq_none→ai0,getElem?_map→cB0,getElem_append_right→cZ0,getElem_drop→db0,getElem_mem→X2,getElem_of_mem→Z8,getElem_range→bW0,length→W4,length_append→W3,length_cons→V9,length_eq_zero_iff→Z4,length_map→Y6,length_pos_iff→bl0,length_range→bk0,length_take→X4,map_append→X6,map_cons→X5,map_map→dL0,map_nil→aS0,mem_append→V3,mem_cons→Y4,mem_map→Y7,mem_of_getElem?→cf0,mem_of_mem_drop→eC0,mem_of_mem_take→bg0,mem_range→V7,mem_singleton→Y2,mem_take_iff_getElem→cY0,nil_append→aH0,pairwise_append→aJ0,pairwise_cons→be0,pairwise_iff_getElem→am0,range→Z1,range_succ→aU0,replicate→Z2,set_append_right→bu0,set_cons_zero→cU0,sum_append→dT0,take_append_drop→as0,take_length→Y9,take_sublist→dH0,take_succ_eq_append_getElem→ay0,take_zero→cg0
open Nat renaming add_sub_cancel_left→cp0,le_of_lt→bt0,le_refl→X3,le_trans→Z7,lt_or_ge→aq0,min_eq_left→an0,mul_le_mul_right→aI0,not_lt→eU0,sub_self→bs0,succ_mul→aC0
open Option renaming bind_some→V0,isNone_some→aA0
open Option.some renaming inj→ap0,injEq→Z3
open Prod.mk renaming injEq→bQ0
open Sum renaming inr→dk0
open Sum.inl renaming injEq→ef0
open Go.IntKind renaming wrap→M0
open Go.IntKind renaming bits→O0
namespace Go.Proofs.YtpnmnbfbcgkcjaaGreatDoor
noncomputable section
set_option linter.unusedVariables false
set_option maxRecDepth 100000
set_option maxHeartbeats 4000000
section
open Go.RowKit _root_.Go.Proofs.Tryz

def g9(qa0:(List Int)):Option (List Int) :=
 some (qa0)
def sy:=re ⟨54,⟨[(0,.ptr 0 0)],[bkN 197 [.own 3 Yq1]]⟩,[⟨[(0,.fn 90 [.ptr 1 0])],[bkC 0 197 [.own 3 Yq1],bkN 113 [.ptr 0 0]]⟩],fun x=>g9 x⟩ func54 call54 .nil
def EE(l1:(List Int)):(Int×Bool)->Option ((Int×Bool)⊕Unit):=fun (i2,t3)=>cond (t3) ((ic i2).bind fun t4=>(cd (some l1) (M0 .i64 (i2+1))).bind fun i5=>(ce (some l1) i5).bind fun (i6,t7)=>some (.inl (i6,t7))) (some (.inr ((()))))
def tI(i1:Int)(l2:(List Int)):(Int×Bool×(List Int))->Option ((Int×Bool×(List Int))⊕(List Int)):=fun (i3,t4,l5)=>cond (t4) ((dx i3 i1 l5).bind fun (t6,l7)=>(cd (some l2) (M0 .i64 (i3+1))).bind fun i8=>(ce (some l2) i8).bind fun (i9,t10)=>some (.inl (i9,t10,l7))) (some (.inr (l5)))
def k8(qa0:Int)(qa1:aQ)(qa2:aE):Option (aE) :=
 (fX qa0).bind fun o=>match o with|.inl i3=>(qa1).bind fun y4=>(g9 y4).bind fun l5=>(ce (some l5) 0).bind fun (i6,t7)=>(loop (EE l5) (i6,t7)).bind fun ()=>some (none)|.inr (i8,i9,l10)=>(qa1).bind fun y11=>(g9 y11).bind fun l12=>(ce (some l12) 0).bind fun (i13,t14)=>(loop (tI i9 l12) (i13,t14,l10)).bind fun l15=>some (some (i9,l15))
def Dk:=re ⟨52,⟨[(0,.ptr 0 0)],[bkN 116 [.is 1 (.dat Yq1),.od (.box 197 (.one (.row 3 (.dat Yq1)))),.od (.box 162 (.cons (.dat Yq1) (.one (.row 163 (.dat Yq9)))))],bkM]⟩,[⟨[],[bkC 0 116 [.is 1 (.any),.nilp,.od (.box 162 (.cons (.dat Yq1) (.one (.row 163 (.dat Yq9)))))],bkU 1]⟩],fun x=>k8 x.1 x.2.1 x.2.2⟩ func52 call52 (.mix [([0,1,2,3],4),([],5),([6,7,8,9,10],11)] [] [] [0] (.c2 sL [] (.wt 17 (.opb 2 3 (.cl sy [] (.rg ⟨90,_,func90,call90⟩ (.cl eD [17,2] (.jn [] ⟨[],[⟨(some 21),0,[],false,false,none,true⟩]⟩ [21,4] (.lp ⟨[kdI 3,kdB 4],[⟨(some 21),0,[],false,false,none,true⟩]⟩ (.tw 10 (.yl 2 (.cl kL [] (.mix [([0,1,2,3],4),([],5)] [6,7,8,9,10] [] [] (.cl dJ [17,2] (.cl eD [17,2] .nil))))) .nil)) .nil)))))) (.wt 17 (.opb 2 3 (.cl sy [] (.rg ⟨90,_,func90,call90⟩ (.cl eD [21,2] (.jn [(9,0)] ⟨[],[⟨(some 25),0,[],false,false,none,true⟩,bkC 9 162 [.is 2 (.any),.own 163 Yq9],bkU 26]⟩ [25,10,9,4] (.lp ⟨[kdI 3,kdB 4],[⟨(some 25),0,[],false,false,none,true⟩,bkC 9 162 [.is 2 (.any),.own 163 Yq9],bkU 26]⟩ (.tw 10 (.yl 2 (.cl iO [] (.mix [([0,1,2,3],4),([],5)] [6,7,8,9,10] [] [] (.cl dJ [21,2] (.cl eD [21,2] .nil))))) .nil)) .nil))))))))

def dd(xb:Int)(qa0:Int)(qa1:aQ)(qa2:aE):Option ((Bool×aQ×aE)) :=
 (cond (decide (xb<0)) (some (true)) ((fQ (some (qa0,qa1,qa2))).bind fun i3=>some (decide (i3<=xb)))).bind fun t4=>cond (t4) (some ((false,qa1,qa2))) ((fO (some (qa0,qa1,qa2))).bind fun t5=>cond (t5) ((qa2).bind fun y6=>(dx xb y6.1 y6.2).bind fun (t7,l8)=>some ((t7,qa1,some (y6.1,l8)))) ((qa1).bind fun y9=>(ol xb y9).bind fun (t10,l11)=>(lJ (some l11)).bind fun i12=>cond (decide (8<i12)) ((k8 qa0 (some l11) qa2).bind fun l13=>some ((t10,none,l13))) (some ((t10,some l11,qa2)))))
def gA:=re ⟨39,⟨[(0,.ptr 0 0),kdI 1],[bkN 116 [.is 1 (.dat Yq1),.od (.box 197 (.one (.row 3 (.dat Yq1)))),.od (.box 162 (.cons (.dat Yq1) (.one (.row 163 (.dat Yq9)))))],bkM]⟩,[⟨[kdB 0],[bkC 0 116 [.is 1 (.any),.od (.box 197 (.one (.row 3 (.dat Yq1)))),.od (.box 162 (.cons (.dat Yq1) (.one (.row 163 (.dat Yq9)))))],bkU 1]⟩],fun x=>dd x.1 x.2.1 x.2.2.1 x.2.2.2⟩ func39 call39 (.gj 4 ⟨[kdB 13],[]⟩ [] (.two 8 .nil (.cl sg [2,4,0] .nil)) (.tw 13 .nil (.cl nt [2,4,0] (.tw 15 (.wt 20 (.opb 4 5 (.wt 1000010 (.mc 4 0 7 (.cl iO [] .nil))))) (.wt 26 (.opb 2 3 (.cl Mq [] (.cl DQ [13,2] (.tw 33 (.cl Dk [] .nil) .nil)))))))))

def po(xa:(Option gJ))(xb:Int):Option (aE) :=
 (cond (xa.isNone||(decide (xb<0))) (some (true)) (xa.bind fun y68=>some (decide ((y68.2.length:Int)<=xb)))).bind fun t66=>cond (t66) (some (none)) (xa.bind fun y79=>(aa y79.2 xb).bind fun x89=>some (x89))
def NF:=re ⟨77,⟨[(0,.dat (.ptr (.cons Yq1 (.one (.sl Yq6))))),kdI 1],[]⟩,[⟨[(0,.dat Yq6)],[]⟩],fun x=>po x.1 x.2⟩ func77 call77 (.gp 2 (.wt 11 (.gj 7 ⟨[kdB 19],[]⟩ [] (.two 11 .nil .nil) (.tw 19 .nil .nil))))

def jp(xa:aE):Option Unit :=
 some (())
def DM:=re ⟨117,⟨[(0,.is 0 (.dat Yq6))],[bkM]⟩,[⟨[(0,.fn 150 [.ptr 0 0])],[bkN 114 [.is 1 (.any)],bkU 0]⟩],fun x=>jp x⟩ func117 call117 .nil
def jb(y1:Tq8):bf->Option (bf⊕(bf⊕Int)):=fun (i2,i3)=>cond (decide (i3=0)) (cond (decide ((M0 .i64 (i2+1))=(y1.2.length:Int))) (some (.inr ((.inr ((-1)))))) ((aa y1.2 (M0 .i64 (i2+1))).bind fun x4=>some (.inl ((M0 .i64 (i2+1),x4))))) (some (.inr ((.inl (i2,i3)))))
def df(xa:aE)(xb:Int):Option Int :=
 (fI xa (if xb<0 then 0 else xb)).bind fun t1=>cond (!t1) (some ((-1))) (xa.bind fun y2=>(aa y2.2 (M0 .i64 (bc0 (if xb<0 then 0 else xb) 64))).bind fun x3=>(ge0 (bK0 (if xb<0 then 0 else xb) 64)).bind fun u4=>(ge0 (bK0 (if xb<0 then 0 else xb) 64)).bind fun u5=>(loop (jb y2) ((M0 .i64 (bc0 (if xb<0 then 0 else xb) 64),M0 .u64 ((X8 x3 (2 ^ (min (Z5 (bK0 (if xb<0 then 0 else xb) 64)) (O0 .u64))))*2 ^ (min (Z5 (bK0 (if xb<0 then 0 else xb) 64)) (O0 .u64)))))).bind fun o=>match o with|.inr r=>some r|.inl (i6,i7)=>(tzF i7).bind fun i8=>some (M0 .i64 ((M0 .i64 (i6*64))+i8)))
def sn:=re ⟨151,⟨[(0,.dat Yq6),kdI 1],[]⟩,[⟨[kdI 0],[]⟩],fun x=>df x.1 x.2⟩ func151 call151 (.ms 0 (.cl sP [] (.tw 12 .nil (.jx [] ⟨[kdI 5,(6,.dat Yq9)],[]⟩ [] (.lp ⟨[kdI 5,(6,.dat Yq9)],[]⟩ (.tw 29 (.tw 38 .nil .nil) .nil)) (.cl Ph [] .nil)))))
def tV(xa:aE):Tq8->Option (Tq8⊕(List Int)):=fun (i1,l2)=>cond (decide (0<=i1)) ((app l2 ([i1]:List Int)).bind fun z3=>(df xa (M0 .i64 (i1+1))).bind fun i4=>some (.inl (i4,z3))) (some (.inr (l2)))
def jf(xa:aE):Option (List Int) :=
 (jp xa).bind fun _=>(df xa 0).bind fun i1=>(loop (tV xa) (i1,[])).bind fun l2=>some (l2)
def Qk:=re ⟨78,⟨[(0,.dat Yq6)],[]⟩,[⟨[(0,.own 3 Yq1)],[]⟩],fun x=>jf x⟩ func78 call78 (.ms 5 (.cl DM [] (.rg ⟨150,_,func150,call150⟩ (.cl sn [] (.jn [] ⟨[],[bkC 0 40 [.own 3 Yq1],⟨(some 5),0,[],false,false,none,true⟩]⟩ [5,0] (.lp ⟨[kdI 3],[bkC 0 40 [.own 3 Yq1],⟨(some 5),0,[],false,false,none,true⟩]⟩ (.tw 7 (.yl 2 (.cl sn [] .nil)) .nil)) .nil)))))

def ib(xa:(Option gJ))(xb:Int):Option (List Int) :=
 (po xa xb).bind fun p26=>(jf p26).bind fun l34=>some (l34)
def sr:=re ⟨40,⟨[(0,.dat (.ptr (.cons Yq1 (.one (.sl Yq6))))),kdI 1],[]⟩,[⟨[(0,.own 3 Yq1)],[]⟩],fun x=>ib x.1 x.2⟩ func40 call40 (.cl NF [] (.cl Qk [] .nil))
def lF(xa:Tq4):aS->Option (aS⊕(List Int)):=fun (l1,i2)=>cond (decide (i2<(xa.length:Int))) ((aa xa i2).bind fun x3=>(app l1 ([x3.1]:List Int)).bind fun z4=>some (.inl ((z4,M0 .i64 (i2+1))))) (some (.inr (l1)))
def io(xa:Tq4):Option (List Int) :=
 (loop (lF xa) ([],0)).bind fun l1=>(srt l1).bind fun l2=>(eM l2).bind fun l3=>some (l3)
def r9:=re ⟨41,⟨[(0,.dat aP)],[]⟩,[⟨[(0,.own 3 Yq1)],[]⟩],fun x=>io x⟩ func41 call41 (.jn [] ⟨[(3,.own 3 Yq1)],[]⟩ [0] (.lp ⟨[(3,.own 3 Yq1),kdI 9],[]⟩ (.tw 10 .nil .nil)) (.cl iE [] (.cl mO [] .nil)))
def tN(qb1:(List Int)):(Bool×Int×(List Int))->Option ((Bool×Int×(List Int))⊕(Bool×(List Int))):=fun (t2,i3,l4)=>cond (decide (i3<(qb1.length:Int))) ((aa qb1 i3).bind fun x5=>(aa l4 i3).bind fun x6=>cond (!decide ((M0 .u64 ((X0 (O0 .u64) x5 &&& ~~~X0 (O0 .u64) x6).toNat:Int))=0)) ((aa l4 i3).bind fun x7=>(aa l4 i3).bind fun x8=>(some (l4.set i3.toNat (M0 .u64 ((X0 (O0 .u64) x7 ||| X0 (O0 .u64) x5).toNat:Int)))).bind fun z9=>some (.inl ((true,M0 .i64 (i3+1),z9)))) (some (.inl ((t2,M0 .i64 (i3+1),l4))))) (some (.inr (((t2,l4)))))
def fH(qa0:Int)(qa1:(List Int))(qb0:Int)(qb1:(List Int)):Option ((Bool×(List Int)×(List Int))) :=
 cond (!decide (qa0=qb0)) (some ((false,qa1,qb1))) ((loop (tN qb1) (false,0,qa1)).bind fun (t2,l3)=>some ((t2,l3,qb1)))
def Nb:=re ⟨53,⟨[(0,.ptr 0 0),(1,.ptr 1 0)],[bkN 162 [.is 2 (.dat Yq1),.own 163 Yq9],bkN 162 [.is 3 (.dat Yq1),.own 163 Yq9],bkM,bkM]⟩,[⟨[kdB 0],[bkC 0 162 [.is 2 (.any),.own 163 Yq9],bkC 1 162 [.is 3 (.any),.own 163 Yq9],bkU 2,bkU 3]⟩],fun x=>fH x.1 x.2.1 x.2.2.1 x.2.2.2⟩ func53 call53 (.mix [] [0,1,2,3,4,5,6,7,8,9,10,11,12,13,14,15,16] [] [] (.tw 24 .nil (.jn [] ⟨[kdB 5],[bkC 0 162 [.is 1 (.any),.own 163 Yq9],bkU 2]⟩ [4,0] (.lp ⟨[kdB 5,kdI 30],[bkC 0 162 [.is 1 (.any),.own 163 Yq9],bkU 2]⟩ (.tw 31 (.tw 44 .nil .nil) .nil)) .nil)))
def kV(qa0:Int)(l1:(List Int)):(Int×Bool×aQ×aE×Bool)->Option ((Int×Bool×aQ×aE×Bool)⊕(aQ×aE×Bool)):=fun (i2,t3,l4,l5,t6)=>cond (t3) ((dd i2 qa0 l4 l5).bind fun (t7,l8,l9)=>cond (t7) ((cd (some l1) (M0 .i64 (i2+1))).bind fun i10=>(ce (some l1) i10).bind fun (i11,t12)=>some (.inl (i11,t12,l8,l9,true))) ((cd (some l1) (M0 .i64 (i2+1))).bind fun i13=>(ce (some l1) i13).bind fun (i14,t15)=>some (.inl (i14,t15,l8,l9,t6)))) (some (.inr (((l4,l5,t6)))))
def dU(qa0:Int)(qa1:aQ)(qa2:aE)(qb0:Int)(qb1:aQ)(qb2:aE):Option ((Bool×aQ×aE×aQ×aE)) :=
 cond (!decide (qa0=qb0)) (some ((false,qa1,qa2,qb1,qb2))) ((fO (some (qb0,qb1,qb2))).bind fun t3=>cond (t3) (((fO (some (qa0,qa1,qa2))).bind fun t4=>cond (!t4) ((k8 qa0 qa1 qa2).bind fun l5=>some ((none,l5))) (some ((qa1,qa2))):Option ((aQ×aE))).bind fun (l6,l7)=>(l7).bind fun y8=>(qb2).bind fun y9=>(fH y8.1 y8.2 y9.1 y9.2).bind fun (t10,l11,l12)=>some ((t10,l6,some (y8.1,l11),qb1,some (y9.1,l12)))) ((qb1).bind fun y13=>(g9 y13).bind fun l14=>(ce (some l14) 0).bind fun (i15,t16)=>(loop (kV qa0 l14) (i15,t16,qa1,qa2,false)).bind fun (l17,l18,t19)=>some ((t19,l17,l18,some l14,qb2))))
def kr:=re ⟨26,⟨[(0,.ptr 0 0),(1,.ptr 1 0)],[bkN 116 [.is 2 (.dat Yq1),.od (.box 197 (.one (.row 3 (.dat Yq1)))),.od (.box 162 (.cons (.dat Yq1) (.one (.row 163 (.dat Yq9)))))],bkN 116 [.is 3 (.dat Yq1),.od (.box 197 (.one (.row 3 (.dat Yq1)))),.od (.box 162 (.cons (.dat Yq1) (.one (.row 163 (.dat Yq9)))))],bkM,bkM]⟩,[⟨[kdB 0],[bkC 0 116 [.is 2 (.any),.od (.box 197 (.one (.row 3 (.dat Yq1)))),.od (.box 162 (.cons (.dat Yq1) (.one (.row 163 (.dat Yq9)))))],bkC 1 116 [.is 3 (.any),.od (.box 197 (.one (.row 3 (.dat Yq1)))),.od (.box 162 (.cons (.dat Yq1) (.one (.row 163 (.dat Yq9)))))],bkU 2,bkU 3]⟩],fun x=>dU x.1 x.2.1 x.2.2.1 x.2.2.2.1 x.2.2.2.2.1 x.2.2.2.2.2⟩ func26 call26 (.mix [] [0,1,2,3,4,5,6,7,8,9,10,11,12,13,14,15,16] [] [] (.tw 23 .nil (.cl nt [9,11,1] (.tw 25 (.sq [] ⟨[],[bkC 0 116 [.is 1 (.any),.od (.box 197 (.one (.row 3 (.dat Yq1)))),.od (.box 162 (.cons (.dat Yq1) (.one (.row 163 (.dat Yq9)))))],bkU 2]⟩ [0,4,6] (.cl nt [4,6,0] (.tw 28 (.cl Dk [] .nil) .nil)) (.mix [] [0,1,2,3,4,5,6,7] [8,9] [] (.wt 38 (.opb 18 19 (.wt 38 (.opb 11 12 (.wt 1000027 (.mc 18 0 21 (.mc 11 0 24 (.cl Nb [] .nil)))))))))) (.wt 43 (.opb 9 10 (.cl sy [] (.rg ⟨90,_,func90,call90⟩ (.cl eD [26,9] (.jn [] ⟨[],[bkC 0 116 [.is 3 (.any),.od (.box 197 (.one (.row 3 (.dat Yq1)))),.od (.box 162 (.cons (.dat Yq1) (.one (.row 163 (.dat Yq9)))))],bkC 16 4 [.dat .bool],⟨(some 30),0,[],false,false,none,true⟩,bkU 2]⟩ [30,16,0,4,6] (.lp ⟨[kdI 3,kdB 4],[bkC 0 116 [.is 3 (.any),.od (.box 197 (.one (.row 3 (.dat Yq1)))),.od (.box 162 (.cons (.dat Yq1) (.one (.row 163 (.dat Yq9)))))],bkC 16 4 [.dat .bool],⟨(some 30),0,[],false,false,none,true⟩,bkU 2]⟩ (.tw 10 (.yl 2 (.cl gA [] (.tw 48 (.mix [([0,1,2,3],4),([],5)] [6,7,8,9,10] [] [] (.cl dJ [26,9] (.cl eD [26,9] .nil))) (.mix [([0,1,2,3],4),([],5)] [6,7,8,9,10] [] [] (.cl dJ [26,9] (.cl eD [26,9] .nil)))))) .nil)) .nil))))))))))
def tK(xc:Int)(qa0:Int):Tq2->Option (Tq2⊕(aQ×aE)):=fun (i1,l2,l3)=>(fQ (some (qa0,l2,l3))).bind fun i4=>cond (decide (i1<(if i4<xc then i4 else xc))) ((dd i1 qa0 l2 l3).bind fun (t5,l6,l7)=>some (.inl ((M0 .i64 (i1+1),l6,l7)))) (some (.inr (((l2,l3)))))
def n9(xb:Int)(xc:Int)(qa0:Int)(qa1:aQ)(qa2:aE):Option ((aQ×aE)) :=
 (loop (tK xc qa0) (if xb<0 then 0 else xb,qa1,qa2)).bind fun (l3,l4)=>some ((l3,l4))
def OZ:=re ⟨38,⟨[(0,.ptr 0 0),kdI 1,kdI 2],[bkN 116 [.is 1 (.dat Yq1),.od (.box 197 (.one (.row 3 (.dat Yq1)))),.od (.box 162 (.cons (.dat Yq1) (.one (.row 163 (.dat Yq9)))))],bkM]⟩,[⟨[],[bkC 0 116 [.is 1 (.any),.od (.box 197 (.one (.row 3 (.dat Yq1)))),.od (.box 162 (.cons (.dat Yq1) (.one (.row 163 (.dat Yq9)))))],bkU 1]⟩],fun x=>n9 x.1 x.2.1 x.2.2.1 x.2.2.2.1 x.2.2.2.2⟩ func38 call38 (.jn [] ⟨[],[bkC 0 116 [.is 1 (.any),.od (.box 197 (.one (.row 3 (.dat Yq1)))),.od (.box 162 (.cons (.dat Yq1) (.one (.row 163 (.dat Yq9)))))],bkU 1]⟩ [0,2,4] (.lp ⟨[kdI 6],[bkC 0 116 [.is 1 (.any),.od (.box 197 (.one (.row 3 (.dat Yq1)))),.od (.box 162 (.cons (.dat Yq1) (.one (.row 163 (.dat Yq9)))))],bkU 1]⟩ (.cl sg [7,9,0] (.tw 14 (.cl gA [] .nil) .nil))) .nil)
def E3(xa:Tq1)(i1:Int)(z2:List (Option Tq2)):(Int×aK)->Option ((Int×aK)⊕aK):=fun (i3,l4)=>cond (decide (i3<(z2.length:Int))) ((aa l4 i3).bind fun x5=>(fS (M0 .i64 (i1+xa.1))).bind fun o=>match o with|.inl _=>(aa l4 i3).bind fun _=>(az i3 i3).bind fun _=>cond (decide (i3<xa.1)) ((aa (l4.set i3.toNat none) i3).bind fun x6=>(aa (l4.set i3.toNat none) i3).bind fun _=>(az i3 i3).bind fun _=>(x6).bind fun y7=>(la y7.1 y7.2.1 y7.2.2).bind fun (t8,l9,l10)=>(aa ((l4.set i3.toNat none).set i3.toNat (some (y7.1,l9,l10))) i3).bind fun x11=>(aa ((l4.set i3.toNat none).set i3.toNat (some (y7.1,l9,l10))) i3).bind fun _=>(az i3 i3).bind fun _=>(x11).bind fun y12=>(dd (M0 .i64 (i1+i3)) y12.1 y12.2.1 y12.2.2).bind fun (t13,l14,l15)=>some (.inl ((M0 .i64 (i3+1),((l4.set i3.toNat none).set i3.toNat (some (y7.1,l9,l10))).set i3.toNat (some (y12.1,l14,l15)))))) (some (.inl ((M0 .i64 (i3+1),l4.set i3.toNat none))))|.inr (i16,l17)=>(aa l4 i3).bind fun _=>(az i3 i3).bind fun _=>cond (decide (i3<xa.1)) ((aa (l4.set i3.toNat (some (i16,l17,none))) i3).bind fun x18=>(aa (l4.set i3.toNat (some (i16,l17,none))) i3).bind fun _=>(az i3 i3).bind fun _=>(x18).bind fun y19=>(la y19.1 y19.2.1 y19.2.2).bind fun (t20,l21,l22)=>(aa ((l4.set i3.toNat (some (i16,l17,none))).set i3.toNat (some (y19.1,l21,l22))) i3).bind fun x23=>(aa ((l4.set i3.toNat (some (i16,l17,none))).set i3.toNat (some (y19.1,l21,l22))) i3).bind fun _=>(az i3 i3).bind fun _=>(x23).bind fun y24=>(dd (M0 .i64 (i1+i3)) y24.1 y24.2.1 y24.2.2).bind fun (t25,l26,l27)=>some (.inl ((M0 .i64 (i3+1),((l4.set i3.toNat (some (i16,l17,none))).set i3.toNat (some (y19.1,l21,l22))).set i3.toNat (some (y24.1,l26,l27)))))) (some (.inl ((M0 .i64 (i3+1),l4.set i3.toNat (some (i16,l17,none))))))) (some (.inr (l4)))
def EW(l1:(List Int)):Int->Option (Int⊕Unit):=fun i2=>cond (decide (i2<(l1.length:Int))) ((aa l1 i2).bind fun x3=>(oI x3).bind fun t4=>some (.inl (M0 .i64 (i2+1)))) (some (.inr ((()))))
def E2(l1:(List Int)):(Int×aK)->Option ((Int×aK)⊕aK):=fun (i2,l3)=>cond (decide (i2<(l1.length:Int))) ((aa l1 i2).bind fun x4=>(aa l3 x4).bind fun x5=>(aa l3 x4).bind fun _=>(az x4 x4).bind fun _=>(x5).bind fun y6=>(la y6.1 y6.2.1 y6.2.2).bind fun (t7,l8,l9)=>some (.inl ((M0 .i64 (i2+1),l3.set x4.toNat (some (y6.1,l8,l9)))))) (some (.inr (l3)))
def E4(i1:Int)(l2:(List Int)):Tq2->Option (Tq2⊕(aQ×aE)):=fun (i3,l4,l5)=>cond (decide (i3<(l2.length:Int))) ((aa l2 i3).bind fun x6=>(dd x6 i1 l4 l5).bind fun (t7,l8,l9)=>some (.inl ((M0 .i64 (i3+1),l8,l9)))) (some (.inr (((l4,l5)))))
def EY(i1:Int)(l2:(List Int)):kJ->Option (kJ⊕aK):=fun (i3,l4,l5,l6)=>cond (decide (i3<(l2.length:Int))) ((aa l2 i3).bind fun x7=>(aa l4 x7).bind fun x8=>(aa l4 x7).bind fun _=>(az x7 x7).bind fun _=>(x8).bind fun y9=>(dU y9.1 y9.2.1 y9.2.2 i1 l5 l6).bind fun (t10,l11,l12,l13,l14)=>some (.inl ((M0 .i64 (i3+1),l4.set x7.toNat (some (y9.1,l11,l12)),l13,l14)))) (some (.inr (l4)))
def E1(xa:Tq1)(p1:(Option gJ))(i2:Int):(Int×aK)->Option ((Int×aK)⊕aK):=fun (i3,l4)=>cond (decide (i3<(xa.2.2.2.1.length:Int))) ((aa xa.2.2.2.1 i3).bind fun x5=>(fS (M0 .i64 (i2+xa.1))).bind fun o=>match o with|.inl _=>(ib p1 i3).bind fun l6=>(loop (EW l6) 0).bind fun ()=>(io x5).bind fun l7=>(loop (E2 l7) (0,l4)).bind fun l8=>some (.inl ((M0 .i64 (i3+1),l8)))|.inr (i9,l10)=>(ib p1 i3).bind fun l11=>(loop (E4 i9 l11) (0,l10,none)).bind fun (l12,l13)=>(io x5).bind fun l14=>(loop (EY i9 l14) (0,l4,l12,l13)).bind fun l15=>some (.inl ((M0 .i64 (i3+1),l15)))) (some (.inr (l4)))
def jo(xa:Tq1)(i1:Int)(i2:Int)(z3:List (Option Tq2)):(Int×aQ×aE×aK)->Option ((Int×aQ×aE×aK)⊕aK):=fun (i4,l5,l6,l7)=>cond (decide (i4<(z3.length:Int))) ((aa l7 i4).bind fun x8=>(fS (M0 .i64 (i1+xa.1))).bind fun o=>match o with|.inl _=>(aa l7 i4).bind fun _=>(az i4 i4).bind fun _=>cond (decide (i4<xa.1)) ((aa (l7.set i4.toNat none) i4).bind fun x9=>(aa (l7.set i4.toNat none) i4).bind fun _=>(az i4 i4).bind fun _=>(x9).bind fun y10=>(dU y10.1 y10.2.1 y10.2.2 i2 l5 l6).bind fun (t11,l12,l13,l14,l15)=>(aa ((l7.set i4.toNat none).set i4.toNat (some (y10.1,l12,l13))) i4).bind fun x16=>(aa ((l7.set i4.toNat none).set i4.toNat (some (y10.1,l12,l13))) i4).bind fun _=>(az i4 i4).bind fun _=>(x16).bind fun y17=>(dd (M0 .i64 (i1+i4)) y17.1 y17.2.1 y17.2.2).bind fun (t18,l19,l20)=>some (.inl ((M0 .i64 (i4+1),l14,l15,((l7.set i4.toNat none).set i4.toNat (some (y10.1,l12,l13))).set i4.toNat (some (y17.1,l19,l20)))))) (some (.inl ((M0 .i64 (i4+1),l5,l6,l7.set i4.toNat none))))|.inr (i21,l22)=>(aa l7 i4).bind fun _=>(az i4 i4).bind fun _=>cond (decide (i4<xa.1)) ((aa (l7.set i4.toNat (some (i21,l22,none))) i4).bind fun x23=>(aa (l7.set i4.toNat (some (i21,l22,none))) i4).bind fun _=>(az i4 i4).bind fun _=>(x23).bind fun y24=>(dU y24.1 y24.2.1 y24.2.2 i2 l5 l6).bind fun (t25,l26,l27,l28,l29)=>(aa ((l7.set i4.toNat (some (i21,l22,none))).set i4.toNat (some (y24.1,l26,l27))) i4).bind fun x30=>(aa ((l7.set i4.toNat (some (i21,l22,none))).set i4.toNat (some (y24.1,l26,l27))) i4).bind fun _=>(az i4 i4).bind fun _=>(x30).bind fun y31=>(dd (M0 .i64 (i1+i4)) y31.1 y31.2.1 y31.2.2).bind fun (t32,l33,l34)=>some (.inl ((M0 .i64 (i4+1),l28,l29,((l7.set i4.toNat (some (i21,l22,none))).set i4.toNat (some (y24.1,l26,l27))).set i4.toNat (some (y31.1,l33,l34)))))) (some (.inl ((M0 .i64 (i4+1),l5,l6,l7.set i4.toNat (some (i21,l22,none))))))) (some (.inr (l7)))
def EX(l1:(List Int)):Int->Option (Int⊕Unit):=fun i2=>cond (decide (i2<(l1.length:Int))) ((aa l1 i2).bind fun x3=>(oI x3).bind fun t4=>some (.inl (M0 .i64 (i2+1)))) (some (.inr ((()))))
def E0(l1:(List Int)):(Int×aK)->Option ((Int×aK)⊕aK):=fun (i2,l3)=>cond (decide (i2<(l1.length:Int))) ((aa l1 i2).bind fun x4=>(aa l3 x4).bind fun x5=>(aa l3 x4).bind fun _=>(az x4 x4).bind fun _=>(x5).bind fun y6=>(la y6.1 y6.2.1 y6.2.2).bind fun (t7,l8,l9)=>some (.inl ((M0 .i64 (i2+1),l3.set x4.toNat (some (y6.1,l8,l9)))))) (some (.inr (l3)))
def lM(i1:Int)(l2:(List Int)):Tq2->Option (Tq2⊕(aQ×aE)):=fun (i3,l4,l5)=>cond (decide (i3<(l2.length:Int))) ((aa l2 i3).bind fun x6=>(dd x6 i1 l4 l5).bind fun (t7,l8,l9)=>some (.inl ((M0 .i64 (i3+1),l8,l9)))) (some (.inr (((l4,l5)))))
def lI(i1:Int)(l2:(List Int)):kJ->Option (kJ⊕aK):=fun (i3,l4,l5,l6)=>cond (decide (i3<(l2.length:Int))) ((aa l2 i3).bind fun x7=>(aa l4 x7).bind fun x8=>(aa l4 x7).bind fun _=>(az x7 x7).bind fun _=>(x8).bind fun y9=>(dU y9.1 y9.2.1 y9.2.2 i1 l5 l6).bind fun (t10,l11,l12,l13,l14)=>some (.inl ((M0 .i64 (i3+1),l4.set x7.toNat (some (y9.1,l11,l12)),l13,l14)))) (some (.inr (l4)))
def lO(xa:Tq1)(p1:(Option gJ))(i2:Int):(Int×aK)->Option ((Int×aK)⊕aK):=fun (i3,l4)=>cond (decide (i3<(xa.2.2.2.1.length:Int))) ((aa xa.2.2.2.1 i3).bind fun x5=>(fS (M0 .i64 (i2+xa.1))).bind fun o=>match o with|.inl _=>(ib p1 i3).bind fun l6=>(loop (EX l6) 0).bind fun ()=>(io x5).bind fun l7=>(loop (E0 l7) (0,l4)).bind fun l8=>some (.inl ((M0 .i64 (i3+1),l8)))|.inr (i9,l10)=>(ib p1 i3).bind fun l11=>(loop (lM i9 l11) (0,l10,none)).bind fun (l12,l13)=>(io x5).bind fun l14=>(loop (lI i9 l14) (0,l4,l12,l13)).bind fun l15=>some (.inl ((M0 .i64 (i3+1),l15)))) (some (.inr (l4)))
def dB(xa:Tq1):Option (aK) :=
 (mz xa).bind fun p1=>(ui p1).bind fun i2=>cond (decide (i2=0)) (some ([])) ((a8 2 xa.2.1).bind fun _=>(fS (M0 .i64 (i2+xa.1))).bind fun o=>match o with|.inl _=>(yH 0 i2).bind fun _=>(mk xa.2.1 xa.2.1 none:Option aK).bind fun z3=>(loop (E3 xa i2 z3) (0,z3)).bind fun l4=>(loop (E1 xa p1 i2) (0,l4)).bind fun l5=>some (l5)|.inr (i6,l7)=>(n9 0 i2 i6 l7 none).bind fun (l8,l9)=>(mk xa.2.1 xa.2.1 none:Option aK).bind fun z10=>(loop (jo xa i2 i6 z10) (0,l8,l9,z10)).bind fun l11=>(loop (lO xa p1 i2) (0,l11)).bind fun l12=>some (l12))
def NZ:=re ⟨18,⟨[(0,.dat Yq2),(1,.nilp)],[]⟩,[⟨[(0,.od (.row 75 (.box 116 (.cons (.dat Yq1) (.cons (.box 197 (.one (.row 3 (.dat Yq1)))) (.one (.box 162 (.cons (.dat Yq1) (.one (.row 163 (.dat Yq9)))))))))))],[]⟩],fun x=>dB x⟩ func18 call18 (.cl Ou [] (.cl P1 [] (.tw 24 .nil (.cl c9 [] (.c2 nB [] (.cl PH [] (.ot (.box 116 (.cons (.dat Yq1) (.cons (.box 197 (.one (.row 3 (.dat Yq1)))) (.one (.box 162 (.cons (.dat Yq1) (.one (.row 163 (.dat Yq9))))))))) (.jn [] ⟨[],[bkO 2 (.row 75 (.box 116 (.cons (.dat Yq1) (.cons (.box 197 (.one (.row 3 (.dat Yq1)))) (.one (.box 162 (.cons (.dat Yq1) (.one (.row 163 (.dat Yq9))))))))))]⟩ [2] (.lp ⟨[kdI 43],[bkO 2 (.row 75 (.box 116 (.cons (.dat Yq1) (.cons (.box 197 (.one (.row 3 (.dat Yq1)))) (.one (.box 162 (.cons (.dat Yq1) (.one (.row 163 (.dat Yq9))))))))))]⟩ (.tw 44 (.opn 2 47 (.c2 nB [] (.cls 2 7 (.tw 54 (.opn 2 56 (.wt 59 (.opb 10 8 (.wt 1000014 (.mc 10 0 11 (.cl sj [] (.cls 2 9 (.opn 2 62 (.wt 67 (.opb 27 25 (.wt 1000031 (.mc 27 0 28 (.cl gA [] (.cls 2 26 .nil)))))))))))))) .nil)) (.cls 2 11 (.tw 54 (.opn 2 56 (.wt 59 (.opb 14 12 (.wt 1000018 (.mc 14 0 15 (.cl sj [] (.cls 2 13 (.opn 2 62 (.wt 67 (.opb 31 29 (.wt 1000035 (.mc 31 0 32 (.cl gA [] (.cls 2 30 .nil)))))))))))))) .nil)))) .nil)) (.jn [] ⟨[],[bkO 2 (.row 75 (.box 116 (.cons (.dat Yq1) (.cons (.box 197 (.one (.row 3 (.dat Yq1)))) (.one (.box 162 (.cons (.dat Yq1) (.one (.row 163 (.dat Yq9))))))))))]⟩ [0,2] (.lp ⟨[kdI 73],[bkO 2 (.row 75 (.box 116 (.cons (.dat Yq1) (.cons (.box 197 (.one (.row 3 (.dat Yq1)))) (.one (.box 162 (.cons (.dat Yq1) (.one (.row 163 (.dat Yq9))))))))))]⟩ (.tw 74 (.c2 nB [] (.cl sr [] (.jn [] ⟨[],[]⟩ [] (.lp ⟨[kdI 84],[]⟩ (.tw 85 (.cl xF [] .nil) .nil)) (.cl r9 [] (.jn [] ⟨[],[bkO 2 (.row 75 (.box 116 (.cons (.dat Yq1) (.cons (.box 197 (.one (.row 3 (.dat Yq1)))) (.one (.box 162 (.cons (.dat Yq1) (.one (.row 163 (.dat Yq9))))))))))]⟩ [2,6,9] (.lp ⟨[kdI 95],[bkO 2 (.row 75 (.box 116 (.cons (.dat Yq1) (.cons (.box 197 (.one (.row 3 (.dat Yq1)))) (.one (.box 162 (.cons (.dat Yq1) (.one (.row 163 (.dat Yq9))))))))))]⟩ (.tw 96 (.opn 2 100 (.wt 103 (.opb 15 13 (.wt 1000019 (.mc 15 0 16 (.cl sj [] (.cls 2 14 .nil))))))) .nil)) .nil)))) (.cl sr [] (.jn [(9,0)] ⟨[],[bkC 9 116 [.is 1 (.any),.od (.box 197 (.one (.row 3 (.dat Yq1)))),.od (.box 162 (.cons (.dat Yq1) (.one (.row 163 (.dat Yq9)))))],bkU 15]⟩ [9,10] (.lp ⟨[kdI 84],[bkC 9 116 [.is 1 (.any),.od (.box 197 (.one (.row 3 (.dat Yq1)))),.od (.box 162 (.cons (.dat Yq1) (.one (.row 163 (.dat Yq9)))))],bkU 15]⟩ (.tw 85 (.cl gA [] .nil) .nil)) (.cl r9 [] (.jn [] ⟨[],[bkO 2 (.row 75 (.box 116 (.cons (.dat Yq1) (.cons (.box 197 (.one (.row 3 (.dat Yq1)))) (.one (.box 162 (.cons (.dat Yq1) (.one (.row 163 (.dat Yq9))))))))))]⟩ [2,6,9,16,18,13] (.lp ⟨[kdI 95],[bkO 2 (.row 75 (.box 116 (.cons (.dat Yq1) (.cons (.box 197 (.one (.row 3 (.dat Yq1)))) (.one (.box 162 (.cons (.dat Yq1) (.one (.row 163 (.dat Yq9)))))))))),bkC 9 116 [.is 2 (.any),.od (.box 197 (.one (.row 3 (.dat Yq1)))),.od (.box 162 (.cons (.dat Yq1) (.one (.row 163 (.dat Yq9)))))],bkU 15]⟩ (.tw 96 (.opn 2 100 (.wt 103 (.opb 30 23 (.wt 1000034 (.mc 30 0 31 (.cl kr [] (.cls 2 29 .nil))))))) .nil)) .nil))))) .nil)) .nil)))) (.mc 2 0 5 (.cl OZ [] (.ot (.box 116 (.cons (.dat Yq1) (.cons (.box 197 (.one (.row 3 (.dat Yq1)))) (.one (.box 162 (.cons (.dat Yq1) (.one (.row 163 (.dat Yq9))))))))) (.jn [] ⟨[],[bkO 17 (.row 75 (.box 116 (.cons (.dat Yq1) (.cons (.box 197 (.one (.row 3 (.dat Yq1)))) (.one (.box 162 (.cons (.dat Yq1) (.one (.row 163 (.dat Yq9))))))))))]⟩ [17,2,12,14] (.lp ⟨[kdI 43],[bkC 2 116 [.is 2 (.any),.od (.box 197 (.one (.row 3 (.dat Yq1)))),.od (.box 162 (.cons (.dat Yq1) (.one (.row 163 (.dat Yq9)))))],bkO 17 (.row 75 (.box 116 (.cons (.dat Yq1) (.cons (.box 197 (.one (.row 3 (.dat Yq1)))) (.one (.box 162 (.cons (.dat Yq1) (.one (.row 163 (.dat Yq9)))))))))),bkU 6]⟩ (.tw 44 (.opn 17 47 (.c2 nB [] (.cls 17 27 (.tw 54 (.opn 17 56 (.wt 59 (.opb 30 28 (.wt 1000034 (.mc 30 0 31 (.cl kr [] (.cls 17 29 (.opn 17 62 (.wt 67 (.opb 57 55 (.wt 1000061 (.mc 57 0 58 (.cl gA [] (.cls 17 56 .nil)))))))))))))) .nil)) (.cls 17 31 (.tw 54 (.opn 17 56 (.wt 59 (.opb 34 32 (.wt 1000038 (.mc 34 0 35 (.cl kr [] (.cls 17 33 (.opn 17 62 (.wt 67 (.opb 61 59 (.wt 1000065 (.mc 61 0 62 (.cl gA [] (.cls 17 60 .nil)))))))))))))) .nil)))) .nil)) (.jn [] ⟨[],[bkO 17 (.row 75 (.box 116 (.cons (.dat Yq1) (.cons (.box 197 (.one (.row 3 (.dat Yq1)))) (.one (.box 162 (.cons (.dat Yq1) (.one (.row 163 (.dat Yq9))))))))))]⟩ [0,17] (.lp ⟨[kdI 73],[bkO 17 (.row 75 (.box 116 (.cons (.dat Yq1) (.cons (.box 197 (.one (.row 3 (.dat Yq1)))) (.one (.box 162 (.cons (.dat Yq1) (.one (.row 163 (.dat Yq9))))))))))]⟩ (.tw 74 (.c2 nB [] (.cl sr [] (.jn [] ⟨[],[]⟩ [] (.lp ⟨[kdI 84],[]⟩ (.tw 85 (.cl xF [] .nil) .nil)) (.cl r9 [] (.jn [] ⟨[],[bkO 17 (.row 75 (.box 116 (.cons (.dat Yq1) (.cons (.box 197 (.one (.row 3 (.dat Yq1)))) (.one (.box 162 (.cons (.dat Yq1) (.one (.row 163 (.dat Yq9))))))))))]⟩ [17,21,24] (.lp ⟨[kdI 95],[bkO 17 (.row 75 (.box 116 (.cons (.dat Yq1) (.cons (.box 197 (.one (.row 3 (.dat Yq1)))) (.one (.box 162 (.cons (.dat Yq1) (.one (.row 163 (.dat Yq9))))))))))]⟩ (.tw 96 (.opn 17 100 (.wt 103 (.opb 30 28 (.wt 1000034 (.mc 30 0 31 (.cl sj [] (.cls 17 29 .nil))))))) .nil)) .nil)))) (.cl sr [] (.jn [(24,0)] ⟨[],[bkC 24 116 [.is 1 (.any),.od (.box 197 (.one (.row 3 (.dat Yq1)))),.od (.box 162 (.cons (.dat Yq1) (.one (.row 163 (.dat Yq9)))))],bkU 30]⟩ [24,25] (.lp ⟨[kdI 84],[bkC 24 116 [.is 1 (.any),.od (.box 197 (.one (.row 3 (.dat Yq1)))),.od (.box 162 (.cons (.dat Yq1) (.one (.row 163 (.dat Yq9)))))],bkU 30]⟩ (.tw 85 (.cl gA [] .nil) .nil)) (.cl r9 [] (.jn [] ⟨[],[bkO 17 (.row 75 (.box 116 (.cons (.dat Yq1) (.cons (.box 197 (.one (.row 3 (.dat Yq1)))) (.one (.box 162 (.cons (.dat Yq1) (.one (.row 163 (.dat Yq9))))))))))]⟩ [17,21,24,31,33,28] (.lp ⟨[kdI 95],[bkO 17 (.row 75 (.box 116 (.cons (.dat Yq1) (.cons (.box 197 (.one (.row 3 (.dat Yq1)))) (.one (.box 162 (.cons (.dat Yq1) (.one (.row 163 (.dat Yq9)))))))))),bkC 24 116 [.is 2 (.any),.od (.box 197 (.one (.row 3 (.dat Yq1)))),.od (.box 162 (.cons (.dat Yq1) (.one (.row 163 (.dat Yq9)))))],bkU 30]⟩ (.tw 96 (.opn 17 100 (.wt 103 (.opb 45 38 (.wt 1000049 (.mc 45 0 46 (.cl kr [] (.cls 17 44 .nil))))))) .nil)) .nil))))) .nil)) .nil))))))))))
def oq(xa:aZ)(l1:(List Int)):aS->Option (aS⊕(List Int)):=fun (l2,i3)=>cond (decide (i3<(l1.length:Int))) ((aa l2 i3).bind fun x4=>xa.bind fun y5=>(aa y5.2.1 x4).bind fun x6=>(aa l2 i3).bind fun x7=>(some (l2.set i3.toNat x6.2)).bind fun z8=>some (.inl ((z8,M0 .i64 (i3+1))))) (some (.inr (l2)))
def fM(xa:aZ)(xb:Int):Option (List Int) :=
 (jd xa xb).bind fun l1=>(loop (oq xa l1) (l1,0)).bind fun l2=>some (l2)
def DS:=re ⟨43,⟨[(0,.dat (.ptr Yq3)),kdI 1],[]⟩,[⟨[(0,.own 3 Yq1)],[]⟩],fun x=>fM x.1 x.2⟩ func43 call43 (.cl yB [] (.jn [] ⟨[(5,.own 3 Yq1),(10,.any),(11,.any)],[]⟩ [0] (.lp ⟨[(5,.own 3 Yq1),(11,.al 0),kdI 13],[]⟩ (.tw 14 .nil .nil)) .nil))

def lQ(xa:Tq7):Option (((List Int)×(List Int)×(List Int)×(List Int))) :=
 (((mk (xa.length:Int) (xa.length:Int) 0:Option (List Int)).bind fun z1=>((mk (xa.length:Int) (xa.length:Int) 0:Option (List Int)).bind fun z2=>((mk (xa.length:Int) (xa.length:Int) 0:Option (List Int)).bind fun z3=>(mk (xa.length:Int) (xa.length:Int) 0:Option (List Int)).bind fun z4=>some ((z1,z2,z3,z4))).bind fun x5=>((mk (xa.length:Int) (xa.length:Int) 0:Option (List Int)).bind fun z6=>(mk (xa.length:Int) (xa.length:Int) 0:Option (List Int)).bind fun z7=>some ((z1,z2,z7,z6))).bind fun y8=>agr x5 y8 (some x5)).bind fun x9=>(((mk (xa.length:Int) (xa.length:Int) 0:Option (List Int)).bind fun z10=>((mk (xa.length:Int) (xa.length:Int) 0:Option (List Int)).bind fun z11=>(mk (xa.length:Int) (xa.length:Int) 0:Option (List Int)).bind fun z12=>some ((z1,z11,z10,z12))).bind fun x13=>((mk (xa.length:Int) (xa.length:Int) 0:Option (List Int)).bind fun z14=>(mk (xa.length:Int) (xa.length:Int) 0:Option (List Int)).bind fun z15=>some ((z1,z15,z10,z14))).bind fun y16=>agr x13 y16 (some x13)).bind fun x17=>((mk (xa.length:Int) (xa.length:Int) 0:Option (List Int)).bind fun z18=>((mk (xa.length:Int) (xa.length:Int) 0:Option (List Int)).bind fun z19=>(mk (xa.length:Int) (xa.length:Int) 0:Option (List Int)).bind fun z20=>some ((z1,z19,z20,z18))).bind fun x21=>((mk (xa.length:Int) (xa.length:Int) 0:Option (List Int)).bind fun z22=>(mk (xa.length:Int) (xa.length:Int) 0:Option (List Int)).bind fun z23=>some ((z1,z23,z22,z18))).bind fun y24=>agr x21 y24 (some x21)).bind fun y25=>agr x17 y25 (some x17)).bind fun y26=>agr x9 y26 (some x9)).bind fun x27=>(((mk (xa.length:Int) (xa.length:Int) 0:Option (List Int)).bind fun z28=>((mk (xa.length:Int) (xa.length:Int) 0:Option (List Int)).bind fun z29=>((mk (xa.length:Int) (xa.length:Int) 0:Option (List Int)).bind fun z30=>(mk (xa.length:Int) (xa.length:Int) 0:Option (List Int)).bind fun z31=>some ((z29,z28,z30,z31))).bind fun x32=>((mk (xa.length:Int) (xa.length:Int) 0:Option (List Int)).bind fun z33=>(mk (xa.length:Int) (xa.length:Int) 0:Option (List Int)).bind fun z34=>some ((z29,z28,z34,z33))).bind fun y35=>agr x32 y35 (some x32)).bind fun x36=>(((mk (xa.length:Int) (xa.length:Int) 0:Option (List Int)).bind fun z37=>((mk (xa.length:Int) (xa.length:Int) 0:Option (List Int)).bind fun z38=>(mk (xa.length:Int) (xa.length:Int) 0:Option (List Int)).bind fun z39=>some ((z38,z28,z37,z39))).bind fun x40=>((mk (xa.length:Int) (xa.length:Int) 0:Option (List Int)).bind fun z41=>(mk (xa.length:Int) (xa.length:Int) 0:Option (List Int)).bind fun z42=>some ((z42,z28,z37,z41))).bind fun y43=>agr x40 y43 (some x40)).bind fun x44=>((mk (xa.length:Int) (xa.length:Int) 0:Option (List Int)).bind fun z45=>((mk (xa.length:Int) (xa.length:Int) 0:Option (List Int)).bind fun z46=>(mk (xa.length:Int) (xa.length:Int) 0:Option (List Int)).bind fun z47=>some ((z46,z28,z47,z45))).bind fun x48=>((mk (xa.length:Int) (xa.length:Int) 0:Option (List Int)).bind fun z49=>(mk (xa.length:Int) (xa.length:Int) 0:Option (List Int)).bind fun z50=>some ((z50,z28,z49,z45))).bind fun y51=>agr x48 y51 (some x48)).bind fun y52=>agr x44 y52 (some x44)).bind fun y53=>agr x36 y53 (some x36)).bind fun x54=>(((mk (xa.length:Int) (xa.length:Int) 0:Option (List Int)).bind fun z55=>((mk (xa.length:Int) (xa.length:Int) 0:Option (List Int)).bind fun z56=>((mk (xa.length:Int) (xa.length:Int) 0:Option (List Int)).bind fun z57=>(mk (xa.length:Int) (xa.length:Int) 0:Option (List Int)).bind fun z58=>some ((z56,z57,z55,z58))).bind fun x59=>((mk (xa.length:Int) (xa.length:Int) 0:Option (List Int)).bind fun z60=>(mk (xa.length:Int) (xa.length:Int) 0:Option (List Int)).bind fun z61=>some ((z56,z61,z55,z60))).bind fun y62=>agr x59 y62 (some x59)).bind fun x63=>(((mk (xa.length:Int) (xa.length:Int) 0:Option (List Int)).bind fun z64=>((mk (xa.length:Int) (xa.length:Int) 0:Option (List Int)).bind fun z65=>(mk (xa.length:Int) (xa.length:Int) 0:Option (List Int)).bind fun z66=>some ((z65,z64,z55,z66))).bind fun x67=>((mk (xa.length:Int) (xa.length:Int) 0:Option (List Int)).bind fun z68=>(mk (xa.length:Int) (xa.length:Int) 0:Option (List Int)).bind fun z69=>some ((z69,z64,z55,z68))).bind fun y70=>agr x67 y70 (some x67)).bind fun x71=>((mk (xa.length:Int) (xa.length:Int) 0:Option (List Int)).bind fun z72=>((mk (xa.length:Int) (xa.length:Int) 0:Option (List Int)).bind fun z73=>(mk (xa.length:Int) (xa.length:Int) 0:Option (List Int)).bind fun z74=>some ((z73,z74,z55,z72))).bind fun x75=>((mk (xa.length:Int) (xa.length:Int) 0:Option (List Int)).bind fun z76=>(mk (xa.length:Int) (xa.length:Int) 0:Option (List Int)).bind fun z77=>some ((z77,z76,z55,z72))).bind fun y78=>agr x75 y78 (some x75)).bind fun y79=>agr x71 y79 (some x71)).bind fun y80=>agr x63 y80 (some x63)).bind fun x81=>((mk (xa.length:Int) (xa.length:Int) 0:Option (List Int)).bind fun z82=>((mk (xa.length:Int) (xa.length:Int) 0:Option (List Int)).bind fun z83=>((mk (xa.length:Int) (xa.length:Int) 0:Option (List Int)).bind fun z84=>(mk (xa.length:Int) (xa.length:Int) 0:Option (List Int)).bind fun z85=>some ((z83,z84,z85,z82))).bind fun x86=>((mk (xa.length:Int) (xa.length:Int) 0:Option (List Int)).bind fun z87=>(mk (xa.length:Int) (xa.length:Int) 0:Option (List Int)).bind fun z88=>some ((z83,z88,z87,z82))).bind fun y89=>agr x86 y89 (some x86)).bind fun x90=>(((mk (xa.length:Int) (xa.length:Int) 0:Option (List Int)).bind fun z91=>((mk (xa.length:Int) (xa.length:Int) 0:Option (List Int)).bind fun z92=>(mk (xa.length:Int) (xa.length:Int) 0:Option (List Int)).bind fun z93=>some ((z92,z91,z93,z82))).bind fun x94=>((mk (xa.length:Int) (xa.length:Int) 0:Option (List Int)).bind fun z95=>(mk (xa.length:Int) (xa.length:Int) 0:Option (List Int)).bind fun z96=>some ((z96,z91,z95,z82))).bind fun y97=>agr x94 y97 (some x94)).bind fun x98=>((mk (xa.length:Int) (xa.length:Int) 0:Option (List Int)).bind fun z99=>((mk (xa.length:Int) (xa.length:Int) 0:Option (List Int)).bind fun z100=>(mk (xa.length:Int) (xa.length:Int) 0:Option (List Int)).bind fun z101=>some ((z100,z101,z99,z82))).bind fun x102=>((mk (xa.length:Int) (xa.length:Int) 0:Option (List Int)).bind fun z103=>(mk (xa.length:Int) (xa.length:Int) 0:Option (List Int)).bind fun z104=>some ((z104,z103,z99,z82))).bind fun y105=>agr x102 y105 (some x102)).bind fun y106=>agr x98 y106 (some x98)).bind fun y107=>agr x90 y107 (some x90)).bind fun y108=>agr x81 y108 (some x81)).bind fun y109=>agr x54 y109 (some x54)).bind fun y110=>agr x27 y110 (some x27):Option (((List Int)×(List Int)×(List Int)×(List Int)))).bind fun (l111,l112,l113,l114)=>some ((l111,l112,l113,l114))
def NK:=re ⟨44,⟨[(0,.is 0 (.dat (.sl (.sl Yq1))))],[bkM]⟩,[⟨[(0,.ptr 0 0)],[bkN 95 [.is 1 (.any),.own 3 Yq1,.own 3 Yq1,.own 3 Yq1,.own 3 Yq1,.lit (.int .i64 0),.nils,.nils,.nils],bkU 0]⟩],fun x=>lQ x⟩ func44 call44 (.tr (.still [0,1,3,5,7] (.alt 2 (.alt 4 (.alt 6 (.alt 8 (.still [9] (.alt 10 (.leaf [11]) .done)) .done) (.alt 8 (.alt 6 (.still [9] (.alt 10 (.leaf [11]) .done)) .done) .done)) (.alt 6 (.alt 4 (.alt 8 (.still [9] (.alt 10 (.leaf [11]) .done)) .done) (.alt 8 (.alt 4 (.still [9] (.alt 10 (.leaf [11]) .done)) .done) .done)) (.alt 8 (.alt 4 (.alt 6 (.still [9] (.alt 10 (.leaf [11]) .done)) .done) (.alt 6 (.alt 4 (.still [9] (.alt 10 (.leaf [11]) .done)) .done) .done)) .done))) (.alt 4 (.alt 2 (.alt 6 (.alt 8 (.still [9] (.alt 10 (.leaf [11]) .done)) .done) (.alt 8 (.alt 6 (.still [9] (.alt 10 (.leaf [11]) .done)) .done) .done)) (.alt 6 (.alt 2 (.alt 8 (.still [9] (.alt 10 (.leaf [11]) .done)) .done) (.alt 8 (.alt 2 (.still [9] (.alt 10 (.leaf [11]) .done)) .done) .done)) (.alt 8 (.alt 2 (.alt 6 (.still [9] (.alt 10 (.leaf [11]) .done)) .done) (.alt 6 (.alt 2 (.still [9] (.alt 10 (.leaf [11]) .done)) .done) .done)) .done))) (.alt 6 (.alt 2 (.alt 4 (.alt 8 (.still [9] (.alt 10 (.leaf [11]) .done)) .done) (.alt 8 (.alt 4 (.still [9] (.alt 10 (.leaf [11]) .done)) .done) .done)) (.alt 4 (.alt 2 (.alt 8 (.still [9] (.alt 10 (.leaf [11]) .done)) .done) (.alt 8 (.alt 2 (.still [9] (.alt 10 (.leaf [11]) .done)) .done) .done)) (.alt 8 (.alt 2 (.alt 4 (.still [9] (.alt 10 (.leaf [11]) .done)) .done) (.alt 4 (.alt 2 (.still [9] (.alt 10 (.leaf [11]) .done)) .done) .done)) .done))) (.alt 8 (.alt 2 (.alt 4 (.alt 6 (.still [9] (.alt 10 (.leaf [11]) .done)) .done) (.alt 6 (.alt 4 (.still [9] (.alt 10 (.leaf [11]) .done)) .done) .done)) (.alt 4 (.alt 2 (.alt 6 (.still [9] (.alt 10 (.leaf [11]) .done)) .done) (.alt 6 (.alt 2 (.still [9] (.alt 10 (.leaf [11]) .done)) .done) .done)) (.alt 6 (.alt 2 (.alt 4 (.still [9] (.alt 10 (.leaf [11]) .done)) .done) (.alt 4 (.alt 2 (.still [9] (.alt 10 (.leaf [11]) .done)) .done) .done)) .done))) .done))))) ⟨[(2,.ptr 0 0)],[bkN 95 [.is 1 (.any),.own 3 Yq1,.own 3 Yq1,.own 3 Yq1,.own 3 Yq1,.lit (.int .i64 0),.nils,.nils,.nils],bkU 0]⟩ [] (.two 0 (.two 0 (.two 0 .nil .nil) (.two 0 (.two 0 .nil .nil) (.two 0 .nil .nil))) (.two 0 (.two 0 (.two 0 .nil .nil) (.two 0 (.two 0 .nil .nil) (.two 0 .nil .nil))) (.two 0 (.two 0 (.two 0 .nil .nil) (.two 0 (.two 0 .nil .nil) (.two 0 .nil .nil))) (.two 0 (.two 0 .nil .nil) (.two 0 (.two 0 .nil .nil) (.two 0 .nil .nil)))))) .nil)

def gZ(xa:s9):Option Int :=
 some (xa.2.2.2.2.2.2.1.length:Int)
def xQ:=re ⟨119,⟨[(0,.kat sO 6)],[]⟩,[⟨[kdI 0],[]⟩],fun x=>gZ x⟩ func119 call119 .nil

def de(xa:s9):Option (Int×Bool) :=
 (gZ xa).bind fun i88=>cond (decide (i88=0)) (some ((0,false))) ((gZ xa).bind fun i1=>(aa xa.2.2.2.2.2.2.1 (M0 .i64 (i1-1))).bind fun x2=>some ((x2,true)))
def xH:=re ⟨81,⟨[(0,.kat sO 6)],[]⟩,[⟨[(0,.tup [.dat Yq1,.dat .bool])],[]⟩],fun x=>de x⟩ func81 call81 (.cl xQ [] (.tw 7 .nil (.mix [([0,1,2,3,4],5)] [6,7,8,9,10] [] [] (.cl xQ [] .nil))))

def Et(qa0:Tq7)(qa1:(List Int))(qa2:(List Int))(qa3:(List Int))(qa4:(List Int))(qa5:Int)(qa6:(List Int))(qa7:(List Int)):Option ((Int×Bool×(List Int)×(List Int)×(List Int)×(List Int)×(List Int)×(List Int))) :=
 (de (qa0,qa1,qa2,qa3,qa4,qa5,qa6,qa7,[])).bind fun (i56,t57)=>cond (t57) ((gZ (qa0,qa1,qa2,qa3,qa4,qa5,qa6,qa7,[])).bind fun i65=>(subL qa6 (M0 .i64 (i65-1)) (qa6.length:Int)).bind fun _=>(some (cpy qa6 (M0 .i64 (i65-1):Int).toNat (Z2 (((qa6.length:Int):Int).toNat-(M0 .i64 (i65-1):Int).toNat) 0))).bind fun z69=>(subL z69 0 (M0 .i64 (i65-1))).bind fun y71=>some ((i56,t57,qa1,qa2,qa3,qa4,y71,qa7))) (some ((i56,t57,qa1,qa2,qa3,qa4,qa6,qa7)))
def gY(xa:s9):Option Int :=
 some (xa.2.2.2.2.2.2.2.1.length:Int)
def xI:=re ⟨119,⟨[(0,.kat sO 7)],[]⟩,[⟨[kdI 0],[]⟩],fun x=>gY x⟩ func119 call119 .nil

def k9(xa:s9):Option (Int×Bool) :=
 (gY xa).bind fun i88=>cond (decide (i88=0)) (some ((0,false))) ((gY xa).bind fun i1=>(aa xa.2.2.2.2.2.2.2.1 (M0 .i64 (i1-1))).bind fun x2=>some ((x2,true)))
def Qa:=re ⟨81,⟨[(0,.kat sO 7)],[]⟩,[⟨[(0,.tup [.dat Yq1,.dat .bool])],[]⟩],fun x=>k9 x⟩ func81 call81 (.cl xI [] (.tw 7 .nil (.mix [([0,1,2,3,4],5)] [6,7,8,9,10] [] [] (.cl xI [] .nil))))

def Eu(qa0:Tq7)(qa1:(List Int))(qa2:(List Int))(qa3:(List Int))(qa4:(List Int))(qa5:Int)(qa6:(List Int))(qa7:(List Int)):Option ((Int×Bool×(List Int)×(List Int)×(List Int)×(List Int)×(List Int)×(List Int))) :=
 (k9 (qa0,qa1,qa2,qa3,qa4,qa5,qa6,qa7,[])).bind fun (i56,t57)=>cond (t57) ((gY (qa0,qa1,qa2,qa3,qa4,qa5,qa6,qa7,[])).bind fun i65=>(subL qa7 (M0 .i64 (i65-1)) (qa7.length:Int)).bind fun _=>(some (cpy qa7 (M0 .i64 (i65-1):Int).toNat (Z2 (((qa7.length:Int):Int).toNat-(M0 .i64 (i65-1):Int).toNat) 0))).bind fun z69=>(subL z69 0 (M0 .i64 (i65-1))).bind fun y71=>some ((i56,t57,qa1,qa2,qa3,qa4,qa6,y71))) (some ((i56,t57,qa1,qa2,qa3,qa4,qa6,qa7)))
def Ew(xb:Int)(qa0:Tq7)(qa5:Int):ya->Option (ya⊕ya):=fun (l1,l2,l3,l4,l6,l7,l8)=>(aa l6 xb).bind fun x9=>cond (decide (x9=0)) ((Eu qa0 l2 l3 l4 l6 qa5 l7 l8).bind fun (i10,t11,l12,l13,l14,l15,l16,l17)=>(aa l15 i10).bind fun x18=>(some (l15.set i10.toNat 1)).bind fun z19=>(app l1 ([i10]:List Int)).bind fun z20=>some (.inl (z20,l12,l13,l14,z19,l16,l17))) (some (.inr (((l1,l2,l3,l4,l6,l7,l8)))))
def ED(xb:Int)(qa0:Tq7)(qa1:(List Int))(qa2:(List Int))(qa3:(List Int))(qa4:(List Int))(qa5:Int)(qa6:(List Int))(qa7:(List Int)):Option (cO) :=
 (loop (Ew xb qa0 qa5) ([],qa1,qa2,qa3,qa4,qa6,qa7)).bind fun (l8,l9,l10,l11,l12,l13,l14)=>(srt l8).bind fun l15=>(app ([]:List (List Int)) (([l15]:List (List Int)):List (List Int))).bind fun z16=>some ((l9,l10,l11,l12,l13,l14,z16))
def fn_scc_finder_leave_p0i_krrrrirrn(xb:Int)(qa0:Tq7)(qa1:(List Int))(qa2:(List Int))(qa3:(List Int))(qa4:(List Int))(qa5:Int)(qa6:(List Int))(qa7:(List Int)):Option (cO) :=
 (Et qa0 qa1 qa2 qa3 qa4 qa5 qa6 qa7).bind fun (i8,t9,l10,l11,l12,l13,l14,l15)=>((aa l12 xb).bind fun x16=>(aa l11 xb).bind fun x17=>cond (decide (x16=x17)) ((ED xb qa0 l10 l11 l12 l13 qa5 l14 l15).bind fun (l18,l19,l20,l21,l22,l23,l24)=>some ((l18,l19,l20,l21,l22,l23,l24))) (some ((l10,l11,l12,l13,l14,l15,[]))):Option (cO)).bind fun (l25,l26,l27,l28,l29,l30,l31)=>(de (qa0,l25,l26,l27,l28,qa5,l29,l30,l31)).bind fun (i32,t33)=>cond (t33) ((aa l27 i32).bind fun x34=>(aa l27 xb).bind fun x35=>(aa l27 i32).bind fun x36=>(some (l27.set i32.toNat (if x35<x34 then x35 else x34))).bind fun z37=>some ((l25,l26,z37,l28,l29,l30,l31))) (some ((l25,l26,l27,l28,l29,l30,l31)))
def tz(xb:(List Int))(qa0:Tq7)(qa1:(List Int))(qa2:(List Int))(qa3:(List Int))(qa4:(List Int))(qa5:Int)(qa6:(List Int))(qa7:(List Int))(qa8:Tq7):Option (cO) :=
 (app qa6 xb).bind fun z51=>some ((qa1,qa2,qa3,qa4,z51,qa7,qa8))
def PM:=re ⟨118,⟨[(0,.ptr 0 6),(1,.dat (.sl Yq1))],[bkN 95 [.is 1 (.dat (.sl (.sl Yq1))),.own 3 Yq1,.own 3 Yq1,.own 3 Yq1,.own 3 Yq1,.is 2 (.dat Yq1),.own 3 Yq1,.own 3 Yq1,.od (.row 40 (.row 3 (.dat Yq1)))],bkM,bkM]⟩,[⟨[],[bkC 0 95 [.is 1 (.any),.own 3 Yq1,.own 3 Yq1,.own 3 Yq1,.own 3 Yq1,.is 2 (.any),.own 3 Yq1,.own 3 Yq1,.od (.row 40 (.row 3 (.dat Yq1)))],bkU 1,bkU 2]⟩],fun x=>tz x.1 x.2.1 x.2.2.1 x.2.2.2.1 x.2.2.2.2.1 x.2.2.2.2.2.1 x.2.2.2.2.2.2.1 x.2.2.2.2.2.2.2.1 x.2.2.2.2.2.2.2.2.1 x.2.2.2.2.2.2.2.2.2⟩ func118 call118 .nil

def tA(xb:(List Int))(qa0:Tq7)(qa1:(List Int))(qa2:(List Int))(qa3:(List Int))(qa4:(List Int))(qa5:Int)(qa6:(List Int))(qa7:(List Int))(qa8:Tq7):Option (cO) :=
 (app qa7 xb).bind fun z51=>some ((qa1,qa2,qa3,qa4,qa6,z51,qa8))
def P3:=re ⟨118,⟨[(0,.ptr 0 7),(1,.dat (.sl Yq1))],[bkN 95 [.is 1 (.dat (.sl (.sl Yq1))),.own 3 Yq1,.own 3 Yq1,.own 3 Yq1,.own 3 Yq1,.is 2 (.dat Yq1),.own 3 Yq1,.own 3 Yq1,.od (.row 40 (.row 3 (.dat Yq1)))],bkM,bkM]⟩,[⟨[],[bkC 0 95 [.is 1 (.any),.own 3 Yq1,.own 3 Yq1,.own 3 Yq1,.own 3 Yq1,.is 2 (.any),.own 3 Yq1,.own 3 Yq1,.od (.row 40 (.row 3 (.dat Yq1)))],bkU 1,bkU 2]⟩],fun x=>tA x.1 x.2.1 x.2.2.1 x.2.2.2.1 x.2.2.2.2.1 x.2.2.2.2.2.1 x.2.2.2.2.2.2.1 x.2.2.2.2.2.2.2.1 x.2.2.2.2.2.2.2.2.1 x.2.2.2.2.2.2.2.2.2⟩ func118 call118 .nil

def iX(xb:Int)(qa0:Tq7)(qa1:(List Int))(qa2:(List Int))(qa3:(List Int))(qa4:(List Int))(qa5:Int)(qa6:(List Int))(qa7:(List Int))(qa8:Tq7):Option (Tq9) :=
 (aa qa2 xb).bind fun x9=>(some (qa2.set xb.toNat (M0 .i64 (qa5+1)))).bind fun z10=>(aa qa3 xb).bind fun x11=>(some (qa3.set xb.toNat (M0 .i64 (qa5+1)))).bind fun z12=>(tz ([xb]:List Int) qa0 qa1 z10 z12 qa4 (M0 .i64 (qa5+1)) qa6 qa7 qa8).bind fun (l13,l14,l15,l16,l17,l18,l19)=>(tA ([xb]:List Int) qa0 l13 l14 l15 l16 (M0 .i64 (qa5+1)) l17 l18 l19).bind fun (l20,l21,l22,l23,l24,l25,l26)=>some ((l20,l21,l22,l23,M0 .i64 (qa5+1),l24,l25,l26))
def Dr:=re ⟨80,⟨[(0,.ptr 0 0),kdI 1],[bkN 95 [.is 1 (.dat (.sl (.sl Yq1))),.own 3 Yq1,.own 3 Yq1,.own 3 Yq1,.own 3 Yq1,.dat Yq1,.own 3 Yq1,.own 3 Yq1,.od (.row 40 (.row 3 (.dat Yq1)))],bkM]⟩,[⟨[],[bkC 0 95 [.is 1 (.any),.own 3 Yq1,.own 3 Yq1,.own 3 Yq1,.own 3 Yq1,.dat Yq1,.own 3 Yq1,.own 3 Yq1,.od (.row 40 (.row 3 (.dat Yq1)))],bkU 1]⟩],fun x=>iX x.1 x.2.1 x.2.2.1 x.2.2.2.1 x.2.2.2.2.1 x.2.2.2.2.2.1 x.2.2.2.2.2.2.1 x.2.2.2.2.2.2.2.1 x.2.2.2.2.2.2.2.2.1 x.2.2.2.2.2.2.2.2.2⟩ func80 call80 (.mix [([0,1,2,3,4,5,6,7,8,9,10,11,12,13,14,15,16,17,18],19)] [20] [21] [4] (.wt 1000022 (.mc 0 5 17 (.cl PM [20] (.cl P3 [53] .nil)))))

def nS(qa0:Tq7)(qa1:(List Int))(qa2:(List Int))(qa3:(List Int))(qa4:(List Int))(qa5:Int)(qa6:(List Int))(qa7:(List Int))(qa8:Tq7):Option ((Int×Bool×(List Int)×(List Int)×(List Int)×(List Int)×(List Int)×(List Int)×Tq7)) :=
 (de (qa0,qa1,qa2,qa3,qa4,qa5,qa6,qa7,qa8)).bind fun (i85,t86)=>cond (t86) ((gZ (qa0,qa1,qa2,qa3,qa4,qa5,qa6,qa7,qa8)).bind fun i99=>(subL qa6 (M0 .i64 (i99-1)) (qa6.length:Int)).bind fun _=>(some (cpy qa6 (M0 .i64 (i99-1):Int).toNat (Z2 (((qa6.length:Int):Int).toNat-(M0 .i64 (i99-1):Int).toNat) 0))).bind fun z9=>(subL z9 0 (M0 .i64 (i99-1))).bind fun y10=>some ((i85,t86,qa1,qa2,qa3,qa4,y10,qa7,qa8))) (some ((i85,t86,qa1,qa2,qa3,qa4,qa6,qa7,qa8)))
def Qx:=re ⟨120,⟨[(0,.ptr 0 6)],[bkN 95 [.is 1 (.dat (.sl (.sl Yq1))),.own 3 Yq1,.own 3 Yq1,.own 3 Yq1,.own 3 Yq1,.is 2 (.dat Yq1),.own 3 Yq1,.own 3 Yq1,.od (.row 40 (.row 3 (.dat Yq1)))],bkM,bkM]⟩,[⟨[(0,.tup [.dat Yq1,.dat .bool])],[bkC 0 95 [.is 1 (.any),.own 3 Yq1,.own 3 Yq1,.own 3 Yq1,.own 3 Yq1,.is 2 (.any),.own 3 Yq1,.own 3 Yq1,.od (.row 40 (.row 3 (.dat Yq1)))],bkU 1,bkU 2]⟩],fun x=>nS x.1 x.2.1 x.2.2.1 x.2.2.2.1 x.2.2.2.2.1 x.2.2.2.2.2.1 x.2.2.2.2.2.2.1 x.2.2.2.2.2.2.2.1 x.2.2.2.2.2.2.2.2⟩ func120 call120 (.cl xH [3,5,7,9,11,13,15,0] (.tw 12 (.cl xQ [3,5,7,9,11,13,15,0] (.tru  .nil)) .nil))

def nT(qa0:Tq7)(qa1:(List Int))(qa2:(List Int))(qa3:(List Int))(qa4:(List Int))(qa5:Int)(qa6:(List Int))(qa7:(List Int))(qa8:Tq7):Option ((Int×Bool×(List Int)×(List Int)×(List Int)×(List Int)×(List Int)×(List Int)×Tq7)) :=
 (k9 (qa0,qa1,qa2,qa3,qa4,qa5,qa6,qa7,qa8)).bind fun (i85,t86)=>cond (t86) ((gY (qa0,qa1,qa2,qa3,qa4,qa5,qa6,qa7,qa8)).bind fun i99=>(subL qa7 (M0 .i64 (i99-1)) (qa7.length:Int)).bind fun _=>(some (cpy qa7 (M0 .i64 (i99-1):Int).toNat (Z2 (((qa7.length:Int):Int).toNat-(M0 .i64 (i99-1):Int).toNat) 0))).bind fun z9=>(subL z9 0 (M0 .i64 (i99-1))).bind fun y10=>some ((i85,t86,qa1,qa2,qa3,qa4,qa6,y10,qa8))) (some ((i85,t86,qa1,qa2,qa3,qa4,qa6,qa7,qa8)))
def NS:=re ⟨120,⟨[(0,.ptr 0 7)],[bkN 95 [.is 1 (.dat (.sl (.sl Yq1))),.own 3 Yq1,.own 3 Yq1,.own 3 Yq1,.own 3 Yq1,.is 2 (.dat Yq1),.own 3 Yq1,.own 3 Yq1,.od (.row 40 (.row 3 (.dat Yq1)))],bkM,bkM]⟩,[⟨[(0,.tup [.dat Yq1,.dat .bool])],[bkC 0 95 [.is 1 (.any),.own 3 Yq1,.own 3 Yq1,.own 3 Yq1,.own 3 Yq1,.is 2 (.any),.own 3 Yq1,.own 3 Yq1,.od (.row 40 (.row 3 (.dat Yq1)))],bkU 1,bkU 2]⟩],fun x=>nT x.1 x.2.1 x.2.2.1 x.2.2.2.1 x.2.2.2.2.1 x.2.2.2.2.2.1 x.2.2.2.2.2.2.1 x.2.2.2.2.2.2.2.1 x.2.2.2.2.2.2.2.2⟩ func120 call120 (.cl Qa [3,5,7,9,11,13,15,0] (.tw 12 (.cl xI [3,5,7,9,11,13,15,0] (.tru  .nil)) .nil))
def nU(xb:Int)(qa0:Tq7)(qa5:Int):xS->Option (xS⊕xS):=fun (l1,l2,l3,l4,l6,l7,l8,l9)=>(aa l6 xb).bind fun x10=>cond (decide (x10=0)) ((nT qa0 l2 l3 l4 l6 qa5 l7 l8 l9).bind fun (i11,t12,l13,l14,l15,l16,l17,l18,l19)=>(aa l16 i11).bind fun x20=>(some (l16.set i11.toNat 1)).bind fun z21=>(app l1 ([i11]:List Int)).bind fun z22=>some (.inl (z22,l13,l14,l15,z21,l17,l18,l19))) (some (.inr (((l1,l2,l3,l4,l6,l7,l8,l9)))))
def nW(xb:Int)(qa0:Tq7)(qa1:(List Int))(qa2:(List Int))(qa3:(List Int))(qa4:(List Int))(qa5:Int)(qa6:(List Int))(qa7:(List Int))(qa8:Tq7):Option (cO) :=
 (loop (nU xb qa0 qa5) ([],qa1,qa2,qa3,qa4,qa6,qa7,qa8)).bind fun (l9,l10,l11,l12,l13,l14,l15,l16)=>(srt l9).bind fun l17=>(app (l16:List (List Int)) (([l17]:List (List Int)):List (List Int))).bind fun z18=>some ((l10,l11,l12,l13,l14,l15,z18))
def MJ:=re ⟨121,⟨[(0,.ptr 0 0),kdI 1],[bkN 95 [.is 1 (.dat (.sl (.sl Yq1))),.own 3 Yq1,.own 3 Yq1,.own 3 Yq1,.own 3 Yq1,.is 2 (.dat Yq1),.own 3 Yq1,.own 3 Yq1,.od (.row 40 (.row 3 (.dat Yq1)))],bkM,bkM]⟩,[⟨[],[bkC 0 95 [.is 1 (.any),.own 3 Yq1,.own 3 Yq1,.own 3 Yq1,.own 3 Yq1,.is 2 (.any),.own 3 Yq1,.own 3 Yq1,.od (.row 40 (.row 3 (.dat Yq1)))],bkU 1,bkU 2]⟩],fun x=>nW x.1 x.2.1 x.2.2.1 x.2.2.2.1 x.2.2.2.2.1 x.2.2.2.2.2.1 x.2.2.2.2.2.2.1 x.2.2.2.2.2.2.2.1 x.2.2.2.2.2.2.2.2.1 x.2.2.2.2.2.2.2.2.2⟩ func121 call121 (.jn [] ⟨[(4,.own 3 Yq1)],[bkC 0 95 [.is 1 (.any),.own 3 Yq1,.own 3 Yq1,.own 3 Yq1,.own 3 Yq1,.is 2 (.any),.own 3 Yq1,.own 3 Yq1,.od (.row 40 (.row 3 (.dat Yq1)))],bkU 1,bkU 2]⟩ [13,11,9,7,5,3,0,15] (.lp ⟨[(4,.own 3 Yq1)],[bkC 0 95 [.is 1 (.any),.own 3 Yq1,.own 3 Yq1,.own 3 Yq1,.own 3 Yq1,.is 2 (.any),.own 3 Yq1,.own 3 Yq1,.od (.row 40 (.row 3 (.dat Yq1)))],bkU 1,bkU 2]⟩ (.tw 14 (.cl NS [] .nil) .nil)) (.cl iE [] (.ot (.row 3 (.dat Yq1)) (.ot (.row 3 (.dat Yq1)) .nil))))

def kW(xb:Int)(qa0:Tq7)(qa1:(List Int))(qa2:(List Int))(qa3:(List Int))(qa4:(List Int))(qa5:Int)(qa6:(List Int))(qa7:(List Int))(qa8:Tq7):Option (cO) :=
 (nS qa0 qa1 qa2 qa3 qa4 qa5 qa6 qa7 qa8).bind fun (i9,t10,l11,l12,l13,l14,l15,l16,l17)=>((aa l13 xb).bind fun x18=>(aa l12 xb).bind fun x19=>cond (decide (x18=x19)) ((nW xb qa0 l11 l12 l13 l14 qa5 l15 l16 l17).bind fun (l20,l21,l22,l23,l24,l25,l26)=>some ((l20,l21,l22,l23,l24,l25,l26))) (some ((l11,l12,l13,l14,l15,l16,l17))):Option (cO)).bind fun (l27,l28,l29,l30,l31,l32,l33)=>(de (qa0,l27,l28,l29,l30,qa5,l31,l32,l33)).bind fun (i34,t35)=>cond (t35) ((aa l29 i34).bind fun x36=>(aa l29 xb).bind fun x37=>(aa l29 i34).bind fun x38=>(some (l29.set i34.toNat (if x37<x36 then x37 else x36))).bind fun z39=>some ((l27,l28,z39,l30,l31,l32,l33))) (some ((l27,l28,l29,l30,l31,l32,l33)))
def Pr:=re ⟨82,⟨[(0,.ptr 0 0),kdI 1],[bkN 95 [.is 1 (.dat (.sl (.sl Yq1))),.own 3 Yq1,.own 3 Yq1,.own 3 Yq1,.own 3 Yq1,.is 2 (.dat Yq1),.own 3 Yq1,.own 3 Yq1,.od (.row 40 (.row 3 (.dat Yq1)))],bkM,bkM]⟩,[⟨[],[bkC 0 95 [.is 1 (.any),.own 3 Yq1,.own 3 Yq1,.own 3 Yq1,.own 3 Yq1,.is 2 (.any),.own 3 Yq1,.own 3 Yq1,.od (.row 40 (.row 3 (.dat Yq1)))],bkU 1,bkU 2]⟩],fun x=>kW x.1 x.2.1 x.2.2.1 x.2.2.2.1 x.2.2.2.2.1 x.2.2.2.2.2.1 x.2.2.2.2.2.2.1 x.2.2.2.2.2.2.2.1 x.2.2.2.2.2.2.2.2.1 x.2.2.2.2.2.2.2.2.2⟩ func82 call82 (.cl Qx [] (.sq [] ⟨[],[bkC 0 95 [.is 1 (.any),.own 3 Yq1,.own 3 Yq1,.own 3 Yq1,.own 3 Yq1,.is 2 (.any),.own 3 Yq1,.own 3 Yq1,.od (.row 40 (.row 3 (.dat Yq1)))],bkU 1,bkU 2]⟩ [43,41,39,37,35,33,0,45] (.mix [] [0,1,2,3,4,5,6,7,8,9,10,11,12,13,14] [] [] (.tw 24 (.cl MJ [] .nil) .nil)) (.cl xH [48,50,52,54,56,58,60,0] (.tw 35 (.mix [([0,1,2,3,4,5,6,7,8,9,10,11,12,13,14,15,16,17,18],19)] [20] [21] [] .nil) .nil))))
def Ev(qa0:Tq7)(i1:Int)(i2:Int):cO->Option (cO⊕(cO⊕(Tq9⊕Tq9))):=fun (l3,l4,l5,l6,l7,l8,l9)=>(aa l3 i2).bind fun x10=>(aa qa0 i2).bind fun x11=>cond (decide (x10<(x11.length:Int))) ((aa qa0 i2).bind fun x12=>(aa l3 i2).bind fun x13=>(aa x12 x13).bind fun x14=>(aa l3 i2).bind fun x15=>(aa l3 i2).bind fun x16=>(some (l3.set i2.toNat (M0 .i64 (x15+1)))).bind fun z17=>(aa l4 x14).bind fun x18=>cond (decide (x18=0)) ((iX x14 qa0 z17 l4 l5 l6 i1 l7 l8 l9).bind fun (l19,l20,l21,l22,i23,l24,l25,l26)=>some (.inr ((.inr (.inl (l19,l20,l21,l22,i23,l24,l25,l26)))))) ((aa l6 x14).bind fun x27=>cond (decide (x27=0)) ((aa l5 i2).bind fun x28=>(aa l4 x14).bind fun x29=>(aa l5 i2).bind fun x30=>(some (l5.set i2.toNat (if x29<x28 then x29 else x28))).bind fun z31=>some (.inl (z17,l4,z31,l6,l7,l8,l9))) (some (.inl (z17,l4,l5,l6,l7,l8,l9))))) (some (.inr ((.inl (l3,l4,l5,l6,l7,l8,l9)))))
def fn_scc_finder_walk_p0i_krrrrirrn_l2(qa0:Tq7):Tq9->Option (Tq9⊕Tq9):=fun (l1,l2,l3,l4,i5,l6,l7,l8)=>(de (qa0,l1,l2,l3,l4,i5,l6,l7,l8)).bind fun (i9,t10)=>cond (!t10) (some (.inr (((l1,l2,l3,l4,i5,l6,l7,l8))))) ((loop (Ev qa0 i5 i9) (l1,l2,l3,l4,l6,l7,l8)).bind fun o=>match o with|.inr r=>some r|.inl (l11,l12,l13,l14,l15,l16,l17)=>(kW i9 qa0 l11 l12 l13 l14 i5 l15 l16 l17).bind fun (l18,l19,l20,l21,l22,l23,l24)=>some (.inl (l18,l19,l20,l21,i5,l22,l23,l24)))
def tC(qa0:Tq7)(i1:Int)(i2:Int):cO->Option (cO⊕(cO⊕(Tq9⊕Tq9))):=fun (l3,l4,l5,l6,l7,l8,l9)=>(aa l3 i2).bind fun x10=>(aa qa0 i2).bind fun x11=>cond (decide (x10<(x11.length:Int))) ((aa qa0 i2).bind fun x12=>(aa l3 i2).bind fun x13=>(aa x12 x13).bind fun x14=>(aa l3 i2).bind fun x15=>(aa l3 i2).bind fun x16=>(some (l3.set i2.toNat (M0 .i64 (x15+1)))).bind fun z17=>(aa l4 x14).bind fun x18=>cond (decide (x18=0)) ((iX x14 qa0 z17 l4 l5 l6 i1 l7 l8 l9).bind fun (l19,l20,l21,l22,i23,l24,l25,l26)=>some (.inr ((.inr (.inl (l19,l20,l21,l22,i23,l24,l25,l26)))))) ((aa l6 x14).bind fun x27=>cond (decide (x27=0)) ((aa l5 i2).bind fun x28=>(aa l4 x14).bind fun x29=>(aa l5 i2).bind fun x30=>(some (l5.set i2.toNat (if x29<x28 then x29 else x28))).bind fun z31=>some (.inl (z17,l4,z31,l6,l7,l8,l9))) (some (.inl (z17,l4,l5,l6,l7,l8,l9))))) (some (.inr ((.inl (l3,l4,l5,l6,l7,l8,l9)))))
def tB(qa0:Tq7):Tq9->Option (Tq9⊕Tq9):=fun (l1,l2,l3,l4,i5,l6,l7,l8)=>(de (qa0,l1,l2,l3,l4,i5,l6,l7,l8)).bind fun (i9,t10)=>cond (!t10) (some (.inr (((l1,l2,l3,l4,i5,l6,l7,l8))))) ((loop (tC qa0 i5 i9) (l1,l2,l3,l4,l6,l7,l8)).bind fun o=>match o with|.inr r=>some r|.inl (l11,l12,l13,l14,l15,l16,l17)=>(kW i9 qa0 l11 l12 l13 l14 i5 l15 l16 l17).bind fun (l18,l19,l20,l21,l22,l23,l24)=>some (.inl (l18,l19,l20,l21,i5,l22,l23,l24)))
def gU(xb:Int)(qa0:Tq7)(qa1:(List Int))(qa2:(List Int))(qa3:(List Int))(qa4:(List Int))(qa5:Int)(qa6:(List Int))(qa7:(List Int))(qa8:Tq7):Option (Tq9) :=
 (iX xb qa0 qa1 qa2 qa3 qa4 qa5 qa6 qa7 qa8).bind fun (l9,l10,l11,l12,i13,l14,l15,l16)=>loop (tB qa0) (l9,l10,l11,l12,i13,l14,l15,l16)
def Qt:=re ⟨45,⟨[(0,.ptr 0 0),kdI 1],[bkN 95 [.is 1 (.dat (.sl (.sl Yq1))),.own 3 Yq1,.own 3 Yq1,.own 3 Yq1,.own 3 Yq1,.dat Yq1,.own 3 Yq1,.own 3 Yq1,.od (.row 40 (.row 3 (.dat Yq1)))],bkM]⟩,[⟨[],[bkC 0 95 [.is 1 (.any),.own 3 Yq1,.own 3 Yq1,.own 3 Yq1,.own 3 Yq1,.dat Yq1,.own 3 Yq1,.own 3 Yq1,.od (.row 40 (.row 3 (.dat Yq1)))],bkU 1]⟩],fun x=>gU x.1 x.2.1 x.2.2.1 x.2.2.2.1 x.2.2.2.2.1 x.2.2.2.2.2.1 x.2.2.2.2.2.2.1 x.2.2.2.2.2.2.2.1 x.2.2.2.2.2.2.2.2.1 x.2.2.2.2.2.2.2.2.2⟩ func45 call45 (.cl Dr [] (.lp ⟨[],[bkC 0 95 [.is 1 (.any),.own 3 Yq1,.own 3 Yq1,.own 3 Yq1,.own 3 Yq1,.dat Yq1,.own 3 Yq1,.own 3 Yq1,.od (.row 40 (.row 3 (.dat Yq1)))],bkU 1]⟩ (.cl xH [47,49,51,53,55,57,59,0] (.tw 18 .nil (.jx [(0,5)] ⟨[],[bkC 0 95 [.is 2 (.any),.own 3 Yq1,.own 3 Yq1,.own 3 Yq1,.own 3 Yq1,.is 3 (.any),.own 3 Yq1,.own 3 Yq1,.rp 1],bkO 59 (.row 40 (.row 3 (.dat Yq1))),bkU 1,bkU 62]⟩ [0,47,49,51,53,55,57,59] (.lp ⟨[],[bkC 0 95 [.is 2 (.any),.own 3 Yq1,.own 3 Yq1,.own 3 Yq1,.own 3 Yq1,.is 3 (.any),.own 3 Yq1,.own 3 Yq1,.rp 1],bkO 59 (.row 40 (.row 3 (.dat Yq1))),bkU 1,bkU 62]⟩ (.mix [] [0,1,2,3,4,5,6,7,8,9,10,11,12,13,14,15] [] [] (.tw 34 (.mix [] [0,1,2,3,4,5,6,7,8,9,10,11,12,13,14,15,16] [] [] (.tw 67 (.cl Dr [] .nil) (.tw 78 (.mix [([0,1,2,3,4,5,6,7,8,9,10,11,12,13,14,15,16,17,18],19)] [20] [21] [] .nil) .nil))) .nil))) (.cl Pr [] .nil))))))
def pt(i1:Int)(x2:(List Int)):aS->Option (aS⊕(List Int)):=fun (l3,i4)=>cond (decide (i4<(x2.length:Int))) ((aa x2 i4).bind fun x5=>(aa l3 x5).bind fun x6=>(some (l3.set x5.toNat i1)).bind fun z7=>some (.inl ((z7,M0 .i64 (i4+1))))) (some (.inr (l3)))
def pj(xb:Tq7):aS->Option (aS⊕(List Int)):=fun (l1,i2)=>cond (decide (i2<(xb.length:Int))) ((aa xb i2).bind fun x3=>(loop (pt i2 x3) (l1,0)).bind fun l4=>some (.inl ((l4,M0 .i64 (i2+1))))) (some (.inr (l1)))
def pT(xa:Int)(xb:Tq7):Option (List Int) :=
 (mk xa xa 0:Option (List Int)).bind fun z1=>(loop (pj xb) (z1,0)).bind fun l2=>some (l2)
def O7:=re ⟨83,⟨[kdI 0,(1,.dat (.sl (.sl Yq1)))],[]⟩,[⟨[(0,.own 3 Yq1)],[]⟩],fun x=>pT x.1 x.2⟩ func83 call83 (.jn [] ⟨[(5,.own 3 Yq1),(11,.any)],[]⟩ [0] (.lp ⟨[(5,.own 3 Yq1),kdI 14],[]⟩ (.tw 15 (.pl (.pl (.jn [] ⟨[(5,.own 3 Yq1)],[]⟩ [2] (.lp ⟨[(5,.own 3 Yq1),kdI 21],[]⟩ (.tw 22 .nil .nil)) .nil))) .nil)) .nil)
def oV(xb:(List Int))(i1:Int)(x2:(List Int)):((List Int)×Int×Tq7)->Option (((List Int)×Int×Tq7)⊕((List Int)×Tq7)):=fun (l3,i4,l5)=>cond (decide (i4<(x2.length:Int))) ((aa x2 i4).bind fun x6=>(aa xb i1).bind fun x7=>(aa xb x6).bind fun x8=>cond (!decide (x7=x8)) ((aa xb x6).bind fun x9=>(aa l5 x9).bind fun x10=>(aa xb x6).bind fun x11=>(aa xb x6).bind fun x12=>(aa l5 x12).bind fun _=>(az x12 x9).bind fun _=>(aa xb i1).bind fun x13=>(app x10 ([x13]:List Int)).bind fun z14=>(aa l5 x11).bind fun _=>(az x11 x9).bind fun _=>(aa xb i1).bind fun x15=>(aa l3 x15).bind fun x16=>(aa l3 x15).bind fun x17=>(some (l3.set x15.toNat (M0 .i64 (x16+1)))).bind fun z18=>some (.inl ((z18,M0 .i64 (i4+1),l5.set x9.toNat z14)))) (some (.inl ((l3,M0 .i64 (i4+1),l5))))) (some (.inr (((l3,l5)))))
def oS(xa:Tq7)(xb:(List Int)):((List Int)×Int×Tq7)->Option (((List Int)×Int×Tq7)⊕((List Int)×Tq7)):=fun (l1,i2,l3)=>cond (decide (i2<(xa.length:Int))) ((aa xa i2).bind fun x4=>(loop (oV xb i2 x4) (l1,0,l3)).bind fun (l5,l6)=>some (.inl ((l5,M0 .i64 (i2+1),l6)))) (some (.inr (((l1,l3)))))
def pD(xa:Tq7)(xb:(List Int))(xc:Int):Option ((Tq7×(List Int))) :=
 (((mk xc xc ([]):Option Tq7).bind fun z1=>(mk xc xc 0:Option (List Int)).bind fun z2=>some ((z1,z2))).bind fun x3=>((mk xc xc 0:Option (List Int)).bind fun z4=>(mk xc xc ([]):Option Tq7).bind fun z5=>some ((z5,z4))).bind fun y6=>agr x3 y6 (some x3):Option ((Tq7×(List Int)))).bind fun (l7,l8)=>(loop (oS xa xb) (l8,0,l7)).bind fun (l9,l10)=>some ((l10,l9))
def NJ:=re ⟨84,⟨[(0,.dat (.sl (.sl Yq1))),(1,.dat (.sl Yq1)),kdI 2],[]⟩,[⟨[(0,.tup [.od (.row 40 (.row 3 (.dat Yq1))),.own 3 Yq1])],[]⟩],fun x=>pD x.1 x.2.1 x.2.2⟩ func84 call84 (.tr (.still [0,2] (.alt 1 (.still [4] (.alt 3 (.leaf [5]) .done)) (.alt 3 (.alt 1 (.leaf [4,5]) .done) .done))) ⟨[(8,.od (.row 40 (.row 3 (.dat Yq1)))),(9,.own 3 Yq1)],[]⟩ [] (.two 0 (.ot (.row 3 (.dat Yq1)) .nil) (.ot (.row 3 (.dat Yq1)) .nil)) (.jn [] ⟨[(9,.own 3 Yq1)],[bkO 0 (.row 40 (.row 3 (.dat Yq1)))]⟩ [2,0] (.lp ⟨[(9,.own 3 Yq1),kdI 20],[bkO 0 (.row 40 (.row 3 (.dat Yq1)))]⟩ (.tw 21 (.pl (.pl (.jn [] ⟨[(9,.own 3 Yq1)],[bkO 0 (.row 40 (.row 3 (.dat Yq1)))]⟩ [0,4] (.lp ⟨[(9,.own 3 Yq1),kdI 27],[bkO 0 (.row 40 (.row 3 (.dat Yq1)))]⟩ (.tw 28 (.mix [] [0,1,2,3,4,5,6,7,8] [] [] (.tw 39 (.opp [6,7,8,9] 0 49 (.mix [([0,1,2,3,4,5,6,7,8,9,10,11,12,13,14,15],16),([],17)] [18] [19] [11] (.cls 0 17 .nil))) .nil)) .nil)) .nil))) .nil)) .nil))

def eT(xa:(List Int)):Option Int :=
 some (xa.length:Int)
def su:=re ⟨86,⟨[(0,.dat (.sl Yq1))],[]⟩,[⟨[kdI 0],[]⟩],fun x=>eT x⟩ func86 call86 .nil

def ii(xa:(List Int))(xb:Int)(xc:Int):Option Bool :=
 (aa xa xb).bind fun x1=>(aa xa xc).bind fun x2=>some (decide (x1<x2))
def xB:=re ⟨233,⟨[(0,.dat (.sl Yq1)),kdI 1,kdI 2],[]⟩,[⟨[kdB 0],[]⟩],fun x=>ii x.1 x.2.1 x.2.2⟩ func233 call233 (.mix [] [0,1,2,3,4,5,6,7,8,9] [] [] .nil)

def ja(xb:Int)(xc:Int)(wxa:(List Int)):Option (List Int) :=
 ((aa wxa xc).bind fun x1=>(aa wxa xb).bind fun x2=>((aa wxa xb).bind fun x3=>(some (wxa.set xb.toNat x1)).bind fun z4=>(aa z4 xc).bind fun x5=>(some (z4.set xc.toNat x2)).bind fun z6=>some (z6)).bind fun x7=>((aa wxa xb).bind fun x8=>(some (wxa.set xb.toNat x1)).bind fun z9=>(aa z9 xc).bind fun x10=>(some (z9.set xc.toNat x2)).bind fun z11=>some (z11)).bind fun y12=>agr x7 y12 (some x7):Option (List Int)).bind fun l13=>some (l13)
def xu:=re ⟨234,⟨[(0,.rp 0),kdI 1,kdI 2],[⟨none,0,[],false,false,some (.row 3 (.dat Yq1)),false⟩]⟩,[⟨[],[bkO 0 (.row 3 (.dat Yq1))]⟩],fun x=>ja x.1 x.2.1 x.2.2⟩ func234 call234 (.tr (.still [0,1,2,3,4,5,6,8,9,10] (.alt 7 (.alt 11 (.still [12] (.alt 13 (.still [14] (.alt 15 (.leaf []) .done)) .done)) .done) (.alt 11 (.alt 7 (.still [12] (.alt 13 (.still [14] (.alt 15 (.leaf []) .done)) .done)) .done) .done))) ⟨[(0,.any)],[bkO 0 (.row 3 (.dat Yq1))]⟩ [0] (.two 0 .nil .nil) .nil)
def tF(xc:Int):Tq8->Option (Tq8⊕Tq8):=fun (i1,l2)=>cond ((decide (xc<=(M0 .i64 ((M0 .i64 (2*i1))+1))))||(decide ((M0 .i64 ((M0 .i64 (2*i1))+1))<0))) (some (.inr (((i1,l2))))) (((cond (decide ((M0 .i64 ((M0 .i64 ((M0 .i64 (2*i1))+1))+1))<xc)) ((ii l2 (M0 .i64 ((M0 .i64 ((M0 .i64 (2*i1))+1))+1)) (M0 .i64 ((M0 .i64 (2*i1))+1))).bind fun t3=>some (t3)) (some (false))).bind fun t4=>cond (t4) (some (M0 .i64 ((M0 .i64 ((M0 .i64 (2*i1))+1))+1))) (some (M0 .i64 ((M0 .i64 (2*i1))+1))):Option Int).bind fun i5=>(ii l2 i5 i1).bind fun t6=>cond (!t6) (some (.inr (((i1,l2))))) ((ja i1 i5 l2).bind fun l7=>some (.inl (i5,l7))))
def k7(xb:Int)(xc:Int)(qa0:(List Int)):Option ((Bool×(List Int))) :=
 (loop (tF xc) (xb,qa0)).bind fun (i1,l2)=>some ((decide (xb<i1),l2))
def DK:=re ⟨122,⟨[(0,.ifc 155 (.ptr 0 0)),kdI 1,kdI 2],[bkN 153 [.own 3 Yq1]]⟩,[⟨[kdB 0],[bkC 0 153 [.own 3 Yq1]]⟩],fun x=>k7 x.1 x.2.1 x.2.2⟩ func122 call122 (.jn [] ⟨[kdI 7],[bkC 0 153 [.own 3 Yq1]]⟩ [1,0] (.lp ⟨[kdI 7],[bkC 0 153 [.own 3 Yq1]]⟩ (.wt 18 (.gp 2 (.tw 21 .nil (.pl (.sq [] ⟨[kdI 9],[]⟩ [] (.wt 28 (.gj 4 ⟨[kdB 33],[]⟩ [] (.two 28 (.cl xB [4] .nil) .nil) (.tw 33 .nil .nil))) (.cl xB [4] (.tw 39 .nil (.cl xu [] .nil))))))))) .nil)
def tJ(i1:Int):Tq8->Option (Tq8⊕(List Int)):=fun (i2,l3)=>cond (decide (0<=i2)) ((k7 i2 i1 l3).bind fun (t4,l5)=>some (.inl ((M0 .i64 (i2-1),l5)))) (some (.inr (l3)))
def n8(qa0:(List Int)):Option (List Int) :=
 (eT qa0).bind fun i1=>(loop (tJ i1) ((M0 .i64 ((M0 .i64 (bc0 i1 2))-1),qa0))).bind fun l2=>some (l2)
def Pv:=re ⟨85,⟨[(0,.ifc 155 (.ptr 0 0))],[bkN 153 [.own 3 Yq1]]⟩,[⟨[],[bkC 0 153 [.own 3 Yq1]]⟩],fun x=>n8 x⟩ func85 call85 (.cl su [1] (.jn [] ⟨[],[bkC 0 153 [.own 3 Yq1]]⟩ [1,0] (.lp ⟨[kdI 3],[bkC 0 153 [.own 3 Yq1]]⟩ (.tw 10 (.cl DK [] .nil) .nil)) .nil))

def tS(qa0:(List Int)):Option (Tq8) :=
 (aa qa0 (M0 .i64 ((qa0.length:Int)-1))).bind fun x19=>(subL qa0 0 (M0 .i64 ((qa0.length:Int)-1))).bind fun y26=>some ((x19,y26))
def Od:=re ⟨235,⟨[(0,.ptr 0 0)],[bkN 153 [.own 3 Yq1]]⟩,[⟨[(0,.ifc 3 (.dat Yq1))],[bkC 0 153 [.own 3 Yq1]]⟩],fun x=>tS x⟩ func235 call235 (.tru  .nil)

def oa(qa0:(List Int)):Option (Tq8) :=
 (eT qa0).bind fun i51=>(ja 0 (M0 .i64 (i51-1)) qa0).bind fun l57=>(k7 0 (M0 .i64 (i51-1)) l57).bind fun (t63,l64)=>(tS l64).bind fun (i75,l76)=>some ((i75,l76))
def MO:=re ⟨87,⟨[(0,.ifc 155 (.ptr 0 0))],[bkN 153 [.own 3 Yq1]]⟩,[⟨[(0,.ifc 3 (.dat Yq1))],[bkC 0 153 [.own 3 Yq1]]⟩],fun x=>oa x⟩ func87 call87 (.cl su [1] (.cl xu [] (.cl DK [] (.cl Od [] .nil))))

def tQ(qxb:Int)(qa0:(List Int)):Option (List Int) :=
 (app qa0 ([qxb]:List Int)).bind fun z18=>some (z18)
def ML:=re ⟨236,⟨[(0,.ptr 0 0),(1,.ifc 3 (.dat Yq1))],[bkN 153 [.own 3 Yq1]]⟩,[⟨[],[bkC 0 153 [.own 3 Yq1]]⟩],fun x=>tQ x.1 x.2⟩ func236 call236 .nil
def tM  : Tq8->Option (Tq8⊕(List Int)):=fun (i1,l2)=>(cond (decide ((M0 .i64 (bc0 (M0 .i64 (i1-1)) 2))=i1)) (some (true)) ((ii l2 i1 (M0 .i64 (bc0 (M0 .i64 (i1-1)) 2))).bind fun t3=>some (!t3))).bind fun t4=>cond (t4) (some (.inr (l2))) ((ja (M0 .i64 (bc0 (M0 .i64 (i1-1)) 2)) i1 l2).bind fun l5=>some (.inl ((M0 .i64 (bc0 (M0 .i64 (i1-1)) 2),l5))))
def tO(xb:Int)(qa0:(List Int)):Option (List Int) :=
 (loop (tM) (xb,qa0)).bind fun l1=>some (l1)
def QT:=re ⟨123,⟨[(0,.ifc 155 (.ptr 0 0)),kdI 1],[bkN 153 [.own 3 Yq1]]⟩,[⟨[],[bkC 0 153 [.own 3 Yq1]]⟩],fun x=>tO x.1 x.2⟩ func123 call123 (.jn [] ⟨[],[bkC 0 153 [.own 3 Yq1]]⟩ [1,0] (.lp ⟨[kdI 1],[bkC 0 153 [.own 3 Yq1]]⟩ (.wt 11 (.gj 5 ⟨[kdB 17],[]⟩ [] (.two 11 .nil (.cl xB [4] .nil)) (.tw 17 .nil (.cl xu [] .nil))))) .nil)

def n5(qxb:Int)(qa0:(List Int)):Option (List Int) :=
 (tQ qxb qa0).bind fun l40=>(eT l40).bind fun i54=>(tO (M0 .i64 (i54-1)) l40).bind fun l60=>some (l60)
def PW:=re ⟨88,⟨[(0,.ifc 155 (.ptr 0 0)),(1,.ifc 3 (.dat Yq1))],[bkN 153 [.own 3 Yq1]]⟩,[⟨[],[bkC 0 153 [.own 3 Yq1]]⟩],fun x=>n5 x.1 x.2⟩ func88 call88 (.cl ML [] (.cl su [7] (.cl QT [] .nil)))
def pe(xb:Tq7)(l1:(List Int)):Tq8->Option (Tq8⊕(List Int)):=fun (i2,l3)=>cond (decide (i2<(xb.length:Int))) ((aa xb i2).bind fun x4=>(aa l1 i2).bind fun x5=>cond (decide (x5=0)) ((aa x4 0).bind fun x6=>(app l3 ([x6]:List Int)).bind fun z7=>some (.inl ((M0 .i64 (i2+1),z7)))) (some (.inl ((M0 .i64 (i2+1),l3))))) (some (.inr (l3)))
def lU(l1:Tq7)(x2:(List Int)):Tq8->Option (Tq8⊕(List Int)):=fun (i3,l4)=>cond (decide (i3<(x2.length:Int))) ((aa x2 i3).bind fun x5=>(aa l4 x5).bind fun x6=>(some (l4.set x5.toNat (l1.length:Int))).bind fun z7=>some (.inl ((M0 .i64 (i3+1),z7)))) (some (.inr (l4)))
def oZ(xb:Tq7)(x1:(List Int)):kE->Option (kE⊕dQ):=fun (l2,i3,l4)=>cond (decide (i3<(x1.length:Int))) ((aa x1 i3).bind fun x5=>(aa l2 x5).bind fun x6=>(aa l2 x5).bind fun x7=>(some (l2.set x5.toNat (M0 .i64 (x6-1)))).bind fun z8=>(aa z8 x5).bind fun x9=>cond (decide (x9=0)) ((aa xb x5).bind fun x10=>(aa x10 0).bind fun x11=>(n5 x11 l4).bind fun l12=>some (.inl ((z8,M0 .i64 (i3+1),l12)))) (some (.inl ((z8,M0 .i64 (i3+1),l4))))) (some (.inr (((l2,l4)))))
def ug(xb:Tq7)(l1:(List Int))(l2:Tq7):((List Int)×(List Int)×(List Int)×Tq7)->Option (((List Int)×(List Int)×(List Int)×Tq7)⊕((List Int)×Tq7)):=fun (l3,l4,l5,l6)=>(eT l4).bind fun i7=>cond (decide (0<i7)) ((oa l4).bind fun (i8,l9)=>(aa l1 i8).bind fun x10=>(aa xb x10).bind fun x11=>(loop (lU l6 x11) (0,l5)).bind fun l12=>(aa xb x10).bind fun x13=>(app l6 (([x13]:List (List Int)))).bind fun z14=>(aa l2 x10).bind fun x15=>(loop (oZ xb x15) (l3,0,l9)).bind fun (l16,l17)=>some (.inl (l16,l17,l12,z14))) (some (.inr (((l5,l6)))))
def mB(xa:Tq7)(xb:Tq7):Option (ca) :=
 (pT (xa.length:Int) xb).bind fun l1=>(pD xa l1 (xb.length:Int)).bind fun (l2,l3)=>(loop (pe xb l3) (0,[])).bind fun l4=>(n8 l4).bind fun l5=>(mk (xa.length:Int) (xa.length:Int) 0:Option (List Int)).bind fun z6=>(loop (ug xb l1 l2) (l3,l5,z6,[])).bind fun (l7,l8)=>some ((some (l7,l8)))
def Nw:=re ⟨46,⟨[(0,.dat (.sl (.sl Yq1))),(1,.dat (.sl (.sl Yq1)))],[]⟩,[⟨[(0,.dat dw)],[]⟩],fun x=>mB x.1 x.2⟩ func46 call46 (.cl O7 [] (.per 0 1 (.cl NJ [] (.per 2 3 (.jn [] ⟨[],[bkC 6 153 [.own 3 Yq1]]⟩ [6] (.lp ⟨[kdI 33],[bkC 6 153 [.own 3 Yq1]]⟩ (.tw 34 (.tw 42 (.mix [([0,1,2,3],4)] [] [5,6] [] .nil) .nil) .nil)) (.cl Pv [] (.jn [] ⟨[(7,.any),(54,.any),(55,.any)],[bkC 19 111 [.own 3 Yq1,.own 40 (.sl Yq1)]]⟩ [19,17,14,6,4] (.lp ⟨[(7,.own 3 Yq1)],[bkC 6 153 [.own 3 Yq1],bkC 19 111 [.own 3 Yq1,.own 40 (.sl Yq1)]]⟩ (.cl su [23] (.tw 59 (.cl MO [] (.jn [(19,1)] ⟨[],[bkC 19 111 [.own 3 Yq1,.is 1 (.any)],bkU 37]⟩ [19,26] (.lp ⟨[kdI 75],[bkC 19 111 [.own 3 Yq1,.is 1 (.any)],bkU 37]⟩ (.tw 76 (.mix [] [0,1,2,3,4,5,6,7,8,9,10] [11] [] .nil) .nil)) (.mix [([0,1,2,3,4,5,6,7,8],9),([],10)] [11,12] [13] [28] (.jn [] ⟨[(7,.own 3 Yq1)],[bkC 6 153 [.own 3 Yq1]]⟩ [6,21,34] (.lp ⟨[(7,.own 3 Yq1),kdI 109],[bkC 6 153 [.own 3 Yq1]]⟩ (.tw 110 (.tw 123 (.cl PW [] .nil) .nil) .nil)) .nil)))) .nil))) (.per 21 22 (.per 23 24 (.perb 19 25 (.cons (.sl Yq1) (.one (.sl (.sl Yq1)))) .nil))))))))))
def uh(xa:aZ)(z1:List (List Int)):(Int×Tq7)->Option ((Int×Tq7)⊕Tq7):=fun (i2,l3)=>cond (decide (i2<(z1.length:Int))) ((aa l3 i2).bind fun x4=>(fM xa i2).bind fun l5=>(aa l3 i2).bind fun _=>(az i2 i2).bind fun _=>some (.inl ((M0 .i64 (i2+1),l3.set i2.toNat l5)))) (some (.inr (l3)))
def uj(l1:Tq7):(Int×(List Int)×(List Int)×(List Int)×(List Int)×Int×(List Int)×(List Int)×Tq7)->Option ((Int×(List Int)×(List Int)×(List Int)×(List Int)×Int×(List Int)×(List Int)×Tq7)⊕Tq9):=fun (i2,l3,l4,l5,l6,i7,l8,l9,l10)=>cond (decide (i2<(l1.length:Int))) ((aa l4 i2).bind fun x11=>cond (decide (x11=0)) ((gU i2 l1 l3 l4 l5 l6 i7 l8 l9 l10).bind fun (l12,l13,l14,l15,i16,l17,l18,l19)=>some (.inl ((M0 .i64 (i2+1),l12,l13,l14,l15,i16,l17,l18,l19)))) (some (.inl ((M0 .i64 (i2+1),l3,l4,l5,l6,i7,l8,l9,l10))))) (some (.inr (((l3,l4,l5,l6,i7,l8,l9,l10)))))
def pM(xa:aZ):Option (ca) :=
 (fJ xa).bind fun i1=>(oD xa).bind fun i2=>(a8 4 (M0 .i64 (i1+i2))).bind fun _=>(fJ xa).bind fun i3=>(mk i3 i3 ([]):Option Tq7).bind fun z4=>(loop (uh xa z4) (0,z4)).bind fun l5=>(lQ l5).bind fun (l6,l7,l8,l9)=>(loop (uj l5) (0,l6,l7,l8,l9,0,[],[],[])).bind fun (l10,l11,l12,l13,i14,l15,l16,l17)=>(mB l5 l17).bind fun p18=>some (p18)
def OY:=re ⟨19,⟨[(0,.dat (.ptr Yq3)),(1,.nilp)],[]⟩,[⟨[(0,.dat dw)],[]⟩],fun x=>pM x⟩ func19 call19 (.cl nF [] (.cl Ep [] (.cl c9 [] (.cl nF [] (.ot (.row 3 (.dat Yq1)) (.jn [] ⟨[],[bkO 0 (.row 40 (.row 3 (.dat Yq1)))]⟩ [0] (.lp ⟨[kdI 21],[bkO 0 (.row 40 (.row 3 (.dat Yq1)))]⟩ (.tw 22 (.opn 0 25 (.cl DS [] (.cls 0 8 .nil))) .nil)) (.per 0 2 (.ms 31 (.cl NK [] (.jn [] ⟨[],[bkC 4 95 [.is 1 (.any),.own 3 Yq1,.own 3 Yq1,.own 3 Yq1,.own 3 Yq1,.dat Yq1,.own 3 Yq1,.own 3 Yq1,.od (.row 40 (.row 3 (.dat Yq1)))],bkU 3]⟩ [11,9,7,5,4] (.lp ⟨[kdI 35],[bkC 4 95 [.is 1 (.any),.own 3 Yq1,.own 3 Yq1,.own 3 Yq1,.own 3 Yq1,.dat Yq1,.own 3 Yq1,.own 3 Yq1,.od (.row 40 (.row 3 (.dat Yq1)))],bkU 3]⟩ (.tw 36 (.tw 45 (.cl Qt [] .nil) .nil) .nil)) (.per 26 27 (.cl Nw [] .nil))))))))))))

def fR(xa:ca):Option Int :=
 cond (xa.isNone) (some (0)) (xa.bind fun y14=>some (y14.2.length:Int))
def nA:=re ⟨24,⟨[(0,.dat dw)],[]⟩,[⟨[kdI 0],[]⟩],fun x=>fR x⟩ func24 call24 (.tw 4 .nil .nil)

def lq(xa:ca)(xb:Int):Option (List Int) :=
 (cond (decide (xb<0)) (some (true)) ((fR xa).bind fun i66=>some (decide (i66<=xb)))).bind fun t62=>cond (t62) (some ([])) (xa.bind fun y72=>(aa y72.2 xb).bind fun x82=>(bz x82).bind fun l97=>some (l97))
def DD:=re ⟨25,⟨[(0,.dat dw),kdI 1],[]⟩,[⟨[(0,.own 3 Yq1)],[]⟩],fun x=>lq x.1 x.2⟩ func25 call25 (.gj 4 ⟨[kdB 12],[]⟩ [] (.two 7 .nil (.cl nA [] .nil)) (.tw 12 .nil (.cl oQ5 [] .nil)))

def mb(xa:ca)(xb:Int):Option (Int×Bool) :=
 (cond (xa.isNone||(decide (xb<0))) (some (true)) (xa.bind fun y63=>some (decide ((y63.1.length:Int)<=xb)))).bind fun t61=>cond (t61) (some ((0,false))) (xa.bind fun y74=>(aa y74.1 xb).bind fun x84=>some ((x84,true)))
def Dn:=re ⟨58,⟨[(0,.dat dw),kdI 1],[]⟩,[⟨[(0,.tup [.dat Yq1,.dat .bool])],[]⟩],fun x=>mb x.1 x.2⟩ func58 call58 (.gp 2 (.wt 12 (.gj 7 ⟨[kdB 20],[]⟩ [] (.two 12 .nil .nil) (.tw 20 .nil .nil))))
def lY(xb:ca)(xc:Int)(l1:(List Int)):((List Int)×Bool×Int)->Option (((List Int)×Bool×Int)⊕((List Int)×Bool)):=fun (l2,t3,i4)=>cond (decide (i4<(l1.length:Int))) ((aa l1 i4).bind fun x5=>(mb xb x5).bind fun (i6,t7)=>cond (!decide (i6=xc)) ((app l2 ([i6]:List Int)).bind fun z8=>some (.inl ((z8,t3,M0 .i64 (i4+1))))) (some (.inl ((l2,true,M0 .i64 (i4+1)))))) (some (.inr (((l2,t3)))))
def lV(xa:aZ)(xb:ca)(xc:Int)(l1:(List Int)):((List Int)×Bool×Int)->Option (((List Int)×Bool×Int)⊕((List Int)×Bool)):=fun (l2,t3,i4)=>cond (decide (i4<(l1.length:Int))) ((aa l1 i4).bind fun x5=>(fM xa x5).bind fun l6=>(loop (lY xb xc l6) (l2,t3,0)).bind fun (l7,t8)=>some (.inl ((l7,t8,M0 .i64 (i4+1))))) (some (.inr (((l2,t3)))))
def pK(xa:aZ)(xb:ca)(xc:Int):Option (((List Int)×Bool)) :=
 (lq xb xc).bind fun l1=>(loop (lV xa xb xc l1) ([],false,0)).bind fun (l2,t3)=>(srt l2).bind fun l4=>(eM l4).bind fun l5=>some ((l5,t3))
def Pn:=re ⟨47,⟨[(0,.dat (.ptr Yq3)),(1,.dat dw),kdI 2],[]⟩,[⟨[(0,.tup [.own 3 Yq1,.dat .bool])],[]⟩],fun x=>pK x.1 x.2.1 x.2.2⟩ func47 call47 (.cl DD [] (.jn [] ⟨[(8,.own 3 Yq1),kdB 9],[]⟩ [] (.lp ⟨[(8,.own 3 Yq1),kdB 9,kdI 20],[]⟩ (.tw 21 (.cl DS [] (.jn [] ⟨[(8,.own 3 Yq1),kdB 9],[]⟩ [2] (.lp ⟨[(8,.own 3 Yq1),kdB 9,kdI 28],[]⟩ (.tw 29 (.cl Dn [] (.tw 40 .nil .nil)) .nil)) .nil)) .nil)) (.cl iE [] (.cl mO [] .nil))))
def mq(i1:Int)(x2:((List Int)×(List Int)×Int×Bool)):(Int×cA)->Option ((Int×cA)⊕cA):=fun (i3,l4)=>cond (decide (i3<(x2.1.length:Int))) ((aa x2.1 i3).bind fun x5=>(aa l4 i1).bind fun x6=>(aa l4 x5).bind fun _=>(aa l4 x5).bind fun x7=>(aa l4 i1).bind fun x8=>(az i1 i1).bind fun _=>((aa (l4.set i1.toNat ((x8.1,x8.2.1,if x6.2.2.1<M0 .i64 (x7.2.2.1+1)then M0 .i64 (x7.2.2.1+1)else x6.2.2.1,x8.2.2.2))) x5).bind fun _=>((aa (l4.set i1.toNat ((x8.1,x8.2.1,if x6.2.2.1<M0 .i64 (x7.2.2.1+1)then M0 .i64 (x7.2.2.1+1)else x6.2.2.1,x8.2.2.2))) x5).bind fun x9=>(az x5 x5).bind fun _=>(app x9.2.1 ([i1]:List Int)).bind fun z10=>(aa (l4.set i1.toNat ((x8.1,x8.2.1,if x6.2.2.1<M0 .i64 (x7.2.2.1+1)then M0 .i64 (x7.2.2.1+1)else x6.2.2.1,x8.2.2.2))) x5).bind fun _=>(az x5 x5).bind fun _=>some ((l4.set i1.toNat ((x8.1,x8.2.1,if x6.2.2.1<M0 .i64 (x7.2.2.1+1)then M0 .i64 (x7.2.2.1+1)else x6.2.2.1,x8.2.2.2))).set x5.toNat (x9.1,z10,x9.2.2.1,x9.2.2.2))).bind fun x11=>((aa (l4.set i1.toNat ((x8.1,x8.2.1,if x6.2.2.1<M0 .i64 (x7.2.2.1+1)then M0 .i64 (x7.2.2.1+1)else x6.2.2.1,x8.2.2.2))) x5).bind fun x12=>(az x5 x5).bind fun _=>(app x12.2.1 ([i1]:List Int)).bind fun z13=>(aa (l4.set i1.toNat ((x8.1,x8.2.1,if x6.2.2.1<M0 .i64 (x7.2.2.1+1)then M0 .i64 (x7.2.2.1+1)else x6.2.2.1,x8.2.2.2))) x5).bind fun _=>(az x5 x5).bind fun _=>some ((l4.set i1.toNat ((x8.1,x8.2.1,if x6.2.2.1<M0 .i64 (x7.2.2.1+1)then M0 .i64 (x7.2.2.1+1)else x6.2.2.1,x8.2.2.2))).set x5.toNat (x12.1,z13,x12.2.2.1,x12.2.2.2))).bind fun y14=>agr x11 y14 (some x11):Option (cA)).bind fun l15=>some (.inl ((M0 .i64 (i3+1),l15)))) (some (.inr (l4)))
def mi(xa:aZ)(xb:ca)(i1:Int):(Int×cA)->Option ((Int×cA)⊕cA):=fun (i2,l3)=>cond (decide (i2<i1)) ((aa l3 i2).bind fun _=>(pK xa xb i2).bind fun (l4,t5)=>(aa l3 i2).bind fun x6=>(az i2 i2).bind fun _=>(az i2 i2).bind fun _=>(aa (l3.set i2.toNat (l4,x6.2.1,x6.2.2.1,t5)) i2).bind fun x7=>(az i2 i2).bind fun _=>(loop (mq i2 x7) ((0,(l3.set i2.toNat (l4,x6.2.1,x6.2.2.1,t5)).set i2.toNat (x7.1,x7.2.1,x7.2.2.1,x7.2.2.2)))).bind fun l8=>some (.inl ((M0 .i64 (i2+1),l8)))) (some (.inr (l3)))
def pX(xa:aZ)(xb:ca):Option ((Option cA)) :=
 (fR xb).bind fun i1=>(mk i1 i1 ([],[],0,false):Option cA).bind fun z2=>(fR xb).bind fun i3=>(loop (mi xa xb i3) (0,z2)).bind fun l4=>some ((some l4))
def QV:=re ⟨20,⟨[(0,.dat (.ptr Yq3)),(1,.dat dw)],[]⟩,[⟨[(0,.dat (.ptr kN))],[]⟩],fun x=>pX x.1 x.2⟩ func20 call20 (.cl nA [] (.ot (.cons (.dat (.sl Yq1)) (.cons (.row 3 (.dat Yq1)) (.cons (.dat Yq1) (.one (.dat .bool))))) (.cl nA [] (.jn [] ⟨[],[bkO 0 (.row 103 (.cons (.dat (.sl Yq1)) (.cons (.row 3 (.dat Yq1)) (.cons (.dat Yq1) (.one (.dat .bool))))))]⟩ [0] (.lp ⟨[kdI 17],[bkO 0 (.row 103 (.cons (.dat (.sl Yq1)) (.cons (.row 3 (.dat Yq1)) (.cons (.dat Yq1) (.one (.dat .bool))))))]⟩ (.tw 18 (.cl Pn [] (.wt 36 (.opn 0 1000006 (.per 5 6 (.cls 0 11 (.wt 41 (.opn 0 1000006 (.wt 44 (.wt 1000016 (.cls 0 13 (.jn [] ⟨[],[bkO 0 (.row 103 (.cons (.dat (.sl Yq1)) (.cons (.row 3 (.dat Yq1)) (.cons (.dat Yq1) (.one (.dat .bool))))))]⟩ [0] (.lp ⟨[kdI 44],[bkO 0 (.row 103 (.cons (.dat (.sl Yq1)) (.cons (.row 3 (.dat Yq1)) (.cons (.dat Yq1) (.one (.dat .bool))))))]⟩ (.tw 45 (.mix [([0,1,2,3,4,5,6,7,8,9,10,11,12,13],14)] [15,16] [17] [] (.wt 64 (.opn 0 1000006 (.cls 0 21 (.tr (.still [0,1,2,3,4,5,6,7,8,9,10,11,13] (.alt 12 (.alt 14 (.alt 15 (.still [16,17] (.alt 18 (.leaf []) .done)) .done) .done) (.alt 14 (.alt 12 (.alt 15 (.still [16,17] (.alt 18 (.leaf []) .done)) .done) .done) .done))) ⟨[],[bkO 0 (.row 103 (.cons (.dat (.sl Yq1)) (.cons (.row 3 (.dat Yq1)) (.cons (.dat Yq1) (.one (.dat .bool))))))]⟩ [0] (.two 0 (.wt 76 (.opn 0 1000009 (.cls 0 30 .nil))) (.wt 76 (.opn 0 1000009 (.cls 0 30 .nil)))) .nil))))) .nil)) .nil))))))))))) .nil)) (.per 0 4 (.perb 2 3 kN .nil))))))

def jk(xa:(Option cA)):Option Int :=
 cond (xa.isNone) (some (0)) (xa.bind fun y14=>some (y14.length:Int))
def xv:=re ⟨22,⟨[(0,.dat (.ptr kN))],[]⟩,[⟨[kdI 0],[]⟩],fun x=>jk x⟩ func22 call22 (.tw 4 .nil .nil)
def lm(xa:(Option cA))(i1:Int):bf->Option (bf⊕Int):=fun (i2,i3)=>cond (decide (i3<i1)) (xa.bind fun y4=>(aa y4 i3).bind fun x5=>some (.inl ((M0 .i64 (i2+(x5.1.length:Int)),M0 .i64 (i3+1))))) (some (.inr (i2)))
def oW(xa:(Option cA)):Option Int :=
 (jk xa).bind fun i1=>(loop (lm xa i1) (0,0)).bind fun i2=>some (i2)
def Pw:=re ⟨23,⟨[(0,.dat (.ptr kN))],[]⟩,[⟨[kdI 0],[]⟩],fun x=>oW x⟩ func23 call23 (.cl xv [] (.jn [] ⟨[kdI 3],[]⟩ [] (.lp ⟨[kdI 3,kdI 7],[]⟩ (.tw 8 .nil .nil)) .nil))

def pp(xa:(Option cA))(xb:Int):Option (((List Int)×(List Int)×Int×Bool)) :=
 (cond (decide (xb<0)) (some (true)) ((jk xa).bind fun i67=>some (decide (i67<=xb)))).bind fun t63=>cond (t63) (some (([],[],0,false))) (xa.bind fun y72=>(aa y72 xb).bind fun x82=>some ((x82.1,x82.2.1,x82.2.2.1,x82.2.2.2)))
def MH:=re ⟨55,⟨[(0,.dat (.ptr kN)),kdI 1],[]⟩,[⟨[(0,.agg [.dat (.sl Yq1),.dat (.sl Yq1),.dat Yq1,.dat .bool])],[]⟩],fun x=>pp x.1 x.2⟩ func55 call55 (.gj 4 ⟨[kdB 12],[]⟩ [] (.two 7 .nil (.cl xv [] .nil)) (.tw 12 .nil .nil))

def oT(xa:(Option cA))(xb:Int):Option (List Int) :=
 (pp xa xb).bind fun (l33,l34,i35,t36)=>(bz l33).bind fun l48=>some (l48)
def Nq:=re ⟨27,⟨[(0,.dat (.ptr kN)),kdI 1],[]⟩,[⟨[(0,.own 3 Yq1)],[]⟩],fun x=>oT x.1 x.2⟩ func27 call27 (.cl MH [] (.cl oQ5 [] .nil))
def lu(y1:Tq2)(y2:List Int):kJ->Option (kJ⊕(aK×aQ×aE)):=fun (i3,l4,l5,l6)=>cond (decide (i3<(y2.length:Int))) ((aa y2 i3).bind fun x7=>(aa l4 x7).bind fun x8=>(aa l4 x7).bind fun _=>(az x7 x7).bind fun _=>(x8).bind fun y9=>(dU y1.1 l5 l6 y9.1 y9.2.1 y9.2.2).bind fun (t10,l11,l12,l13,l14)=>some (.inl ((M0 .i64 (i3+1),l4.set x7.toNat (some (y9.1,l13,l14)),l11,l12)))) (some (.inr (((l4,l5,l6)))))
def ly(y1:Tq2)(l2:(List Int)):(Int×aQ×aE×aK)->Option ((Int×aQ×aE×aK)⊕(aQ×aE×aK)):=fun (i3,l4,l5,l6)=>cond (decide (i3<(l2.length:Int))) ((aa l2 i3).bind fun x7=>(aa l6 x7).bind fun x8=>(aa l6 x7).bind fun _=>(az x7 x7).bind fun _=>(x8).bind fun y9=>(dU y1.1 l4 l5 y9.1 y9.2.1 y9.2.2).bind fun (t10,l11,l12,l13,l14)=>some (.inl ((M0 .i64 (i3+1),l11,l12,l6.set x7.toNat (some (y9.1,l13,l14)))))) (some (.inr (((l4,l5,l6)))))
def lw(p1:ca)(p2:(Option cA))(i3:Int):(Int×aK×aK)->Option ((Int×aK×aK)⊕aK):=fun (i4,l5,l6)=>cond (decide (i4<i3)) ((lq p1 i4).bind fun l7=>(aa l7 0).bind fun x8=>(aa l5 x8).bind fun x9=>(aa l5 x8).bind fun _=>(az x8 x8).bind fun _=>(x9).bind fun y10=>(subL l7 1 (l7.length:Int)).bind fun y11=>(loop (lu y10 y11) ((0,l5.set x8.toNat (none:(Option Tq2)),y10.2.1,y10.2.2))).bind fun (l12,l13,l14)=>(oT p2 i4).bind fun l15=>(loop (ly y10 l15) (0,l13,l14,l6)).bind fun (l16,l17,l18)=>(aa l18 i4).bind fun x19=>(aa l18 i4).bind fun _=>(az i4 i4).bind fun _=>some (.inl ((M0 .i64 (i4+1),l12,l18.set i4.toNat (some (y10.1,l16,l17)))))) (some (.inr (l6)))
def b0(xa:Tq1)(xb:(List bW)):Option ((Option (ca×aK×Int×Int))) :=
 (cS xa xb).bind fun p1=>(dB xa).bind fun l2=>cond (p1.isNone||(decide ((l2.length:Int)=0))) (some (none)) ((pM p1).bind fun p3=>(pX p1 p3).bind fun p4=>(jk p4).bind fun i5=>(oW p4).bind fun i6=>(a8 4 (M0 .i64 (i5+i6))).bind fun _=>(fR p3).bind fun i7=>(mk i7 i7 none:Option aK).bind fun z8=>(fR p3).bind fun i9=>(loop (lw p3 p4 i9) (0,l2,z8)).bind fun l10=>some ((some (p3,l10,xa.2.1,xa.1))))
def DU:=re ⟨6,⟨[(0,.dat Yq2),(1,.dat (.sl gH)),(2,.nilp)],[]⟩,[⟨[(0,.dat (.ptr (.cons dw (.cons (.sl dR) Yq5))))],[]⟩],fun x=>b0 x.1 x.2⟩ func6 call6 (.cl yw [] (.cl NZ [] (.cld 2 3 (.gp 3 (.tw 30 .nil (.cl OY [] (.cl QV [] (.cl xv [] (.cl Pw [] (.cl c9 [] (.mix [([0,1,4,5,6,7],2),([],3),([8],9)] [10] [] [] (.cl nA [] (.ot (.box 116 (.cons (.dat Yq1) (.cons (.box 197 (.one (.row 3 (.dat Yq1)))) (.one (.box 162 (.cons (.dat Yq1) (.one (.row 163 (.dat Yq9))))))))) (.cl nA [] (.jn [] ⟨[],[bkO 5 (.row 75 (.box 116 (.cons (.dat Yq1) (.cons (.box 197 (.one (.row 3 (.dat Yq1)))) (.one (.box 162 (.cons (.dat Yq1) (.one (.row 163 (.dat Yq9))))))))))]⟩ [5,2,0] (.lp ⟨[kdI 56],[bkO 2 (.row 75 (.lbx 116 (.cons (.dat Yq1) (.cons (.box 197 (.one (.row 3 (.dat Yq1)))) (.one (.box 162 (.cons (.dat Yq1) (.one (.row 163 (.dat Yq9)))))))))),bkO 5 (.row 75 (.box 116 (.cons (.dat Yq1) (.cons (.box 197 (.one (.row 3 (.dat Yq1)))) (.one (.box 162 (.cons (.dat Yq1) (.one (.row 163 (.dat Yq9))))))))))]⟩ (.tw 57 (.cl DD [] (.opn 2 65 (.wt 14 (.opb 14 9 (.cld 2 13 (.per 11 12 (.jn [(14,0)] ⟨[],[bkO 2 (.row 75 (.lbx 116 (.cons (.dat Yq1) (.cons (.box 197 (.one (.row 3 (.dat Yq1)))) (.one (.box 162 (.cons (.dat Yq1) (.one (.row 163 (.dat Yq9)))))))))),bkC 14 116 [.is 2 (.any),.od (.box 197 (.one (.row 3 (.dat Yq1)))),.od (.box 162 (.cons (.dat Yq1) (.one (.row 163 (.dat Yq9)))))],bkU 19]⟩ [14,16,17,2] (.lp ⟨[kdI 71],[bkO 2 (.row 75 (.lbx 116 (.cons (.dat Yq1) (.cons (.box 197 (.one (.row 3 (.dat Yq1)))) (.one (.box 162 (.cons (.dat Yq1) (.one (.row 163 (.dat Yq9)))))))))),bkC 14 116 [.is 2 (.any),.od (.box 197 (.one (.row 3 (.dat Yq1)))),.od (.box 162 (.cons (.dat Yq1) (.one (.row 163 (.dat Yq9)))))],bkU 19]⟩ (.tw 72 (.opn 2 77 (.wt 79 (.opb 27 20 (.wt 1000031 (.mc 27 0 28 (.cl kr [] (.cls 2 26 .nil))))))) .nil)) (.cl Nq [] (.jn [] ⟨[],[bkC 14 116 [.is 2 (.any),.od (.box 197 (.one (.row 3 (.dat Yq1)))),.od (.box 162 (.cons (.dat Yq1) (.one (.row 163 (.dat Yq9)))))],bkO 5 (.row 75 (.box 116 (.cons (.dat Yq1) (.cons (.box 197 (.one (.row 3 (.dat Yq1)))) (.one (.box 162 (.cons (.dat Yq1) (.one (.row 163 (.dat Yq9)))))))))),bkU 19]⟩ [14,5,21,23] (.lp ⟨[kdI 86],[bkC 14 116 [.is 2 (.any),.od (.box 197 (.one (.row 3 (.dat Yq1)))),.od (.box 162 (.cons (.dat Yq1) (.one (.row 163 (.dat Yq9)))))],bkO 5 (.row 75 (.box 116 (.cons (.dat Yq1) (.cons (.box 197 (.one (.row 3 (.dat Yq1)))) (.one (.box 162 (.cons (.dat Yq1) (.one (.row 163 (.dat Yq9)))))))))),bkU 19]⟩ (.tw 87 (.opn 5 95 (.wt 97 (.opb 35 33 (.wt 1000039 (.mc 35 0 36 (.cl kr [] (.cls 5 34 .nil))))))) .nil)) (.opn 5 104 (.cls 5 36 .nil))))))))))) .nil)) (.per 5 9 (.perb 7 8 (.cons dw (.cons (.sl dR) Yq5)) .nil)))))))))))))))))

def oH(xa:(Option (ca×aK×Int×Int))):Option Int :=
 cond (xa.isNone) (some (0)) (xa.bind fun y11=>some (y11.2.2.1))
def Nn:=re ⟨8,⟨[(0,.dat (.ptr (.cons dw (.cons (.sl dR) Yq5))))],[]⟩,[⟨[kdI 0],[]⟩],fun x=>oH x⟩ func8 call8 (.tw 4 .nil .nil)

def tX(xa:(Option (ca×aK×Int×Int)))(xb:Int):Option ((Option Tq2)) :=
 cond (xa.isNone) (some (none)) (xa.bind fun y39=>(mb y39.1 xb).bind fun (i50,t51)=>cond (!t51) (some (none)) ((aa y39.2.1 i50).bind fun x60=>some (x60)))
def QI:=re ⟨31,⟨[(0,.dat (.ptr (.cons dw (.cons (.sl dR) Yq5)))),kdI 1],[]⟩,[⟨[(0,.dat dR)],[]⟩],fun x=>tX x.1 x.2⟩ func31 call31 (.ms 0 (.tw 8 .nil (.cl Dn [] (.tw 19 .nil .nil))))

def ue(xa:(Option Tq2)):Option Unit :=
 some (())
def M9:=re ⟨59,⟨[(0,.is 0 (.dat dR))],[bkM]⟩,[⟨[(0,.fn 93 [.ptr 0 0])],[bkN 75 [.is 1 (.any)],bkU 0]⟩],fun x=>ue x⟩ func59 call59 .nil

def ub(xa:aQ):Option Unit :=
 some (())
def M7:=re ⟨54,⟨[(0,.is 0 (.dat (.ptr (.one (.sl Yq1)))))],[bkM]⟩,[⟨[(0,.fn 90 [.ptr 0 0])],[bkN 113 [.is 1 (.any)],bkU 0]⟩],fun x=>ub x⟩ func54 call54 .nil

def uc(xa:(Option Tq2)):Option ((aE⊕aQ)) :=
 (fO xa).bind fun t1=>cond (t1) (xa.bind fun y2=>(jp y2.2.2).bind fun _=>some (.inl y2.2.2)) (cond (xa.isNone) ((jD ([])).bind fun l3=>(g9 l3).bind fun l4=>some (.inr (some l4))) (xa.bind fun y5=>(ub y5.2.1).bind fun _=>some (.inr y5.2.1)))
def P0:=re ⟨94,⟨[(0,.dat dR)],[]⟩,[⟨[(0,.fn 150 [.ptr 0 0])],[bkN 114 [.dat Yq6]]⟩,⟨[(0,.fn 90 [.ptr 0 0])],[bkN 113 [.dat (.ptr (.one (.sl Yq1)))]]⟩],fun x=>uc x⟩ func94 call94 (.cl nt [] (.tw 4 (.ms 8 (.cl DM [] .nil)) (.tw 11 (.cl DA [] (.cl sy [] (.per 8 9 (.perb 0 10 (.one (.sl Yq1)) (.pl .nil))))) (.ms 17 (.cl M7 [] (.pl .nil))))))
def ox(p1:aE):Tq8->Option (Tq8⊕(List Int)):=fun (i2,l3)=>cond (decide (0<=i2)) ((app l3 ([i2]:List Int)).bind fun z4=>(df p1 (M0 .i64 (i2+1))).bind fun i5=>some (.inl (i5,z4))) (some (.inr (l3)))
def lj(p1:aQ):(Int×Bool×(List Int))->Option ((Int×Bool×(List Int))⊕(List Int)):=fun (i2,t3,l4)=>cond (t3) ((app l4 ([i2]:List Int)).bind fun z5=>(cd p1 (M0 .i64 (i2+1))).bind fun i6=>(ce p1 i6).bind fun (i7,t8)=>some (.inl (i7,t8,z5))) (some (.inr (l4)))
def jh(xa:(Option Tq2)):Option (List Int) :=
 (ue xa).bind fun _=>(uc xa).bind fun o=>match o with|.inl p1=>(df p1 0).bind fun i2=>(loop (ox p1) (i2,[])).bind fun l3=>some (l3)|.inr p4=>(ce p4 0).bind fun (i5,t6)=>(loop (lj p4) (i5,t6,[])).bind fun l7=>some (l7)
def P2:=re ⟨32,⟨[(0,.dat dR)],[]⟩,[⟨[(0,.own 3 Yq1)],[]⟩],fun x=>jh x⟩ func32 call32 (.ms 5 (.cl M9 [] (.rg ⟨93,_,func93,call93⟩ (.c2 P0 [] (.rg ⟨150,_,func150,call150⟩ (.cl sn [] (.jn [] ⟨[],[bkC 0 40 [.own 3 Yq1],⟨(some 5),0,[],false,false,none,true⟩,⟨(some 10),0,[],false,false,none,true⟩]⟩ [10,5,0] (.lp ⟨[kdI 3],[bkC 0 40 [.own 3 Yq1],⟨(some 5),0,[],false,false,none,true⟩,⟨(some 10),0,[],false,false,none,true⟩]⟩ (.tw 7 (.yl 2 (.pl (.yl 2 (.cl sn [] .nil)))) .nil)) .nil))) (.rg ⟨90,_,func90,call90⟩ (.cl eD [] (.jn [] ⟨[],[bkC 0 40 [.own 3 Yq1],⟨(some 5),0,[],false,false,none,true⟩,⟨(some 10),0,[],false,false,none,true⟩]⟩ [10,5,0] (.lp ⟨[kdI 3,kdB 4],[bkC 0 40 [.own 3 Yq1],⟨(some 5),0,[],false,false,none,true⟩,⟨(some 10),0,[],false,false,none,true⟩]⟩ (.tw 10 (.yl 2 (.pl (.yl 2 (.mix [([0,1,2,3],4),([],5)] [6,7,8,9,10] [] [] (.cl dJ [] (.cl eD [] .nil)))))) .nil)) .nil)))))))

def ia(xa:(Option (ca×aK×Int×Int)))(xb:Int):Option (List Int) :=
 (tX xa xb).bind fun p26=>(jh p26).bind fun l34=>some (l34)
def DH:=re ⟨10,⟨[(0,.dat (.ptr (.cons dw (.cons (.sl dR) Yq5)))),kdI 1],[]⟩,[⟨[(0,.own 3 Yq1)],[]⟩],fun x=>ia x.1 x.2⟩ func10 call10 (.cl QI [] (.cl P2 [] .nil))
def uf(xa:(List bW)):(Tq6×Int)->Option ((Tq6×Int)⊕Tq6):=fun (l1,i2)=>cond (decide (i2<(xa.length:Int))) ((aa xa i2).bind fun x3=>(aa xa i2).bind fun x4=>(app l1 (([(x3.1,x4.2.1)]:List bf))).bind fun z5=>some (.inl ((z5,M0 .i64 (i2+1))))) (some (.inr (l1)))
def pN(xa:(List bW)):Option (Tq6) :=
 (loop (uf xa) ((([]:List bf),0))).bind fun l1=>some (l1)
def NC:=re ⟨12,⟨[(0,.dat (.sl gH))],[]⟩,[⟨[(0,.own 80 Yq5)],[]⟩],fun x=>pN x⟩ func12 call12 (.jn [] ⟨[(3,.own 80 Yq5),(5,.any)],[]⟩ [0] (.lp ⟨[(3,.own 80 Yq5),kdI 4],[]⟩ (.tw 9 (.mix [([0,1,2,3,4,5,6,7,8,9,10,11],12)] [] [13,14] [] .nil) .nil)) .nil)
def ua(xa:Int)(xb:Tq6):Int->Option (Int⊕(Unit⊕Int)):=fun i1=>cond (decide (i1<(xb.length:Int))) ((aa xb i1).bind fun x2=>(cond (decide (x2.1<0)) (some (true)) ((aa xb i1).bind fun x3=>some (decide (xa<=x3.1)))).bind fun t4=>(cond (t4) (some (true)) ((aa xb i1).bind fun x5=>some (decide (x5.2<0)))).bind fun t6=>(cond (t6) (some (true)) ((aa xb i1).bind fun x7=>some (decide (xa<=x7.2)))).bind fun t8=>cond (t8) (some (.inr ((.inr (7))))) (some (.inl (M0 .i64 (i1+1))))) (some (.inr ((.inl ()))))
def pz(xa:Int)(xb:Tq6):Option Int :=
 cond (decide (xa<0)) (some (2)) (cond ((decide (1048576<xa))||(decide (67108864<(xb.length:Int)))) (some (5)) ((loop (ua xa xb) 0).bind fun o=>match o with | .inr r=>some r | .inl ()=>some (0)))
def NQ:=re ⟨11,⟨[kdI 0,(1,.dat (.sl Yq5))],[]⟩,[⟨[kdI 0],[]⟩],fun x=>pz x.1 x.2⟩ func11 call11 (.tw 7 .nil (.wt 10 (.gp 3 (.tw 14 .nil (.jx [] ⟨[],[]⟩ [] (.lp ⟨[kdI 5],[]⟩ (.tw 18 (.wt 27 (.gj 7 ⟨[kdB 35],[]⟩ [] (.two 27 .nil .nil) (.wt 36 (.gj 6 ⟨[kdB 43],[]⟩ [] (.two 36 .nil .nil) (.wt 44 (.gj 7 ⟨[kdB 52],[]⟩ [] (.two 44 .nil .nil) (.tw 52 .nil .nil))))))) .nil)) .nil)))))
def eS(p1:(Option (ca×aK×Int×Int)))(p2:(Option (ca×aK×Int×Int)))(l3:(List Int)):Int->Option (Int⊕(Unit⊕Bool)):=fun i4=>(cond (decide (i4<(l3.length:Int))) ((oH p1).bind fun i5=>some (decide (0<i5))) (some (false))).bind fun t6=>cond (t6) ((aa l3 i4).bind fun x7=>(aa l3 i4).bind fun x8=>(ia p1 x7).bind fun l9=>(ia p2 x8).bind fun l10=>(my l9 l10).bind fun t11=>cond (!t11) (some (.inr ((.inr (false))))) (some (.inl (M0 .i64 (i4+1))))) (some (.inr ((.inl ()))))
def g8(l1:Tq6)(l2:Tq6):bf->Option (bf⊕Int):=fun (i3,i4)=>cond (decide (i4<(l2.length:Int))) (cond (decide (i3<(l1.length:Int))) ((aa l1 i3).bind fun x5=>(aa l2 i4).bind fun x6=>cond ((decide (x5.1=x6.1))&&((decide (x5.2=x6.2)))) (some (.inl ((M0 .i64 (i3+1),M0 .i64 (i4+1))))) (some (.inl ((i3,M0 .i64 (i4+1)))))) (some (.inl ((i3,M0 .i64 (i4+1)))))) (some (.inr (i3)))
def tW(xa:Tq1)(xb:(List bW))(xc:bW):Option Bool :=
 (im xa).bind fun t1=>cond (((!t1)||(decide (20<xa.2.1)))||(decide (80<(xb.length:Int)))) ((jt).bind fun t2=>some (t2)) ((b0 xa xb).bind fun p3=>(b0 xa ([])).bind fun p4=>(cR xa xb).bind fun l5=>(loop (eS p3 p4 l5) 0).bind fun o=>match o with | .inr r=>some r | .inl ()=>((((app (([]:List bW)) xb).bind fun z6=>(app z6 (([(xc.1,xc.2.1,(xc.2.2.1,xc.2.2.2.1,xc.2.2.2.2.1,xc.2.2.2.2.2.1,xc.2.2.2.2.2.2))]:List bW))).bind fun z7=>some (z7)).bind fun x8=>((app (([]:List bW)) xb).bind fun z9=>(app z9 (([(xc.1,xc.2.1,(xc.2.2.1,xc.2.2.2.1,xc.2.2.2.2.1,xc.2.2.2.2.2.1,xc.2.2.2.2.2.2))]:List bW))).bind fun z10=>some (z10)).bind fun y11=>agr x8 y11 (some x8)).bind fun x12=>((app (([]:List bW)) xb).bind fun z13=>(app z13 (([(xc.1,xc.2.1,(xc.2.2.1,xc.2.2.2.1,xc.2.2.2.2.1,xc.2.2.2.2.2.1,xc.2.2.2.2.2.2))]:List bW))).bind fun z14=>some (z14)).bind fun y15=>agr x12 y15 (some x12):Option ((List bW))).bind fun l16=>(pN l16).bind fun l17=>(pz xa.2.1 l17).bind fun i18=>cond (!decide (i18=0)) ((bO xa l16).bind fun l19=>(cond (decide ((l19.length:Int)=0)) ((jt).bind fun t20=>some (t20)) (some (false))).bind fun t21=>some (t21)) ((bO xa xb).bind fun l22=>(bO xa l16).bind fun l23=>(loop (g8 l22 l23) (0,0)).bind fun i24=>(cond (decide (i24=(l22.length:Int))) ((jt).bind fun t25=>some (t25)) (some (false))).bind fun t26=>some (t26)))
def EM:Hn Tryz.prog:=.cl oQ2 [] (.gp 3 (.wt 24 (.gp 3 (.tw 28 (.cl uu [] .nil) (.mix [([0,1,3],2)] [] [4,5,6] [] (.cl DU [] (.cl DU [] (.cl Eo [] (.jx [] ⟨[],[]⟩ [] (.lp ⟨[kdI 10],[]⟩ (.wt 42 (.gj 3 ⟨[kdB 46],[]⟩ [] (.two 42 (.cl Nn [] .nil) .nil) (.tw 46 (.mix [([0,1,2,3,4,6,7,8,9,10],5)] [] [11,12,13] [] (.cl DH [] (.cl DH [] (.cl D6 [6,8] (.tw 62 .nil .nil))))) .nil)))) (.tr (.still [1,3] (.alt 0 (.alt 2 (.alt 4 (.alt 5 (.leaf [6]) .done) .done) (.alt 4 (.alt 2 (.alt 5 (.leaf [6]) .done) .done) .done)) (.alt 4 (.alt 0 (.alt 2 (.alt 5 (.leaf [6]) .done) .done) .done) .done))) ⟨[(11,.own 35 gH)],[]⟩ [] (.two 0 (.two 0 .nil .nil) .nil) (.per 6 7 (.mix [([0,1,2],3)] [] [4,5] [] (.cl NC [] (.cl NQ [8] (.tw 74 (.cl sG [] (.gj 1 ⟨[kdB 82],[]⟩ [] (.two 80 (.cl uu [] .nil) .nil) .nil)) (.mix [([0,1,3,4],2)] [] [5,6,7] [] (.cl sG [] (.cl sG [] (.jn [] ⟨[kdI 14,(72,.any)],[]⟩ [8,0,2,4] (.lp ⟨[kdI 14,kdI 15],[]⟩ (.tw 92 (.mix [] [0,1,2,3,4,5,6,7,8,9,10,11,12,13,14] [] [] (.two 99 (.tw 109 .nil .nil) .nil)) .nil)) (.wt 116 (.gj 1 ⟨[kdB 118],[]⟩ [] (.two 116 (.cl uu [] .nil) .nil) .nil)))))))))))))))))))))
def yI:Spec:=⟨3,⟨[(0,.dat Yq2),(1,.dat (.sl gH)),(2,.dat gH)],[]⟩,[⟨[kdB 0],[]⟩],fun x=>tW x.1 x.2.1 x.2.2⟩
theorem EJ:dj Tryz.prog yI:=ab func3 EM (by kernel_rfl) (by kernel_rfl)
end
section
open Go.RowKit _root_.Go.Proofs.Tryz
def oR(xa:Tq4)(xb:Int):Int->Option (Int⊕(Unit⊕Int)):=fun i1=>cond (decide (i1<(xa.length:Int))) ((aa xa i1).bind fun x2=>(cond (decide (x2.1<0)) (some (true)) ((aa xa i1).bind fun x3=>some (decide (xb<=x3.1)))).bind fun t4=>cond (t4) (some (.inr ((.inr (7))))) (some (.inl (M0 .i64 (i1+1))))) (some (.inr ((.inl ()))))
def pG(xa:Tq4)(xb:Int):Option Int :=
 cond (decide (16<(xa.length:Int))) (some (6)) ((loop (oR xa xb) 0).bind fun o=>match o with|.inr r=>some r|.inl ()=>some (0))
def ud(xa:Tq4)(xb:Tq4):Int->Option (Int⊕(Unit⊕Bool)):=fun i1=>cond (decide (i1<(xa.length:Int))) ((aa xa i1).bind fun x2=>(aa xb i1).bind fun x3=>cond (!(x2.2==x3.2)) (some (.inr ((.inr (false))))) (some (.inl (M0 .i64 (i1+1))))) (some (.inr ((.inl ()))))
def mn(xa:Tq4)(xb:Tq4):Option Bool :=
 cond (!decide ((xa.length:Int)=(xb.length:Int))) (some (false)) ((loop (ud xa xb) 0).bind fun o=>match o with|.inr r=>some r|.inl ()=>some (true))
def oU(xa:bX):Int->Option (Int⊕(Unit⊕Int)):=fun i1=>cond (decide (i1<(xa.2.1.length:Int))) ((aa xa.2.1 i1).bind fun x2=>cond ((((decide (x2.1<0))||(decide (xa.1<=x2.1)))||(decide (x2.2<0)))||(decide (xa.1<=x2.2))) (some (.inr ((.inr (7))))) (some (.inl (M0 .i64 (i1+1))))) (some (.inr ((.inl ()))))
def oX(xa:bX):Int->Option (Int⊕(Unit⊕Int)):=fun i1=>cond (decide (i1<(xa.2.2.1.length:Int))) ((aa xa.2.2.1 i1).bind fun x2=>(pG x2 xa.1).bind fun i3=>cond (!decide (i3=0)) (some (.inr ((.inr (i3))))) (some (.inl (M0 .i64 (i1+1))))) (some (.inr ((.inl ()))))
def pJ(xa:bX):Option Int :=
 cond (decide (xa.1<0)) (some (7)) (cond (((decide (16<xa.1))||(decide (16<(xa.2.1.length:Int))))||(decide (16<(xa.2.2.1.length:Int)))) (some (6)) ((loop (oU xa) 0).bind fun o=>match o with | .inr r=>some r | .inl ()=>(loop (oX xa) 0).bind fun o=>match o with | .inr r=>some r | .inl ()=>(pG xa.2.2.2 xa.1).bind fun i1=>some (i1)))
def mH(xa:Int):Option Bool :=
 some ((((decide (xa=1))||(decide (xa=2)))||(decide (xa=3)))||(decide (xa=5)))
def mF(xa:Int):Option Bool :=
 some ((decide (1<=xa))&&(decide (xa<=4)))
def pq(xa:Int):Option Bool :=
 some ((decide (xa=2))||(decide (xa=3)))
def pL(xa:Tq5):Option Bool :=
 (cond ((decide (0<=xa.1))&&(decide (xa.1<=5))) ((mH xa.1).bind fun t97=>some (t97||(decide (xa.2.1=0)))) (some (false))).bind fun t93=>(cond (t93) ((mF xa.1).bind fun t1=>some (t1||(decide (xa.2.2.1=0)))) (some (false))).bind fun t2=>(cond (t2) ((pq xa.1).bind fun t3=>some (t3||((decide (xa.2.2.2.1=0))&&(!xa.2.2.2.2)))) (some (false))).bind fun t4=>some (t4)
def om(xb:Tq4)(xc:Tq4)(xd:Int)(xe:Int):ba->Option (ba⊕(List Tq5)):=fun (l1,i2)=>cond (decide (i2<(xb.length:Int))) ((aa xb i2).bind fun x3=>(aa xc i2).bind fun x4=>(app l1 (([(x3.1,x4.1,xd,M0 .i64 (xe+i2),false)]:List Tq5))).bind fun z5=>(aa xc i2).bind fun x6=>cond (x6.2) ((aa xc i2).bind fun x7=>(aa xb i2).bind fun x8=>(app z5 (([(x7.1,x8.1,xd,M0 .i64 (xe+i2),true)]:List Tq5))).bind fun z9=>some (.inl ((z9,M0 .i64 (i2+1))))) (some (.inl ((z5,M0 .i64 (i2+1)))))) (some (.inr (l1)))
def jc(xb:Tq4)(xc:Tq4)(xd:Int)(xe:Int)(qxa:(List Tq5)):Option ((List Tq5)) :=
 (loop (om xb xc xd xe) (qxa,0)).bind fun l1=>some (l1)
def jv(xa:Tq4)(xb:Tq4)(xc:Int)(xd:Int):Option (ba) :=
 (mn xa xb).bind fun t34=>cond (!t34) (some (([],8))) ((jc xa xb xc xd (([]:List Tq5))).bind fun l45=>some ((l45,0)))
def ul(xa:Tq4)(xc:Bool):(Tq4×Int)->Option ((Tq4×Int)⊕Tq4):=fun (l1,i2)=>cond (decide (i2<(xa.length:Int))) ((aa xa i2).bind fun x3=>(aa xa i2).bind fun x4=>cond (x4.2) ((app l1 (([(x3.1,true)]:List (Int×Bool)))).bind fun z5=>some (.inl ((z5,M0 .i64 (i2+1))))) ((app l1 (([(x3.1,xc)]:List (Int×Bool)))).bind fun z6=>some (.inl ((z6,M0 .i64 (i2+1)))))) (some (.inr (l1)))
def uD(xa:Tq4)(xb:Int)(xc:Bool):Option (Tq4) :=
 (loop (ul xa xc) ((([(xb,false)]:List (Int×Bool)),0))).bind fun l1=>some (l1)
def uA(xa:Tq4)(xb:Tq4)(xc:Int)(xd:Bool):Option (ba) :=
 (uD xa xc xd).bind fun l1=>(mn l1 xb).bind fun t2=>cond (!t2) (some (([],8))) ((aa xb 0).bind fun x3=>(subL xb 1 (xb.length:Int)).bind fun y4=>(jc xa y4 1 1 (([(xc,x3.1,2,0,false)]:List Tq5))).bind fun l5=>some ((l5,0)))
def jj(xa:Tq4)(xd:Bool):Int->Option (Int⊕(Unit⊕ba)):=fun i1=>cond (decide (i1<(xa.length:Int))) ((cond (xd) ((aa xa i1).bind fun x2=>some (!x2.2)) (some (false))).bind fun t3=>cond (t3) (some (.inr ((.inr (([],8)))))) (some (.inl (M0 .i64 (i1+1))))) (some (.inr ((.inl ()))))
def uo(xa:Tq4)(xb:Tq4)(xc:Int)(xd:Bool):Option (ba) :=
 (cond (decide ((xa.length:Int)=0)) (some (true)) ((mn xa xb).bind fun t1=>some (!t1))).bind fun t2=>(cond (t2) (some (true)) ((aa xa 0).bind fun x3=>some (x3.2))).bind fun t4=>cond (t4) (some (([],8))) ((loop (jj xa xd) 1).bind fun o=>match o with|.inr r=>some r|.inl ()=>(aa xa 0).bind fun x5=>(aa xb 0).bind fun x6=>(subL xa 1 (xa.length:Int)).bind fun y7=>(subL xb 1 (xb.length:Int)).bind fun y8=>(jc y7 y8 1 1 (([(x5.1,xc,3,0,false),(xc,x6.1,2,0,false)]:List Tq5))).bind fun l9=>some ((l9,0)))
def mj(xa:Tq5)(xb:(List Tq4))(xc:Int):Option (ba) :=
 (pL (xa.1,xa.2.1,xa.2.2.1,xa.2.2.2.1,xa.2.2.2.2)).bind fun t1=>cond (!t1) (some (([],3))) ((mH xa.1).bind fun t2=>(cond (t2&&((decide (xa.2.1<0))||(decide ((xb.length:Int)<=xa.2.1)))) (some (true)) ((mF xa.1).bind fun t3=>some (t3&&((decide (xa.2.2.1<0))||(decide ((xb.length:Int)<=xa.2.2.1)))))).bind fun t4=>(cond (t4) (some (true)) ((pq xa.1).bind fun t5=>some (t5&&((decide (xa.2.2.2.1<0))||(decide (xc<=xa.2.2.2.1)))))).bind fun t6=>cond (t6) (some (([],7))) (cond (decide (xa.1=1)) ((aa xb xa.2.2.1).bind fun x7=>(aa xb xa.2.1).bind fun x8=>(jv x7 x8 1 0).bind fun (l9,i10)=>some ((l9,i10))) (cond (decide (xa.1=2)) ((aa xb xa.2.2.1).bind fun x11=>(aa xb xa.2.1).bind fun x12=>(uA x11 x12 xa.2.2.2.1 xa.2.2.2.2).bind fun (l13,i14)=>some ((l13,i14))) (cond (decide (xa.1=3)) ((aa xb xa.2.2.1).bind fun x15=>(aa xb xa.2.1).bind fun x16=>(uo x15 x16 xa.2.2.2.1 xa.2.2.2.2).bind fun (l17,i18)=>some ((l17,i18))) (some (([],0)))))))
def jy(xa:cC):Option Int :=
 cond ((decide (xa.1<1))||(decide (4<xa.1))) (some (3)) (cond (((((decide (xa.1=1))||(decide (xa.1=4)))&&(!decide ((xa.2.2.2.1.length:Int)=1)))||((decide (xa.1=2))&&(decide ((xa.2.2.2.1.length:Int)=0))))||((decide (xa.1=3))&&(!decide ((xa.2.2.2.1.length:Int)=0)))) (some (3)) (cond ((!decide (xa.1=4))&&(((!decide (xa.2.1=0))||(!decide (xa.2.2.1=0)))||(!decide ((xa.2.2.2.2.2.length:Int)=0)))) (some (3)) (cond (((decide (xa.1=1))||(decide (xa.1=3)))&&(!decide ((xa.2.2.2.2.1.length:Int)=0))) (some (3)) (cond (((decide (16<(xa.2.2.2.1.length:Int)))||(decide (16<(xa.2.2.2.2.1.length:Int))))||(decide (16<(xa.2.2.2.2.2.length:Int)))) (some (6)) (some (0))))))
def oM(xa:(List Int))(xb:Int):Int->Option (Int⊕(Unit⊕Bool)):=fun i1=>cond (decide (i1<(xa.length:Int))) ((aa xa i1).bind fun x2=>(cond (decide (x2<0)) (some (true)) ((aa xa i1).bind fun x3=>some (decide (xb<=x3)))).bind fun t4=>cond (t4) (some (.inr ((.inr (false))))) (some (.inl (M0 .i64 (i1+1))))) (some (.inr ((.inl ()))))
def eU(xa:(List Int))(xb:Int):Option Bool :=
 (loop (oM xa xb) 0).bind fun o=>match o with|.inr r=>some r|.inl ()=>some (true)
def lK(xa:Tq4)(xb:(List Int)):(Tq4×Int)->Option ((Tq4×Int)⊕(Tq4⊕(Tq4×Int))):=fun (l1,i2)=>cond (decide (i2<(xa.length:Int))) ((aa xa i2).bind fun x3=>cond ((decide (x3.1<0))||(decide ((xb.length:Int)<=x3.1))) (some (.inr ((.inr (([],7)))))) ((aa xb x3.1).bind fun x4=>(aa xa i2).bind fun x5=>(app l1 (([(x4,x5.2)]:List (Int×Bool)))).bind fun z6=>some (.inl ((z6,M0 .i64 (i2+1)))))) (some (.inr (.inl l1)))
def pB(xa:Tq4)(xb:(List Int)):Option ((Tq4×Int)) :=
 (loop (lK xa xb) ((([]:List (Int×Bool)),0))).bind fun o=>match o with|.inr r=>some r|.inl l1=>some ((l1,0))
def oY(xa:bX)(xb:(List Int)):ba->Option (ba⊕(List Tq5)):=fun (l1,i2)=>cond (decide (i2<(xa.2.1.length:Int))) ((aa xa.2.1 i2).bind fun x3=>(aa xb x3.1).bind fun x4=>(aa xa.2.1 i2).bind fun x5=>(aa xb x5.2).bind fun x6=>(app l1 (([(x4,x6,4,i2,false)]:List Tq5))).bind fun z7=>some (.inl ((z7,M0 .i64 (i2+1))))) (some (.inr (l1)))
def lR(xa:bX)(xb:(List Int))(xc:(List Tq4)):ba->Option (ba⊕((List Tq5)⊕ba)):=fun (l1,i2)=>cond (decide (i2<(xa.2.2.1.length:Int))) ((aa xa.2.2.1 i2).bind fun x3=>(pB x3 xb).bind fun (l4,i5)=>(aa xc i2).bind fun x6=>(jv x6 l4 5 (M0 .i64 (16*i2))).bind fun (l7,i8)=>cond (!decide (i8=0)) (some (.inr ((.inr (([],i8)))))) ((app l1 l7).bind fun z9=>some (.inl ((z9,M0 .i64 (i2+1)))))) (some (.inr (.inl l1)))
def pP(xa:bX)(xb:(List Int))(xc:(List Tq4))(xd:Tq4):Option (ba) :=
 (pJ (xa.1,xa.2.1,xa.2.2.1,xa.2.2.2)).bind fun i1=>cond (!decide (i1=0)) (some (([],i1))) (cond ((!decide ((xb.length:Int)=xa.1))||(!decide ((xc.length:Int)=(xa.2.2.1.length:Int)))) (some (([],2))) ((loop (oY xa xb) ((([]:List Tq5),0))).bind fun l2=>(loop (lR xa xb xc) (l2,0)).bind fun o=>match o with | .inr r=>some r | .inl l3=>(pB xa.2.2.2 xb).bind fun (l4,i5)=>(jv l4 xd 6 0).bind fun (l6,i7)=>cond (!decide (i7=0)) (some (([],i7))) ((app l3 l6).bind fun z8=>some ((z8,0)))))
def yM(xa:cC)(xb:kS):((List Tq4)×Int)->Option (((List Tq4)×Int)⊕(List Tq4)):=fun (l1,i2)=>cond (decide (i2<(xa.2.2.2.2.1.length:Int))) ((aa xa.2.2.2.2.1 i2).bind fun x3=>(aa xb.2.2.1 x3).bind fun x4=>(app l1 (([x4]:List Tq4))).bind fun z5=>some (.inl ((z5,M0 .i64 (i2+1))))) (some (.inr (l1)))
def ju(xa:cC)(xb:kS):Option (ba) :=
 (jy (xa.1,xa.2.1,xa.2.2.1,xa.2.2.2.1,xa.2.2.2.2.1,xa.2.2.2.2.2)).bind fun i1=>cond (!decide (i1=0)) (some (([],i1))) ((eU xa.2.2.2.1 xb.1).bind fun t2=>(cond (!t2) (some (true)) ((eU xa.2.2.2.2.1 (xb.2.2.1.length:Int)).bind fun t3=>some (!t3))).bind fun t4=>(cond (t4) (some (true)) ((eU xa.2.2.2.2.2 xb.2.1).bind fun t5=>some (!t5))).bind fun t6=>cond (t6) (some (([],7))) ((cond (decide (xa.1=4)) ((eU ([xa.2.2.1]:List Int) (xb.2.2.1.length:Int)).bind fun t7=>(cond (!t7) (some (true)) ((eU ([xa.2.1]:List Int) (xb.2.2.2.2.length:Int)).bind fun t8=>some (!t8))).bind fun t9=>some (t9)) (some (false))).bind fun t10=>cond (t10) (some (([],7))) (cond ((decide (xa.1=3))&&(decide ((xb.2.2.1.length:Int)=0))) (some (([],14))) (cond (decide (xa.1=3)) ((aa xb.2.2.1 0).bind fun x11=>(jv x11 xb.2.2.2.1 7 0).bind fun (l12,i13)=>some ((l12,i13))) (cond (decide (xa.1=4)) ((loop (yM xa xb) ((([]:List Tq4),0))).bind fun l14=>(aa xb.2.2.2.2 xa.2.1).bind fun x15=>(aa xb.2.2.1 xa.2.2.1).bind fun x16=>(pP (x15.1,x15.2.1,x15.2.2.1,x15.2.2.2) xa.2.2.2.2.2 l14 x16).bind fun (l17,i18)=>some ((l17,i18))) (some (([],0))))))))
end
set_option linter.unnecessarySimpa false
set_option linter.unusedSimpArgs false
open Go.RowKit
abbrev St:=Int×Bool
def shp(xa xb:List St):Bool:=decide (xa.map (·.2)=xb.map (·.2))
theorem zu(xa xb:List St){body:Int->Option (Int⊕(Unit⊕Bool))}(hl:xa.length=xb.length)(hb:∀(k:Nat) (h:k<xa.length),body (k:Int)=some (if xa[k].2=(xb[k]'(by omega)).2 then .inl ((k+1:Nat):Int)else .inr (.inr false)))(he:body (xa.length:Int)=some (.inr (.inl ()))) :
   loop body 0=some (if shp xa xb then .inl ()else .inr false):=by
 have:=uS (body:=body) (xa.map (·.2)) (xb.map (·.2)) (.inr false) (.inl ()) (by simp[hl]) (fun k h=>by simpa using hb k (by simpa using h)) (by simpa using he);rw[this];unfold shp;by_cases h:xa.map (·.2)=xb.map (·.2) <;> simp[h]
theorem wP{xa xb:List St}(h:¬ xa.length=xb.length):shp xa xb=false:=by
 unfold shp;simp only[decide_eq_false_iff_not];intro e;exact h (by simpa using congrArg W4 e)
theorem mU{xa xb:List St}(h:shp xa xb=true):xa.length=xb.length:=by
 unfold shp at h;simpa using congrArg W4 (of_decide_eq_true h)
theorem jQ(xa xb:List St):shp xa xb=shp xb xa:=by unfold shp;simp only[eq_comm]
theorem w8(xa:List St)(n:Int):iq xa n=some (decide ((xa.length:Int)<=n)):=rfl
theorem uN(xa xb:List St)(hn:xa.length<=1073741824):mn xa xb=some (shp xa xb):=by
 unfold mn;by_cases hl:xa.length=xb.length
 . rw[nN hl,cond_false,zu xa xb hl ?_ ?_]
   . cases shp xa xb <;> rfl
   . intro k h;unfold ud;have h2:k<xb.length:=by omega
     by_cases q:xa[k].2=xb[k].2 <;> simp[aj h,aj h2,h,q,an h (by omega),BR]
   . simp[ud]
 . rw[ky hl,cond_true,wP hl]
theorem jF(xa xb:List St)(hn:xa.length<=1073741824):dW xa xb=some (shp xa xb):=by
 unfold dW nO;by_cases hl:xa.length=xb.length
 . rw[nN hl,cond_false,zu xa xb hl ?_ ?_]
   . cases shp xa xb <;> rfl
   . intro k h;unfold tc um;have h2:k<xb.length:=by omega
     by_cases q:xa[k].2=xb[k].2 <;> simp[aj h,aj h2,h,q,an h (by omega),BR]
   . simp[tc]
 . rw[ky hl,cond_true,wP hl];rfl
theorem GJ(xa:List St)(n:Int)(m:Bool)(hn:xa.length<=1000000000):qf xa n m=some ((n,false)::xa.map fun x=>(x.1,x.2||m)):=by
 unfold qf;have:=qJ xa (fun x:St=>(x.1,x.2||m)) [(n,false)] (by simp;omega) (body:=yP xa m) (fun c i=>rfl);rw[this];rfl
theorem G1(xa:List St)(n:Int)(m:Bool)(hn:xa.length<=1000000000):uD xa n m=some ((n,false)::xa.map fun x=>(x.1,x.2||m)):=by
 unfold uD;have:=qJ xa (fun x:St=>(x.1,x.2||m)) [(n,false)] (by simp;omega) (body:=ul xa m) (fun c i=>by
   unfold ul;cases hg:aa xa i with
   |none=>simp[hg]
   |some x=>cases h2:x.2 <;> simp[hg,h2])
 rw[this];rfl
theorem zw{α:Type}(xa:List α)(t:α->Bool):(∃k,xa.findIdx? t=some k/\xa.any t=true)\/(xa.findIdx? t=none/\xa.any t=false):=by
 cases h:xa.findIdx? t with
 | none =>
   refine .inr ⟨rfl,?_⟩;rw[ao0];intro x hx;have:=ar0.1 h x hx;simp[this]
 | some k =>
   obtain⟨hk,h1,_⟩:=Z9.1 h;exact .inl ⟨k,rfl,av0.2 ⟨_,X2 hk,h1⟩⟩
def rin(n:Int)(xa:List St):Bool:=xa.any fun x=>decide (x.1<0)||decide (n<=x.1)
def rck(n:Int)(xa:List St):Int:=if 16<xa.length then 6 else if rin n xa then 7 else 0
def sbs(xb:List Int)(x:St):St:=(xb.getD x.1.toNat 0,x.2)
theorem GM{n:Int}{xa:List St}(h:rin n xa=false){k:Nat}{x:St}(hx:xa[k]?=some x):0<=x.1/\x.1<n:=by
 unfold rin at h;have:=ao0.1 h x (cf0 hx);simp at this;omega
theorem qR{xb:List Int}{i:Int}(h:0<=i)(h2:i<(xb.length:Nat)):aa xb i=some (xb.getD i.toNat 0):=by
 unfold aa;rw[if_pos h];have:i.toNat<xb.length:=by omega
 simp[this]
theorem yV(xa:List St)(n:Int)(hn:xa.length<=1073741824):mA xa n=some (!rin n xa):=by
 unfold mA th tj;rw[dC (body:=nP xa n) xa (fun x=>decide (x.1<0)||decide (n<=x.1)) (fun k=>.inr (k:Int)) (.inl ()) ?_ ?_]
 . rcases zw xa (fun x=>decide (x.1<0)||decide (n<=x.1))with⟨k,h1,h2⟩ | ⟨h1,h2⟩
   . rw[h1];unfold rin;simp[h2]
   . rw[h1];unfold rin;simp[h2]
 . intro k hk;unfold nP tR;simp only[dlt hk,cond_true,aj hk,V0,an hk (by omega:xa.length<=9223372036854775807)];cases (decide (xa[k].1<0)||decide (n<=xa[k].1)) <;> rfl
 . simp[nP]
theorem uR(xa:List St)(n:Int)(hn:xa.length<=1073741824):fV xa n=some (rck n xa):=by
 unfold fV rck;rw[yV xa n hn];by_cases h:16<xa.length
 . rw[decide_eq_true (by omega),if_pos h];rfl
 . rw[decide_eq_false (by omega),if_neg h,cond_false];cases rin n xa <;> rfl
theorem zj(xa:List St)(n:Int):pG xa n=some (rck n xa):=by
 unfold pG rck;by_cases h:16<xa.length
 . rw[decide_eq_true (by omega),if_pos h];rfl
 . rw[decide_eq_false (by omega),if_neg h,cond_false];rw[ga (body:=oR xa n) xa (fun x=>decide (x.1<0)||decide (n<=x.1)) (.inr 7) (.inl ()) ?_ ?_]
   . unfold rin;cases (xa.any fun x=>decide (x.1<0)||decide (n<=x.1)) <;> rfl
   . intro k hk;unfold oR;by_cases q:xa[k].1<0 <;> by_cases q2:n<=xa[k].1 <;> simp[hk,aj hk,an hk (by omega:xa.length<=9223372036854775807),q,q2]
   . simp[oR]
theorem FT(xa:List St)(hn:xa.length<=1073741824):pQ xa=some xa:=by
 unfold pQ tH;rw[wh]
 . rw[aI (by simpa using hn)];simp
 . rintro rfl;rw[aI (by simp)];rfl
theorem zk(xa:List St)(xb:List Int)(hn:xa.length<=1073741824):mD xa xb=some (if rin xb.length xa then ([],7)else (xa.map (sbs xb),0)):=by
 unfold mD;rw[yV xa _ hn,V0,FT xa hn];cases h:rin xb.length xa with
 |true=>simp
 | false =>
   simp only[aE0,X7,cond_false,V0,W7,if_false];have hl:=aC (body:=lZ xb xa) (fun k:Nat=>((xa.take k).map (sbs xb)++xa.drop k,(k:Int))) xa.length (b:=xa.map (sbs xb)) ?_ ?_
   . simp only[cg0,aS0,aH0,ab0]at hl;have hl':loop (lZ xb xa) (xa,0)=some (xa.map (sbs xb)):=hl;rw[hl'];rfl
   . intro k hk;have hg:aa ((xa.take k).map (sbs xb)++xa.drop k) (k:Int)=some xa[k]:=by
       rw[aj (by simp;omega)];rw[cZ0 (by simp;omega)];simp[db0,an0 (bt0 hk)]
     have hr:=GM h (k:=k) (x:=xa[k]) (by simp[hk]);unfold lZ;dsimp only;rw[hg];simp only[V0,qR hr.1 hr.2,bL0.2 hk,decide_true,cond_true,an hk (by omega:xa.length<=9223372036854775807),W2]
     congr 3
     rw[ay0 hk,aY0 hk,bu0 _ _ (by simp;omega)];rw[Y6,X4,an0 (bt0 hk),bs0,cU0,X6,X1];rfl
   . simp[lZ]
theorem uH(xa:List St)(xb:List Int)(hn:xa.length<=1073741824):pB xa xb=some (if rin xb.length xa then ([],7)else (xa.map (sbs xb),0)):=by
 unfold pB;have hl:=jM (body:=lK xa xb)
   (fun k=>∃x,xa[k]?=some x/\(x.1<0\/(xb.length:Int)<=x.1)) (fun k:Nat=>((xa.take k).map (sbs xb),(k:Int))) xa.length (fun _=>.inr ([],7)) (.inl (xa.map (sbs xb))) ?_ ?_ ?_
 . simp only[cg0,aS0]at hl
   rcases hl with⟨k,h1,⟨x,h2,h2'⟩,_,h3⟩|⟨h1,h3⟩
   . have:rin xb.length xa=true:=av0.2 ⟨x,cf0 h2,by simpa using h2'⟩;rw[this];erw[h3];rfl
   . have:rin xb.length xa=false:=by
       cases hh:rin xb.length xa with
       |false=>rfl
       | true =>
         obtain⟨x,h4,h5⟩:=av0.1 hh;obtain⟨k,h6,rfl⟩:=Z8 h4;exact absurd ⟨xa[k],by simp[h6],by simpa using h5⟩ (h1 k h6)
     rw[this];erw[h3];rfl
 . intro k hk hp;have hx:¬ (xa[k].1<0\/(xb.length:Int)<=xa[k].1):=fun h=>hp ⟨_,by simp[hk],h⟩
   have h1:((decide (xa[k].1<0))||(decide (((xb.length:Nat):Int)<=xa[k].1)))=false:=by simp;omega
   have ha:=aI (a:=(xa.take k).map (sbs xb)) (b:=[sbs xb xa[k]]) (by simp;omega);have h5:aa xb xa[k].1=some (xb.getD xa[k].1.toNat 0):=qR (by omega) (by omega);unfold lK;dsimp only;simp only[V0,aj hk,h1,cond_false,h5,bL0.2 hk,decide_true,cond_true,an hk (by omega:xa.length<=9223372036854775807)];rw[show app ((xa.take k).map (sbs xb)) [(xb.getD xa[k].1.toNat 0,xa[k].2)]=_ from ha,ay0 hk,X6];rfl
 . rintro k hk ⟨x,h1,h2⟩;have hx:xa[k]=x:=by rw[Z0 hk]at h1;exact ap0 h1
   have h1:((decide (xa[k].1<0))||(decide (((xb.length:Nat):Int)<=xa[k].1)))=true:=by rw[hx];simpa using h2
   unfold lK;dsimp only;simp only[V0,aj hk,h1,cond_true,bL0.2 hk,decide_true]
 . simp[lK]
abbrev Nd:=Int×Int×Int×Int×Bool
def kC(kind f:Int)(x y:St):List Nd:=(x.1,y.1,kind,f,false)::if y.2 then [(y.1,x.1,kind,f,true)]else []
def rel(kind f:Int):List St->List St->List Nd
 |x::xs,y::ys=>kC kind f x y++rel kind (f+1) xs ys
 |_,_=>[]
theorem Bg(kind:Int)(x y:St):∀(xs ys:List St) (f:Int),xs.length=ys.length->rel kind f (xs++[x]) (ys++[y])=rel kind f xs ys++kC kind (f+xs.length) x y
 |[],[],f,_=>by simp[rel]
 |[],_::_,f,h=>by simp at h
 |_::_,[],f,h=>by simp at h
 | a :: xs,b :: ys,f,h=>by
   simp only[aK0,rel,Bg kind x y xs ys (f+1) (by simpa using h),X1,V9];rw[show f+1+(xs.length:Int)=f+((xs.length+1:Nat):Int)by omega]
theorem cU(kind:Int)(xs ys:List St)(f:Int):(rel kind f xs ys).length<=2*xs.length:=by
 induction xs generalizing ys f with
 |nil=>simp[rel]
 | cons a xs ih=>cases ys with
   |nil=>simp[rel]
   | cons b ys =>
     have:=ih ys (f+1);cases hb:b.2 <;> simp[rel,kC,hb] <;> omega
theorem jH(xa xb:List St)(kind f:Int)(hl:xa.length=xb.length)(hn:xa.length<=30)(hf : -9223372036854775808<=f)(hf2:f<=1099511627776)(c:List Nd)(hc:c.length<=10) :
   jc xa xb kind f c=some (c++rel kind f xa xb):=by
 unfold jc;have h:=uZ (body:=om xa xb kind f) xa (fun k=>c++rel kind f (xa.take k) (xb.take k)) (c++rel kind f xa xb) ?_ ?_
 . simp only[cg0,rel,Z6]at h;rw[h];rfl
 . intro k h;have h2:k<xb.length:=by omega
   have hlen:=cU kind (xa.take k) (xb.take k) f;simp only[X4]at hlen;have hw:M0 .i64 (f+(k:Int))=f+k:=w64 (by omega) (by omega);unfold om;rw[aH h,aH h2,Bg _ _ _ _ _ _ (by simp;omega)];have e:(xa.take k).length=k:=by simp;omega
   rw[e];cases hb:xb[k].2 with
   | true =>
     simp[aj h,aj h2,h,hb,an h (by omega),hw,kC];rw[aI (by simp;omega)];simp;rw[aI (by simp;omega)];simp
   | false =>
     simp[aj h,aj h2,h,hb,an h (by omega),hw,kC];rw[aI (by simp;omega)];simp
 . have e:xb.take xa.length=xb:=by rw[hl,Y9]
   simp[om,e]
theorem uB(xa xb:List St)(kind f:Int):lL xa xb kind f=jc xa xb kind f []:=rfl
theorem qd(xa xb:List St)(kind f:Int)(hn:xa.length<=30)(hf : -9223372036854775808<=f)(hf2:f<=1099511627776):ik xa xb kind f=some (if shp xa xb then (rel kind f xa xb,0)else ([],8)):=by
 unfold ik;rw[jF _ _ (by omega),V0];cases hs:shp xa xb with
 |false=>rfl
 |true=>rw[X7,cond_false,uB,jH xa xb kind f (mU hs) hn hf hf2 [] (by simp)];simp
theorem mL(xa xb:List St)(kind f:Int)(hn:xa.length<=30)(hf : -9223372036854775808<=f)(hf2:f<=1099511627776):jv xa xb kind f=some (if shp xa xb then (rel kind f xa xb,0)else ([],8)):=by
 unfold jv;rw[uN _ _ (by omega),V0];cases hs:shp xa xb with
 |false=>rfl
 |true=>rw[X7,cond_false,jH xa xb kind f (mU hs) hn hf hf2 [] (by simp)];simp
def lo(n:Int)(m:Bool)(xa xb:List St):List Nd×Int :=
 if shp ((n,false)::xa.map fun x=>(x.1,x.2||m)) xb then ((n,(xb.head?.getD (0,false)).1,2,0,false)::rel 1 1 xa (xb.drop 1),0)else ([],8)
theorem xh{n:Int}{m:Bool}{xa xb:List St}(h:shp ((n,false)::xa.map fun x=>(x.1,x.2||m)) xb=true):xb.length=xa.length+1:=by
 have:=mU h;simp at this;omega
theorem Ge(xa xb:List St)(n:Int)(m:Bool)(hn:xa.length<=30):py xa xb n m=some (lo n m xa xb):=by
 unfold py lo;rw[GJ _ _ _ (by omega),V0,jQ];by_cases hb:xb.length<=1000
 . rw[jF _ _ (by omega),V0];cases hs:shp xb ((n,false)::xa.map fun x=>(x.1,x.2||m))with
   |false=>rfl
   | true =>
     have hl:=xh (by rw[jQ];exact hs);cases xb with
     |nil=>simp at hl
     | cons y ys =>
       have hl2:xa.length=ys.length:=by simpa using hl.symm
       rw[X7,cond_false,show aa (y::ys) 0=some y from rfl,V0,iR (by simp),V0,uB,jH _ _ _ _ (by simpa using hl2) hn (by omega) (by omega) _ (by simp)];have:=cU 1 xa ys 1;simp only[aH0,V0,bS0,ab0];rw[aI (by simp;omega)];simp
 . have hs:shp xb ((n,false)::xa.map fun x=>(x.1,x.2||m))=false:=wP (by simp;omega);unfold dW nO;rw[ky (by simp;omega),cond_true,hs];rfl
theorem Gh(xa xb:List St)(n:Int)(m:Bool)(hn:xa.length<=30):uA xa xb n m=some (lo n m xa xb):=by
 unfold uA lo;rw[G1 _ _ _ (by omega),V0,uN _ _ (by simp;omega),V0];cases hs:shp ((n,false)::xa.map fun x=>(x.1,x.2||m)) xb with
 |false=>rfl
 | true =>
   have hl:=xh hs;cases xb with
   |nil=>simp at hl
   | cons y ys =>
     have hl2:xa.length=ys.length:=by simpa using hl.symm
     rw[X7,cond_false,show aa (y::ys) 0=some y from rfl,V0,iR (by simp),V0,jH _ _ _ _ (by simpa using hl2) hn (by omega) (by omega) _ (by simp)];simp
def ag(n:Int)(m:Bool)(xa xb:List St):List Nd×Int :=
 match xa,xb with
 | x::xs,y::ys=>if x.2||!shp (x::xs) (y::ys)||(m&&xs.any (fun z=>!z.2))then ([],8)else ((x.1,n,3,0,false)::(n,y.1,2,0,false)::rel 1 1 xs ys,0)
 |_,_=>([],8)
theorem Lj (xa xb:List St) (m:Bool) (hn:xa.length<=30):oe xa xb m=some (match xa with | []=>false | x :: xs=>!(x.2||!shp xa xb||(m&&xs.any (fun z=>!z.2)))):=by
 unfold oe;cases xa with
 |nil=>rfl
 | cons x xs =>
   have e0:decide ((((x::xs).length:Nat):Int)=0)=false:=by simp;omega
   rw[e0,cond_false,show aa (x::xs) 0=some x from rfl,V0,V0];cases hx:x.2 with
   |true=>simp[hx]
   | false =>
     rw[cond_false,jF _ _ (by omega),V0,V0];cases hs:shp (x::xs) xb with
     |false=>simp
     | true =>
       rw[X7,cond_false,iR (by simp),V0];unfold td tg;rw[dC (cu0 1 (x::xs)) (fun z:St=>!z.2) (fun k=>.inr (k:Int)) (.inl ()) ?_ ?_]
       . simp only[bS0,ab0];cases h:xs.findIdx? (fun z:St=>!z.2)with
         | none =>
           have:xs.any (fun z:St=>!z.2)=false:=by
             rw[ao0];intro z hz;have:=ar0.1 h z hz;simpa using this
           simp[this,hx]
         | some k =>
           obtain⟨hk,h1,_⟩:=Z9.1 h;have:xs.any (fun z:St=>!z.2)=true:=av0.2 ⟨_,X2 hk,h1⟩;simp[this,hx]
       . intro k h;unfold tf tP;simp only[bS0,ab0]at h ⊢;have hn':xs.length<=30:=by simp at hn;omega
         cases hz:xs[k].2 <;> simp[aj h,h,an h (by omega),hz]
       . simp[tf]
theorem FZ(xa xb:List St)(n:Int)(m:Bool)(hn:xa.length<=30):pn xa xb n m=some (ag n m xa xb):=by
 unfold pn;rw[Lj _ _ _ hn,V0];cases xa with
 |nil=>rfl
 | cons x xs =>
   simp only[ag,ez0];by_cases hc:(x.2||!shp (x::xs) xb||(m&&xs.any (fun z=>!z.2)))=true
   . rw[hc];cases xb <;> simp_all
   . have hc':(x.2||!shp (x::xs) xb||(m&&xs.any (fun z=>!z.2)))=false:=by simpa using hc
     have hs:shp (x::xs) xb=true:=by
       cases q:shp (x::xs) xb with
       |true=>rfl
       |false=>rw[q]at hc';simp at hc'
     have hl:=mU hs;cases xb with
     |nil=>simp at hl
     | cons y ys =>
       simp only[hc',cond_false,if_false,show aa (x::xs) 0=some x from rfl,show aa (y::ys) 0=some y from rfl,V0,iR (show 1<=(x::xs).length by simp),iR (show 1<=(y::ys).length by simp),bS0,ab0,W7];have hl2:xs.length=ys.length:=by simpa using hl
       rw[uB,jH _ _ _ _ hl2 (by simp at hn;omega) (by omega) (by omega) _ (by simp),V0];have:=cU 1 xs ys 1;simp at hn;rw[aI (by simp;omega)];simp
theorem FV (xa xb:List St) (n:Int) (m:Bool) (hn:xa.length<=30):uo xa xb n m=some (ag n m xa xb):=by
 unfold uo;cases xa with
 |nil=>rfl
 | cons x xs =>
   have e0:decide ((((x::xs).length:Nat):Int)=0)=false:=by simp;omega
   rw[e0,cond_false,uN _ _ (by omega),V0,V0];cases hs:shp (x::xs) xb with
   |false=>cases xb <;> simp[ag,hs]
   | true =>
     have hl:=mU hs;cases xb with
     |nil=>simp at hl
     | cons y ys =>
       have hl2:xs.length=ys.length:=by simpa using hl
       simp only[X7,cond_false,show aa (x::xs) 0=some x from rfl,show aa (y::ys) 0=some y from rfl,V0];cases hx:x.2 with
       |true=>simp[ag,hx]
       | false =>
         have hn':xs.length<=29:=by simp at hn;omega
         have hloop:loop (jj (x::xs) m) 1=some (if (m&&xs.any (fun z=>!z.2))then .inr ([],8)else .inl ()):=by
           have:=Jp (body:=jj (x::xs) m) (fun k=>(m&&(xs[k]?.any (fun z=>!z.2)))=true) (fun k=>((k+1:Nat):Int)) xs.length (.inr ([],8)) (.inl ()) ?_ ?_ ?_
           . rw[show ((1:Int))=((0+1:Nat):Int)from rfl,this]
             congr 1
             by_cases hq:(m&&xs.any (fun z=>!z.2))=true
             . rw[if_pos hq,if_pos];simp only[Y1]at hq;obtain⟨z,hz,hz2⟩:=av0.1 hq.2;obtain⟨k,hk,rfl⟩:=Z8 hz;exact⟨k,hk,by simp[hq.1,hk];simpa using hz2⟩
             . rw[if_neg hq,if_neg];rintro⟨k,hk,hk2⟩;apply hq;simp[hk]at hk2;rw[hk2.1,cd0];exact av0.2 ⟨_,X2 hk,by simpa using hk2.2⟩
           . intro k hk hp;have h2:k+1<(x::xs).length:=by simp;omega
             simp[hk]at hp;unfold jj;rw[dlt h2,cond_true,an h2 (by simp;omega)];cases m with
             |false=>simp
             |true=>simp[DV h2,hp rfl]
           . intro k hk hp;have h2:k+1<(x::xs).length:=by simp;omega
             simp[hk]at hp;unfold jj;rw[dlt h2,cond_true];simp[DV h2,hp.1,hp.2]
           . simp[jj]
         rw[hloop];by_cases hq:(m&&xs.any (fun z=>!z.2))=true
         . simp[ag,hx,hs,hq]
         . have hq':(m&&xs.any (fun z=>!z.2))=false:=by simpa using hq
           rw[hq'];simp only[cond_false,V0,if_false,iR (show 1<=(x::xs).length by simp),iR (show 1<=(y::ys).length by simp),bS0,ab0,W7];rw[jH _ _ _ _ hl2 (by omega) (by omega) (by omega) _ (by simp)];simp[ag,hx,hs,hq']
theorem IF(n:Int)(m:Bool)(xa xb:List St)(h:xa.length<=30):(lo n m xa xb).1.length<=100:=by
 unfold lo;have:=cU 1 xa (xb.drop 1) 1;simp at this;split <;> simp;omega
theorem IA(n:Int)(m:Bool)(xa xb:List St)(h:xa.length<=30):(ag n m xa xb).1.length<=100:=by
 unfold ag;split
 . rename_i x xs y ys;have:=cU 1 xs ys 1;simp at h;split <;> simp;omega
 . simp
abbrev Sg:=Int×List (Int×Int)×List (List St)×List St
def ck(n:Int)(b:Int×Int):Bool:=(((decide (b.1<0))||(decide (n<=b.1)))||(decide (b.2<0)))||(decide (n<=b.2))
def lc(n:Int)(A:List (List St)):Unit⊕Int:=match A.findIdx? (fun t=>!decide (rck n t=0))with|some k=>.inr (rck n (A.getD k []))|none=>.inl ()
def chk(s:Sg):Int :=
 if s.1<0 then 7 else if 16<s.1\/16<s.2.1.length\/16<s.2.2.1.length then 6 else if s.2.1.any (ck s.1)then 7
 else match lc s.1 s.2.2.1 with|.inr e=>e|.inl ()=>rck s.1 s.2.2.2
theorem Cf(a:Int)(b c:Nat):(((decide (16<a))||(decide (16<((b:Nat):Int))))||(decide (16<((c:Nat):Int))))=decide (16<a\/16<b\/16<c):=by
 by_cases h1:16<a <;> by_cases h2:16<b <;> by_cases h3:16<c <;> simp[h1,h2,h3] <;> omega
theorem Dw{n:Int}{A:List (List St)}{body:Int->Option (Int⊕(Unit⊕Int))}(hn:A.length<=1000)(hb:∀(k:Nat) (h:k<A.length),body (k:Int)=cond (!decide (rck n A[k]=0)) (some (.inr (.inr (rck n A[k])))) (some (.inl (M0 .i64 ((k:Int)+1)))))(he:body (A.length:Int)=some (.inr (.inl ()))):loop body 0=some (lc n A):=by
 rw[dC A (fun t=>!decide (rck n t=0)) (fun k=>.inr (rck n (A.getD k []))) (.inl ()) ?_ he]
 . rfl
 . intro k hk;rw[hb k hk,an hk (by omega:A.length<=9223372036854775807)];have:A.getD k []=A[k]:=by simp[ag0,hk]
   rw[this];cases (!decide (rck n A[k]=0)) <;> rfl
theorem zo(s:Sg)(hr:s.2.2.2.length<=1000)(ha:∀t∈s.2.2.1,t.length<=1000):fW s=some (chk s):=by
 obtain⟨n,B,A,R⟩:=s;unfold fW chk;dsimp only at *;by_cases h0:n<0
 . rw[decide_eq_true h0,if_pos h0];rfl
 . rw[decide_eq_false h0,if_neg h0,cond_false,Cf];by_cases h1:16<n\/16<B.length\/16<A.length
   . rw[decide_eq_true h1,if_pos h1];rfl
   . rw[decide_eq_false h1,if_neg h1,cond_false];rw[ga (body:=pv (n,B,A,R)) B (ck n) (.inr 7) (.inl ()) ?_ ?_]
     . cases hb:B.any (ck n)with
       |true=>rfl
       | false =>
         simp only[W7,if_false,V0];rw[Dw (body:=pm (n,B,A,R)) (n:=n) (A:=A) (by omega) ?_ ?_]
         . rw[uR R n (by omega)];simp only[V0];cases lc n A <;> rfl
         . intro k hk;unfold pm;have:=ha A[k] (X2 hk);simp only[dlt hk,cond_true,aj hk,V0];rw[uR _ _ (by omega),V0]
         . simp[pm]
     . intro k hk;unfold pv oh;simp only[dlt hk,cond_true,aj hk,V0,an hk (by omega:B.length<=9223372036854775807)];generalize B[k]=b;obtain⟨b1,b2⟩:=b;have e (x:Int):(!((decide (0<=x))&&(decide (x<n))))=(decide (x<0)||decide (n<=x)):=by
         by_cases p:x<0 <;> by_cases q:n<=x <;> simp[p,q] <;> omega
       simp only[e,ck];by_cases p1:b1<0 <;> by_cases p2:n<=b1 <;> by_cases p3:b2<0 <;> by_cases p4:n<=b2 <;> simp[p1,p2,p3,p4]
     . simp[pv]
theorem FG(s:Sg):pJ s=some (chk s):=by
 obtain⟨n,B,A,R⟩:=s;unfold pJ chk;dsimp only at *;by_cases h0:n<0
 . rw[decide_eq_true h0,if_pos h0];rfl
 . rw[decide_eq_false h0,if_neg h0,cond_false,Cf];by_cases h1:16<n\/16<B.length\/16<A.length
   . rw[decide_eq_true h1,if_pos h1];rfl
   . rw[decide_eq_false h1,if_neg h1,cond_false];rw[ga (body:=oU (n,B,A,R)) B (ck n) (.inr 7) (.inl ()) ?_ ?_]
     . cases hb:B.any (ck n)with
       |true=>rfl
       | false =>
         simp only[W7,if_false,V0];rw[Dw (body:=oX (n,B,A,R)) (n:=n) (A:=A) (by omega) ?_ ?_]
         . rw[zj R n];simp only[V0];cases lc n A <;> rfl
         . intro k hk;unfold oX;simp only[dlt hk,cond_true,aj hk,V0];rw[zj _ _,V0]
         . simp[oX]
     . intro k hk;unfold oU;simp only[dlt hk,cond_true,aj hk,V0,an hk (by omega:B.length<=9223372036854775807)];generalize B[k]=b;show cond (ck n b) _ _=_;cases ck n b <;> rfl
     . simp[oU]
theorem vU{n:Int}{t:List St}(h:rck n t=0):t.length<=16/\rin n t=false:=by
 unfold rck at h;by_cases q:16<t.length
 . rw[if_pos q]at h;cases h
 . rw[if_neg q]at h;cases hr:rin n t with
   |true=>rw[hr]at h;cases h
   |false=>exact⟨by omega,rfl⟩
theorem AI{s:Sg}(h:chk s=0):0<=s.1/\s.1<=16/\s.2.1.length<=16/\s.2.2.1.length<=16/\(∀b∈s.2.1,ck s.1 b=false)/\(∀t∈s.2.2.1,t.length<=16/\rin s.1 t=false)/\s.2.2.2.length<=16/\rin s.1 s.2.2.2=false:=by
 unfold chk at h;by_cases h0:s.1<0
 . rw[if_pos h0]at h;cases h
 . rw[if_neg h0]at h;by_cases h1:16<s.1\/16<s.2.1.length\/16<s.2.2.1.length
   . rw[if_pos h1]at h;cases h
   . rw[if_neg h1]at h;cases hb:s.2.1.any (ck s.1)with
     |true=>rw[hb]at h;cases h
     | false =>
       rw[hb]at h;simp only[W7,if_false]at h;unfold lc at h;cases hf:s.2.2.1.findIdx? (fun t=>!decide (rck s.1 t=0))with
       | some k =>
         rw[hf]at h;obtain⟨hk,h2,_⟩:=Z9.1 hf;have:s.2.2.1.getD k []=s.2.2.1[k]:=by simp[ag0,hk]
         simp only[this]at h;simp[h]at h2
       | none =>
         rw[hf]at h;have hz:=ar0.1 hf;refine⟨by omega,by omega,by omega,by omega,fun b hb2=>?_,fun t ht=>vU (by simpa using hz t ht),(vU h).1,(vU h).2⟩;have:=ao0.1 hb b hb2;simpa using this
theorem qQ(names:List Int)(xs ys:List St):shp xs (ys.map (sbs names))=shp xs ys:=by
 unfold shp;rw[dL0];rfl
theorem Bs(names:List Int)(xs ys:List St):shp (xs.map (sbs names)) ys=shp xs ys:=by
 rw[jQ,qQ,jQ]
def mis(A C:List (List St))(k:Nat):Bool:=!shp (C.getD k []) (A.getD k [])
def fl(names:List Int)(A C:List (List St))(j:Nat):List Nd:=rel 5 (16*(j:Int)) (C.getD j []) ((A.getD j []).map (sbs names))
def fls(names:List Int)(A C:List (List St)):Nat->List Nd
 |0=>[]
 |k+1=>fls names A C k++fl names A C k
theorem j8(names:List Int)(A C:List (List St))(hc:∀t∈C,t.length<=20):∀k,(fls names A C k).length<=40*k
 |0=>by simp[fls]
 | k + 1=>by
   have ih:=j8 names A C hc k;have h1:=cU 5 (C.getD k []) ((A.getD k []).map (sbs names)) (16*(k:Int));have h2:(C.getD k []).length<=20:=by
     by_cases h:k<C.length
     . have:C.getD k []=C[k]:=by simp[ag0,h]
       rw[this];exact hc _ (X2 h)
     . have:C.getD k []=[]:=by simp[ag0,ai0 (eU0.1 h)]
       rw[this];simp
   simp only[fls,W3,fl];omega
def bds(names:List Int)(B:List (Int×Int)):Nat->List Nd
 |0=>[]
 |k+1=>bds names B k++[(names.getD (B.getD k (0,0)).1.toNat 0,names.getD (B.getD k (0,0)).2.toNat 0,4,(k:Int),false)]
theorem j7(names:List Int)(B:List (Int×Int)):∀k,(bds names B k).length=k
 |0=>rfl
 |k+1=>by simp[bds,j7 names B k]
def csp(s:Sg)(names:List Int)(C:List (List St))(D:List St):List Nd×Int :=
 if chk s≠0 then ([],chk s)
 else if ¬ (names.length:Int)=s.1\/¬ C.length=s.2.2.1.length then ([],2)
 else if (Z1 s.2.2.1.length).any (mis s.2.2.1 C)then ([],8)
 else if shp D s.2.2.2 then (bds names s.2.1 s.2.1.length++fls names s.2.2.1 C s.2.2.1.length++rel 6 0 (s.2.2.2.map (sbs names)) D,0)else ([],8)
theorem zq{names:List Int}{n:Int}{B:List (Int×Int)}{body:(List Nd×Int)->Option ((List Nd×Int)⊕List Nd)}(hB:B.length<=16)(hn:(names.length:Int)=n)(hb:∀b∈B,ck n b=false)
   (hgo:∀(l:List Nd) (k:Nat) (h:k<B.length),body (l,(k:Int))=((aa names B[k].1).bind fun x=>(aa names B[k].2).bind fun y=>(app l [(x,y,4,(k:Int),false)]).bind fun z=>some (.inl (z,M0 .i64 ((k:Int)+1))))) (he:∀l,body (l,(B.length:Int))=some (.inr l)) :
   loop body ([],0)=some (bds names B B.length):=by
 refine aC (body:=body) (fun k=>(bds names B k,(k:Int))) B.length ?_ (he _);intro k hk;have h1:=hb B[k] (X2 hk);have e:B.getD k (0,0)=B[k]:=by simp[ag0,hk]
 unfold ck at h1;simp at h1;rw[hgo _ k hk,qR (by omega) (by omega),V0,qR (by omega) (by omega),V0,aI (by simp[j7];omega),V0,an hk (by omega)];simp only[bds,e]
theorem mY{names:List Int}{n:Int}{t:List St}(hn:(names.length:Int)=n)(h:rin n t=false):rin names.length t=false:=by rw[hn];exact h
theorem Gf (s:Sg) (names:List Int) (C:List (List St)) (D:List St) (hr:s.2.2.2.length<=20) (ha:∀ t∈s.2.2.1,t.length<=20) (hC:∀ t∈C,t.length<=20) (hD:D.length<=20) :
   mI s names C D=some (csp s names C D):=by
 have hck:=zo s (by omega) (fun t ht=>by have:=ha t ht;omega);unfold mI uk csp;rw[show fW (s.1,s.2.1,s.2.2.1,s.2.2.2)=some (chk s)from hck];obtain⟨n,B,A,R⟩:=s;dsimp only at *;by_cases h0:chk (n,B,A,R)=0
 . obtain ⟨n0, n1, hB, hA, hb, hat, hR, hrin⟩ := AI h0;dsimp only at n0 n1 hB hA hb hat hR hrin;simp only [h0,V0,decide_true,X7,cond_false,ne_eq,not_true_eq_false,if_false];by_cases h1:¬ (names.length:Int)=n\/¬ C.length=A.length
   . have:((!decide ((((names.length:Nat):Int))=n))||(!decide ((((C.length:Nat):Int))=(((A.length:Nat):Int)))))=true:=by simp;omega
     rw[this,if_pos h1];rfl
   . have:((!decide ((((names.length:Nat):Int))=n))||(!decide ((((C.length:Nat):Int))=(((A.length:Nat):Int)))))=false:=by simp;omega
     rw[this,if_neg h1,cond_false];have hn:(names.length:Int)=n:=by omega
     have hl:C.length=A.length:=by omega
     rw[ga (body:=oL (n,B,A,R) C) (Z1 A.length) (mis A C) (.inr 8) (.inl ()) ?_ ?_]
     . cases hm:(Z1 A.length).any (mis A C)with
       |true=>rfl
       | false =>
         simp only[W7,if_false,V0];rw[jF D R (by omega)];cases hs:shp D R with
         |false=>rfl
         | true =>
           simp only[V0,X7,cond_false,decide_true,if_true];rw[zq (body:=pE (n,B,A,R) names) hB hn hb ?_ ?_]
           . simp only[V0];have hfl:=aC (body:=mr (n,B,A,R) names C) (fun k=>(bds names B B.length++fls names A C k,(k:Int))) A.length (b:=bds names B B.length++fls names A C A.length) ?_ ?_
             . have hfl':loop (mr (n,B,A,R) names C) (bds names B B.length,0)=some (bds names B B.length++fls names A C A.length):=by
                 have e0:(bds names B B.length,(0:Int))=(bds names B B.length++fls names A C 0,((0:Nat):Int)):=by simp[fls]
                 rw[e0];exact hfl
               have q1:=j8 names A C hC A.length;have q2:=j7 names B B.length;have q3:=cU 6 (R.map (sbs names)) D 0;rw[Y6]at q3;rw[hfl',V0,zk R names (by omega),mY hn hrin];simp only[W7,if_false,V0];rw[qd _ _ _ _ (by simp;omega) (by omega) (by omega),Bs,jQ,hs];simp only[if_true,V0];rw[aI (by simp only[W3];omega)];rfl
             . intro k hk;have hkC:k<C.length:=by omega
               have ht:=hat A[k] (X2 hk);have hc:=hC C[k] (X2 hkC);have e1:A.getD k []=A[k]:=by simp[ag0,hk]
               have e2:C.getD k []=C[k]:=by simp[ag0,hkC]
               have hsh:shp C[k] A[k]=true:=by
                 have:=ao0.1 hm k (V7.2 hk);unfold mis at this;rw[e1,e2]at this;simpa using this
               have q1:=j8 names A C hC k;have q2:=j7 names B B.length;have q3:=cU 5 C[k] (A[k].map (sbs names)) (16*(k:Int));unfold mr;simp only[dlt hk,cond_true,aj hk,V0];rw[zk _ names (by omega),mY hn ht.2];simp only[W7,if_false,V0,aj hkC];rw[w64 (x:=16*(k:Int)) (by omega) (by omega),qd _ _ _ _ (by omega) (by omega) (by omega),qQ,hsh];simp only[if_true,V0];rw[aI (by simp only[W3];omega),V0,an hk (by omega)];simp only[fls,fl,e1,e2,X1]
             . simp[mr]
           . intro l k hk;unfold pE;simp only[dlt hk,cond_true,aj hk,V0]
           . intro l;simp[pE]
     . intro k hk;simp only[bk0]at hk;have hkC:k<C.length:=by omega
       have e1:A.getD k []=A[k]:=by simp[ag0,hk]
       have e2:C.getD k []=C[k]:=by simp[ag0,hkC]
       have hc:=hC C[k] (X2 hkC);unfold oL;simp only[dlt hk,cond_true,aj hk,aj hkC,V0,bW0,mis,e1,e2,an hk (by omega:A.length<=9223372036854775807)];rw[jF _ _ (by omega),V0];cases shp C[k] A[k] <;> rfl
     . simp[oL]
 . simp[h0]
theorem GF (s:Sg) (names:List Int) (C:List (List St)) (D:List St) (hr:s.2.2.2.length<=20) (ha:∀ t∈s.2.2.1,t.length<=20) (hC:∀ t∈C,t.length<=20) (hD:D.length<=20) :
   pP s names C D=some (csp s names C D):=by
 unfold pP csp;rw[show pJ (s.1,s.2.1,s.2.2.1,s.2.2.2)=some (chk s)from FG s];obtain⟨n,B,A,R⟩:=s;dsimp only at *;by_cases h0:chk (n,B,A,R)=0
 . obtain⟨n0,n1,hB,hA,hb,hat,hR,hrin⟩:=AI h0;dsimp only at n0 n1 hB hA hb hat hR hrin;simp only[h0,V0,decide_true,X7,cond_false,ne_eq,not_true_eq_false,if_false];by_cases h1:¬ (names.length:Int)=n\/¬ C.length=A.length
   . have:((!decide ((((names.length:Nat):Int))=n))||(!decide ((((C.length:Nat):Int))=(((A.length:Nat):Int)))))=true:=by simp;omega
     rw[this,if_pos h1];rfl
   . have:((!decide ((((names.length:Nat):Int))=n))||(!decide ((((C.length:Nat):Int))=(((A.length:Nat):Int)))))=false:=by simp;omega
     rw[this,if_neg h1,cond_false];have hn:(names.length:Int)=n:=by omega
     have hl:C.length=A.length:=by omega
     rw[zq (body:=oY (n,B,A,R) names) hB hn hb ?_ ?_]
     . simp only[V0];have q2:=j7 names B B.length;have hfl:=jM (body:=lR (n,B,A,R) names C) (fun k=>mis A C k=true) (fun k=>(bds names B B.length++fls names A C k,(k:Int))) A.length (fun _=>.inr ([],8)) (.inl (bds names B B.length++fls names A C A.length)) ?_ ?_ ?_
       . have e0:(bds names B B.length,(0:Int))=(bds names B B.length++fls names A C 0,((0:Nat):Int)):=by simp[fls]
         rw[e0]
         rcases hfl with⟨k,k1,k2,_,k3⟩|⟨k1,k3⟩
         . have:(Z1 A.length).any (mis A C)=true:=av0.2 ⟨k,V7.2 k1,k2⟩;rw[k3,this];rfl
         . have:(Z1 A.length).any (mis A C)=false:=by
             rw[ao0];intro k hk;exact k1 k (V7.1 hk)
           rw[k3,this];have q1:=j8 names A C hC A.length;have q3:=cU 6 (R.map (sbs names)) D 0;rw[Y6]at q3;simp only[V0,W7,if_false];rw[uH R names (by omega),mY hn hrin];simp only[W7,if_false,V0];rw[mL _ _ _ _ (by simp;omega) (by omega) (by omega),Bs,jQ];cases hs:shp D R with
           |false=>rfl
           | true =>
             simp only[if_true,V0,decide_true,X7,cond_false];rw[aI (by simp only[W3];omega)];rfl
       . intro k hk hp;have hkC:k<C.length:=by omega
         have ht:=hat A[k] (X2 hk);have hc:=hC C[k] (X2 hkC);have e1:A.getD k []=A[k]:=by simp[ag0,hk]
         have e2:C.getD k []=C[k]:=by simp[ag0,hkC]
         have hsh:shp C[k] A[k]=true:=by
           unfold mis at hp;rw[e1,e2]at hp;simpa using hp
         have q1:=j8 names A C hC k;have q3:=cU 5 C[k] (A[k].map (sbs names)) (16*(k:Int));unfold lR;simp only[dlt hk,cond_true,aj hk,V0];rw[uH _ names (by omega),mY hn ht.2];simp only[W7,if_false,V0,aj hkC];rw[w64 (x:=16*(k:Int)) (by omega) (by omega),mL _ _ _ _ (by omega) (by omega) (by omega),qQ,hsh];simp only[if_true,V0,decide_true,X7,cond_false];rw[aI (by simp only[W3];omega),V0,an hk (by omega)];simp only[fls,fl,e1,e2,X1]
       . intro k hk hp;have hkC:k<C.length:=by omega
         have ht:=hat A[k] (X2 hk);have hc:=hC C[k] (X2 hkC);have e1:A.getD k []=A[k]:=by simp[ag0,hk]
         have e2:C.getD k []=C[k]:=by simp[ag0,hkC]
         have hsh:shp C[k] A[k]=false:=by
           unfold mis at hp;rw[e1,e2]at hp;simpa using hp
         unfold lR;simp only[dlt hk,cond_true,aj hk,V0];rw[uH _ names (by omega),mY hn ht.2];simp only[W7,if_false,V0,aj hkC];rw[w64 (x:=16*(k:Int)) (by omega) (by omega),mL _ _ _ _ (by omega) (by omega) (by omega),qQ,hsh];rfl
       . simp[lR]
     . intro l k hk;unfold oY;simp only[dlt hk,cond_true,aj hk,V0]
     . intro l;simp[oY]
 . simp[h0]
theorem J0(s:Sg)(names:List Int)(C:List (List St))(D:List St)(hs:s.2.1.length<=20/\s.2.2.1.length<=20/\s.2.2.2.length<=20)(hC:∀t∈C,t.length<=20):(csp s names C D).1.length<=4000:=by
 have q1:=j8 names s.2.2.1 C hC s.2.2.1.length;have q2:=j7 names s.2.1 s.2.1.length;have q3:=cU 6 (s.2.2.2.map (sbs names)) D 0;rw[Y6]at q3;unfold csp;split
 . simp
 . split
   . simp
   . split
     . simp
     . split
       . simp only[W3];omega
       . simp
abbrev Stm:=Int×Int×Int×Int×Bool
def bF(k:Int):Bool:=(((decide (k=1))||(decide (k=2)))||(decide (k=3)))||(decide (k=5))
def bG(k:Int):Bool:=(decide (1<=k))&&(decide (k<=4))
def co(k:Int):Bool:=(decide (k=2))||(decide (k=3))
def fOk(x:Stm):Bool:=decide (0<=x.1)&&decide (x.1<=5)&&(bF x.1||decide (x.2.1=0))&&(bG x.1||decide (x.2.2.1=0))&&(co x.1||(decide (x.2.2.2.1=0)&&!x.2.2.2.2))
theorem six{k:Int}(h:decide (0<=k)&&decide (k<=5)):k=0\/k=1\/k=2\/k=3\/k=4\/k=5:=by simp at h;omega
theorem FU(k:Int):pf k=some (if decide (0<=k)&&decide (k<=5)then (bF k,bG k,co k,true)else (false,false,false,false)):=by
 by_cases h:(decide (0<=k)&&decide (k<=5))=true
 . rcases six h with rfl |rfl |rfl |rfl |rfl|rfl <;> rfl
 . rw[if_neg h];have h':k<0\/5<k:=by simp at h;omega
   have e (j:Int) (h0:0<=j) (h5:j<=5):decide (k=j)=false:=by simp;omega
   unfold pf;simp only[e 0 (by omega) (by omega),e 1 (by omega) (by omega),e 2 (by omega) (by omega),e 3 (by omega) (by omega),e 4 (by omega) (by omega),e 5 (by omega) (by omega),cond_false,V0]
theorem zR(x:Stm):pL x=some (fOk x):=by
 obtain⟨k,d,s,r,m⟩:=x;have h1:mH k=some (bF k):=rfl;have h2:mF k=some (bG k):=rfl;have h3:pq k=some (co k):=rfl;unfold pL fOk;simp only[h1,h2,h3,V0];cases (decide (0<=k)&&decide (k<=5)) <;> simp
 cases (bF k||decide (d=0)) <;> simp
 cases (bG k||decide (s=0)) <;> simp
theorem Kx(x:Stm):pS x=some (if fOk x then (bF x.1,bG x.1,co x.1,0)else (false,false,false,3)):=by
 obtain⟨k,d,s,r,m⟩:=x;unfold pS;rw[FU];by_cases h:(decide (0<=k)&&decide (k<=5))=true
 . simp only[h,if_true,V0,X7,cond_false];have ho:pU (k,d,s,r,m) (bF k,bG k,co k)=some (k,if bF k then d else 0,if bG k then s else 0,if co k then r else 0,if co k then m else false):=by
     unfold pU;cases bF k <;> cases bG k <;> cases co k <;> rfl
   rw[ho,V0];unfold fOk;simp only[h,cd0];cases bF k <;> cases bG k <;> cases co k <;> simp
   all_goals (by_cases q1:d=0 <;> by_cases q2:s=0 <;> by_cases q3:r=0 <;> cases m <;> simp[q1,q2,q3])
 . have h':(decide (0<=k)&&decide (k<=5))=false:=by simpa using h
   unfold fOk;simp[h']
def loc(xb:List (List St))(d:Int):Bool:=decide (0<=d)&&decide (d<((xb.length:Nat):Int))
theorem Co(xb:List (List St))(d:Int):(decide (d<0)||decide (((xb.length:Nat):Int)<=d)) = !loc xb d:=by
 unfold loc;by_cases h1:d<0 <;> by_cases h2:((xb.length:Nat):Int)<=d <;> simp[h1,h2] <;> omega
theorem kg{xb:List (List St)}{d:Int}(h:loc xb d=true)(hb:∀t∈xb,t.length<=20):∃t:List St,aa xb d=some t/\t.length<=20:=by
 unfold loc at h;simp at h;exact⟨_,sZ h.1 h.2,hb _ (X2 _)⟩
def Gd(R:Int)(n:Nd):Prop:=(0<=n.1/\n.1<R)/\(0<=n.2.1/\n.2.1<R)/\(1<=n.2.2.1/\n.2.2.1<=7)/\(0<=n.2.2.2.1/\n.2.2.2.1<=1000000)
theorem ed{R:Int}{t:List St}(h:rin R t=false){x:St}(hx:x∈t):0<=x.1/\x.1<R:=by
 have:=ao0.1 h x hx;simp at this;omega
theorem kl{R:Int}{t:List St}(h:∀x∈t,0<=x.1/\x.1<R):rin R t=false:=by
 unfold rin;rw[ao0];intro x hx;have:=h x hx;simp;omega
theorem iz{R kind:Int}(hk:1<=kind/\kind<=7):∀(xs ys:List St) (f:Int),0<=f->f+(xs.length:Int)<=1000000->rin R xs=false->rin R ys=false->∀n∈rel kind f xs ys,Gd R n
 | x :: xs,y :: ys,f,h0,h1,hx,hy,n,hn=>by
   have a1:=ed hx (x:=x) (by simp);have a2:=ed hy (x:=y) (by simp);simp only[V9]at h1;simp only[rel,V3]at hn
   rcases hn with hn|hn
   . unfold kC at hn
     rcases Y4.1 hn with rfl|hn
     . exact⟨a1,a2,hk,h0,by show f<=_;omega⟩
     . split at hn
       . rcases Y4.1 hn with rfl|hn
         . exact⟨a2,a1,hk,h0,by show f<=_;omega⟩
         . simp at hn
       . simp at hn
   . exact iz hk xs ys (f+1) (by omega) (by omega) (kl fun z hz=>ed hx (by simp[hz])) (kl fun z hz=>ed hy (by simp[hz])) n hn
 |[],_,_,_,_,_,_,n,hn=>by simp[rel]at hn
 |_::_,[],_,_,_,_,_,n,hn=>by simp[rel]at hn
theorem KL{R r:Int}{m:Bool}{xa xb:List St}(hr:0<=r/\r<R)(hl:xa.length<=30)(hx:rin R xa=false)(hy:rin R xb=false):∀n∈(lo r m xa xb).1,Gd R n:=by
 intro n hn;unfold lo at hn;split at hn
 . rename_i hs;have:=xh hs;cases xb with
   |nil=>simp at this
   | cons y ys =>
     rcases Y4.1 hn with rfl|hn
     . exact⟨hr,ed hy (x:=y) (by simp),by simp,by simp⟩
     . exact iz (by decide) xa _ 1 (by omega) (by omega) hx (kl fun z hz=>ed hy (eC0 hz)) n hn
 . simp at hn
theorem JC{R r:Int}{m:Bool}{xa xb:List St}(hr:0<=r/\r<R)(hl:xa.length<=30)(hx:rin R xa=false)(hy:rin R xb=false):∀n∈(ag r m xa xb).1,Gd R n:=by
 intro n hn;unfold ag at hn;split at hn
 . split at hn
   . simp at hn
   . rename_i x xs y ys _;simp only[V9]at hl
     rcases Y4.1 hn with rfl|hn
     . exact⟨ed hx (by simp),hr,by simp,by simp⟩
     . rcases Y4.1 hn with rfl|hn
       . exact⟨hr,ed hy (by simp),by simp,by simp⟩
       . exact iz (by decide) xs ys 1 (by omega) (by omega) (kl fun z hz=>ed hx (by simp[hz])) (kl fun z hz=>ed hy (by simp[hz])) n hn
 . simp at hn
theorem jP{α:Type}{l:List α}{i:Int}{x:α}(h:aa l i=some x):x∈l:=cf0 (dY h).2.1
theorem Fx (x:Stm) (xb:List (List St)) (xc:Int) (hb:∀ t∈xb,t.length<=20):∃ l e,jz x xb xc=some (l,e)/\mj x xb xc=some (l,e)/\l.length<=1000/\((∀ t∈xb,rin xc t=false)->∀ n∈l,Gd xc n):=by
 obtain⟨k,d,s,r,m⟩:=x;unfold jz mj;have g1:mH k=some (bF k):=rfl;have g2:mF k=some (bG k):=rfl;have g3:pq k=some (co k):=rfl;have g4 (d:Int):ov d xb=some (loc xb d):=rfl;simp only[Kx,zR,V0,g1,g2,g3,g4,Co];cases hf:fOk (k,d,s,r,m)with
 |false=>exact⟨[],3,rfl,rfl,by simp,by simp⟩
 | true =>
   have hk:k=0\/k=1\/k=2\/k=3\/k=4\/k=5:=by
     unfold fOk at hf;simp only[Y1]at hf;exact six (by simpa using hf.1.1.1)
   have bad:∃l e,(some (([]:List Nd),(7:Int)):Option (List Nd×Int))=some (l,e)/\(some (([]:List Nd),(7:Int)):Option (List Nd×Int))=some (l,e)/\l.length<=1000/\((∀t∈xb,rin xc t=false)->∀n∈l,Gd xc n):=⟨[],7,rfl,rfl,by simp,by simp⟩
   have good:∃l e,(some (([]:List Nd),(0:Int)):Option (List Nd×Int))=some (l,e)/\(some (([]:List Nd),(0:Int)):Option (List Nd×Int))=some (l,e)/\l.length<=1000/\((∀t∈xb,rin xc t=false)->∀n∈l,Gd xc n):=⟨[],0,rfl,rfl,by simp,by simp⟩
   rcases hk with rfl |rfl |rfl |rfl |rfl|rfl
   . simpa[bF,bG,co]using good
   . have e1:bF 1=true:=rfl;have e2:bG 1=true:=rfl;have e3:co 1=false:=rfl;cases h1:loc xb d with
     |false=>simpa[e1,e2,e3,h1]using bad
     | true =>
       cases h2:loc xb s with
       |false=>simpa[e1,e2,e3,h1,h2]using bad
       | true =>
         obtain⟨t1,a1,b1⟩:=kg h1 hb;obtain⟨t2,a2,b2⟩:=kg h2 hb;simp[e1,e2,e3,h1,h2,a1,a2];rw[qd _ _ _ _ (by omega) (by omega) (by omega),mL _ _ _ _ (by omega) (by omega) (by omega)];have hr:=cU 1 t2 t1 0;by_cases q:shp t2 t1=true
         . exact⟨rel 1 0 t2 t1,0,by simp[q],by simp[q],by omega,fun hg=>by simpa using iz (kind:=1) (by decide) t2 t1 0 (by omega) (by omega) (hg _ (jP a2)) (hg _ (jP a1))⟩
         . exact⟨[],8,by simp[q],by simp[q],by simp,by simp⟩
   all_goals try
     (have e1:bF 4=false:=rfl
      have e2:bG 4=true:=rfl;have e3:co 4=false:=rfl;cases h2:loc xb s with
      |false=>simpa[e1,e2,e3,h2]using bad
      |true=>simpa[e1,e2,e3,h2]using good)
   all_goals try
     (have e1:bF 5=true:=rfl
      have e2:bG 5=false:=rfl;have e3:co 5=false:=rfl;cases h2:loc xb d with
      |false=>simpa[e1,e2,e3,h2]using bad
      |true=>simpa[e1,e2,e3,h2]using good)
   . have e1:bF 2=true:=rfl;have e2:bG 2=true:=rfl;have e3:co 2=true:=rfl;cases h1:loc xb d with
     |false=>simpa[e1,e2,e3,h1]using bad
     | true =>
       cases h2:loc xb s with
       |false=>simpa[e1,e2,e3,h1,h2]using bad
       | true =>
         cases h3:(decide (r<0)||decide (xc<=r))with
         |true=>simpa[e1,e2,e3,h1,h2,h3]using bad
         | false =>
           obtain⟨t1,a1,b1⟩:=kg h1 hb;obtain⟨t2,a2,b2⟩:=kg h2 hb;have hq:=IF r m t2 t1 (by omega);refine⟨(lo r m t2 t1).1,(lo r m t2 t1).2,?_,?_,by omega,fun hg=>KL (by simp at h3;omega) (by omega) (hg _ (jP a2)) (hg _ (jP a1))⟩
           . simp[e1,e2,e3,h1,h2,h3,a1,a2,Ge t2 t1 r m (by omega)]
           . simp[e1,e2,e3,h1,h2,h3,a1,a2,Gh t2 t1 r m (by omega)]
   . have e1:bF 3=true:=rfl;have e2:bG 3=true:=rfl;have e3:co 3=true:=rfl;cases h1:loc xb d with
     |false=>simpa[e1,e2,e3,h1]using bad
     | true =>
       cases h2:loc xb s with
       |false=>simpa[e1,e2,e3,h1,h2]using bad
       | true =>
         cases h3:(decide (r<0)||decide (xc<=r))with
         |true=>simpa[e1,e2,e3,h1,h2,h3]using bad
         | false =>
           obtain⟨t1,a1,b1⟩:=kg h1 hb;obtain⟨t2,a2,b2⟩:=kg h2 hb;have hq:=IA r m t2 t1 (by omega);refine⟨(ag r m t2 t1).1,(ag r m t2 t1).2,?_,?_,by omega,fun hg=>JC (by simp at h3;omega) (by omega) (hg _ (jP a2)) (hg _ (jP a1))⟩
           . simp[e1,e2,e3,h1,h2,h3,a1,a2,FZ t2 t1 r m (by omega)]
           . simp[e1,e2,e3,h1,h2,h3,a1,a2,FV t2 t1 r m (by omega)]
abbrev Tm:=Int×Int×Int×List Int×List Int×List Int
def ki(x:Tm):Bool:=((!decide (x.2.1=0))||(!decide (x.2.2.1=0)))||(decide (0<x.2.2.2.2.2.length))
def xi(x:Tm):Bool :=
 if x.1=1 then decide (x.2.2.2.1.length=1)&&decide (x.2.2.2.2.1.length=0)&&!ki x
 else if x.1=2 then decide (0<x.2.2.2.1.length)&&!ki x
 else if x.1=3 then decide (x.2.2.2.1.length=0)&&decide (x.2.2.2.2.1.length=0)&&!ki x
 else if x.1=4 then decide (x.2.2.2.1.length=1)else false
def du(x:Tm):Int:=if xi x=true then if 16<x.2.2.2.1.length\/16<x.2.2.2.2.1.length\/16<x.2.2.2.2.2.length then 6 else 0 else 3
theorem bnd(a b:Bool):(cond a (some b) (some false):Option Bool)=some (a&&b):=by cases a <;> rfl
theorem dn1(n:Nat):decide ((n:Int)=1)=decide (n=1):=by by_cases h:n=1 <;> simp[h] <;> omega
theorem dn0(n:Nat):decide ((n:Int)=0)=decide (n=0):=by by_cases h:n=0 <;> simp[h] <;> omega
theorem dp0(n:Nat):decide (0<(n:Int))=decide (0<n):=by by_cases h:0<n <;> simp[h] <;> omega
theorem d16(n:Nat):decide (16<(n:Int))=decide (16<n):=by by_cases h:16<n <;> simp[h] <;> omega
theorem Ir(x:Tm):mE x=some (du x):=by
 obtain⟨k,g,d,tos,args,ps⟩:=x;have hc:jA (k,g,d,tos,args,ps)=some (ki (k,g,d,tos,args,ps)):=by unfold jA ki;simp only[dp0]
 unfold mE du;have hr:∀b:Bool,(cond (!b) (some 3) (cond (((decide (16<((tos.length:Nat):Int)))||(decide (16<((args.length:Nat):Int))))||(decide (16<((ps.length:Nat):Int)))) (some 6) (some 0)):Option Int)=some (if b=true then if 16<tos.length\/16<args.length\/16<ps.length then 6 else 0 else 3):=by
   intro b;cases b with
   |false=>rfl
   | true =>
     simp only[d16,X7,cond_false,if_true];by_cases h1:16<tos.length <;> by_cases h2:16<args.length <;> by_cases h3:16<ps.length <;> simp[h1,h2,h3]
 dsimp only at *;have hm:∀(m:Option Bool) (b:Bool),m=some b->(m.bind fun t194=>cond (!t194) (some 3) (cond (((decide (16<((tos.length:Nat):Int)))||(decide (16<((args.length:Nat):Int))))||(decide (16<((ps.length:Nat):Int)))) (some 6) (some 0)):Option Int)=some (if b=true then if 16<tos.length\/16<args.length\/16<ps.length then 6 else 0 else 3):=by
   rintro _ b rfl;exact hr b
 refine hm _ _ ?_;simp only[hc,V0,dn1,dn0,dp0];unfold xi;dsimp only;by_cases k1:k=1
 . simp[k1,bnd,ea0]
 . by_cases k2:k=2
   . simp[k2,bnd,ea0]
   . by_cases k3:k=3
     . simp[k3,bnd,ea0]
     . by_cases k4:k=4
       . simp[k4]
       . simp[k1,k2,k3,k4]
theorem GK(xa:List Int)(n:Int)(hn:xa.length<=1073741824):eU xa n=some (!xa.any (fun x=>decide (x<0)||decide (n<=x))):=by
 unfold eU;rw[ga (body:=oM xa n) xa (fun x=>decide (x<0)||decide (n<=x)) (.inr false) (.inl ()) ?_ ?_]
 . cases xa.any (fun x=>decide (x<0)||decide (n<=x)) <;> rfl
 . intro k hk;unfold oM;by_cases q:xa[k]<0 <;> by_cases q2:n<=xa[k] <;> simp[hk,aj hk,an hk (by omega:xa.length<=9223372036854775807),q,q2]
 . simp[oM]
theorem uL(x:Tm):jy x=some (du x):=by
 obtain⟨k,g,d,tos,args,ps⟩:=x;unfold jy du xi ki;dsimp only;simp only[dn1,dn0,d16,dp0];have hps:decide (0<ps.length) = !decide (ps.length=0):=by by_cases h:ps.length=0 <;> simp[h] <;> omega
 have hto:decide (0<tos.length) = !decide (tos.length=0):=by by_cases h:tos.length=0 <;> simp[h] <;> omega
 rw[hps,hto];have last:(cond (((decide (16<tos.length))||(decide (16<args.length)))||(decide (16<ps.length))) (some 6) (some 0):Option Int)=some (if 16<tos.length\/16<args.length\/16<ps.length then 6 else 0):=by
   by_cases h1:16<tos.length <;> by_cases h2:16<args.length <;> by_cases h3:16<ps.length <;> simp[h1,h2,h3]
 rw[last];generalize (if 16<tos.length\/16<args.length\/16<ps.length then (6:Int)else 0)=z;generalize decide (tos.length=1)=t1;generalize decide (tos.length=0)=t0;generalize decide (args.length=0)=a0;generalize decide (ps.length=0)=p0;generalize decide (g=0)=g0;generalize decide (d=0)=d0;by_cases k1:k=1
 . subst k1;cases t1 <;> cases t0 <;> cases a0 <;> cases p0 <;> cases g0 <;> cases d0 <;> simp
 . by_cases k2:k=2
   . subst k2;cases t1 <;> cases t0 <;> cases a0 <;> cases p0 <;> cases g0 <;> cases d0 <;> simp
   . by_cases k3:k=3
     . subst k3;cases t1 <;> cases t0 <;> cases a0 <;> cases p0 <;> cases g0 <;> cases d0 <;> simp
     . by_cases k4:k=4
       . subst k4;cases t1 <;> cases t0 <;> cases a0 <;> cases p0 <;> cases g0 <;> cases d0 <;> simp
       . have:(decide (k<1)||decide (4<k))=true:=by simp;omega
         simp[this,k1,k2,k3,k4]
theorem Ef{xa:List (List St)}{body:Int->Option (Int⊕(Unit⊕Bool))}(hn:xa.length<=1000)(hb:∀i,body i=cond (decide (i<(((xa.length:Nat):Int)))) ((aa xa i).bind fun x=>(iq x 20).bind fun t=>cond (!t) (some (.inr ((.inr (false))))) (some (.inl (M0 .i64 (i+1))))) (some (.inr ((.inl ()))))) :
   loop body 0=some (if xa.any (fun t=>!decide (t.length<=20))then (dk0 false:Unit⊕Bool)else .inl ()):=by
 refine ga (β:=Unit⊕Bool) xa (fun t=>!decide (t.length<=20)) (.inr false) (.inl ()) ?_ ?_
 . intro k hk;rw[hb];simp only[dlt hk,cond_true,aj hk,V0,an hk (by omega:xa.length<=9223372036854775807),w8];by_cases q:xa[k].length<=20
   . have:decide (((xa[k].length:Nat):Int)<=20)=true:=by simp;omega
     simp[this,q]
   . have:decide (((xa[k].length:Nat):Int)<=20)=false:=by simp;omega
     simp[this,q]
 . rw[hb];simp
theorem BS{xa:List (List St)}(h:xa.any (fun t=>!decide (t.length<=20))=false):∀t∈xa,t.length<=20:=by
 intro t ht;have:=ao0.1 h t ht;simpa using this
theorem DN(s:Sg):fT s=some false\/(fT s=some true/\s.2.1.length<=20/\s.2.2.1.length<=20/\s.2.2.2.length<=20/\∀t∈s.2.2.1,t.length<=20):=by
 unfold fT;by_cases h:20<s.2.1.length\/20<s.2.2.1.length
 . have:((decide (20<(((s.2.1.length:Nat):Int))))||(decide (20<(((s.2.2.1.length:Nat):Int)))))=true:=by simp;omega
   rw[this];exact .inl rfl
 . have:((decide (20<(((s.2.1.length:Nat):Int))))||(decide (20<(((s.2.2.1.length:Nat):Int)))))=false:=by simp;omega
   rw[this,cond_false,w8];by_cases q:s.2.2.2.length<=20
   . have e:decide (((s.2.2.2.length:Nat):Int)<=20)=true:=by simp;omega
     simp only[V0,e,X7,cond_false];rw[Ef (body:=yN s) (xa:=s.2.2.1) (by omega) (fun i=>rfl)];cases hf:s.2.2.1.any (fun t=>!decide (t.length<=20))with
     |true=>exact .inl rfl
     |false=>exact .inr ⟨rfl,by omega,by omega,q,BS hf⟩
   . have e:decide (((s.2.2.2.length:Nat):Int)<=20)=false:=by simp;omega
     simp only[V0,e];exact .inl rfl
def bad(n:Int)(xa:List Int):Bool:=xa.any (fun x=>decide (x<0)||decide (n<=x))
theorem uP(xa:List Int)(n:Int)(hn:xa.length<=1000):iV xa n=some (bad n xa):=by
 unfold iV tq;rw[dC (body:=nQ xa n) xa (fun x=>decide (x<0)||decide (n<=x)) (fun k=>.inr (k:Int)) (.inl ()) ?_ ?_]
 . rcases zw xa (fun x=>decide (x<0)||decide (n<=x))with⟨k,h1,h2⟩ | ⟨h1,h2⟩
   . rw[h1];unfold bad;simp[h2]
   . rw[h1];unfold bad;simp[h2]
 . intro k hk;unfold nQ iZ;simp only[dlt hk,cond_true,aj hk,V0,an hk (by omega:xa.length<=9223372036854775807)];cases (decide (xa[k]<0)||decide (n<=xa[k])) <;> rfl
 . simp[nQ]
theorem dV(xa:List Int)(n:Int)(hn:xa.length<=1000):eU xa n=some (!bad n xa):=GK xa n (by omega)
abbrev Ar:=Int×Int×List (List St)×List St×List Sg
theorem HC{x:Tm}{a:Ar}(hx:x.2.2.2.2.1.length<=20)(hb:bad (a.2.2.1.length:Int) x.2.2.2.2.1=false)(hL:∀t∈a.2.2.1,t.length<=20) :
   ∃C:List (List St),loop (jq x a) ([],0)=some C/\(∀t∈C,t.length<=20)/\∀t∈C,t∈a.2.2.1:=by
 have hin (k:Nat) (hk:k<x.2.2.2.2.1.length):0<=x.2.2.2.2.1[k]/\x.2.2.2.2.1[k]<(a.2.2.1.length:Int):=by
   have:=ao0.1 hb _ (X2 hk);simp at this;omega
 have hl:=aC (body:=jq x a) (fun k:Nat=>((x.2.2.2.2.1.take k).map (fun i=>a.2.2.1.getD i.toNat []),(k:Int))) x.2.2.2.2.1.length (b:=x.2.2.2.2.1.map (fun i=>a.2.2.1.getD i.toNat [])) ?_ ?_
 . have hm:∀t∈x.2.2.2.2.1.map (fun i=>a.2.2.1.getD i.toNat []),t∈a.2.2.1:=by
     intro t ht;obtain⟨i,hi,rfl⟩:=Y7.1 ht;obtain⟨k,hk,rfl⟩:=Z8 hi;have h2:=hin k hk;have:x.2.2.2.2.1[k].toNat<a.2.2.1.length:=by omega
     have e:a.2.2.1.getD x.2.2.2.2.1[k].toNat []=a.2.2.1[x.2.2.2.2.1[k].toNat]:=by simp[ag0,this]
     rw[e];exact X2 _
   refine⟨_,hl,fun t ht=>?_,hm⟩;obtain⟨i,hi,rfl⟩:=Y7.1 ht;obtain⟨k,hk,rfl⟩:=Z8 hi;have h2:=hin k hk;have:x.2.2.2.2.1[k].toNat<a.2.2.1.length:=by omega
   have e:a.2.2.1.getD x.2.2.2.2.1[k].toNat []=a.2.2.1[x.2.2.2.2.1[k].toNat]:=by simp[ag0,this]
   rw[e];exact hL _ (X2 _)
 . intro k hk;have h2:=hin k hk;have h3:x.2.2.2.2.1[k].toNat<a.2.2.1.length:=by omega
   have e:a.2.2.1.getD x.2.2.2.2.1[k].toNat []=a.2.2.1[x.2.2.2.2.1[k].toNat]:=by simp[ag0,h3]
   unfold jq;simp only[dlt hk,cond_true,aj hk,V0];rw[sZ h2.1 h2.2,V0,aI (by simp;omega),V0,an hk (by omega),aH hk,X6];simp only[X5,aS0,e]
 . simp[jq]
theorem vj{R:Int}{names:List Int}(hR:0<R)(hn:bad R names=false)(i:Nat):0<=names.getD i 0/\names.getD i 0<R:=by
 by_cases q:i<names.length
 . have e:names.getD i 0=names[i]:=by simp[ag0,q]
   rw[e];have:=ao0.1 hn _ (X2 q);simp at this;omega
 . have e:names.getD i 0=0:=by simp[ag0,ai0 (eU0.1 q)]
   rw[e];omega
theorem AG{R:Int}{names:List Int}(hR:0<R)(hn:bad R names=false){t:List St}:rin R (t.map (sbs names))=false:=by
 refine kl fun x hx=>?_
 obtain⟨y,_,rfl⟩:=Y7.1 hx;exact vj hR hn _
theorem Ik {R:Int} {s:Sg} {names:List Int} {C:List (List St)} {D:List St} (hR:0 < R) (hn:bad R names=false) (hC:∀ t∈C,t.length<=20/\rin R t=false) (hD:rin R D=false) (hs:s.2.1.length<=20/\s.2.2.1.length<=20/\s.2.2.2.length<=20):∀ n∈(csp s names C D).1,Gd R n:=by
 intro n h;unfold csp at h;split at h
 . simp at h
 split at h
 . simp at h
 split at h
 . simp at h
 split at h
 . have hb : ∀ k, k <= 20 -> ∀ n ∈ bds names s.2.1 k, Gd R n := by
     intro k
     induction k with
     |zero=>intro _ n hn;simp[bds]at hn
     | succ k ih =>
       intro hk n hn';simp only[bds,V3,Y2]at hn'
       rcases hn' with hn'|rfl
       . exact ih (by omega) n hn'
       . exact⟨vj hR hn _,vj hR hn _,by simp,by show (0:Int)<=(k:Int);omega,by show (k:Int)<=_;omega⟩
   have hf : ∀ k, k <= 20 -> ∀ n ∈ fls names s.2.2.1 C k, Gd R n := by
     intro k
     induction k with
     |zero=>intro _ n hn;simp[fls]at hn
     | succ k ih =>
       intro hk n hn';simp only[fls,V3]at hn'
       rcases hn' with hn'|hn'
       . exact ih (by omega) n hn'
       . unfold fl at hn';have hc:(C.getD k []).length<=20/\rin R (C.getD k [])=false:=by
           by_cases q:k<C.length
           . have e:C.getD k []=C[k]:=by simp[ag0,q]
             rw[e];exact hC _ (X2 q)
           . have e:C.getD k []=[]:=by simp[ag0,ai0 (eU0.1 q)]
             rw[e];exact⟨by simp,rfl⟩
         exact iz (by decide) _ _ _ (by omega) (by omega) hc.2 (AG hR hn) n hn'
   rcases V3.1 h with h|h
   . rcases V3.1 h with h|h
     . exact hb _ hs.1 n h
     . exact hf _ hs.2.1 n h
   . exact iz (by decide) _ _ 0 (by omega) (by simp;omega) (AG hR hn) hD n h
 . simp at h
theorem Ka (x:Tm) (a:Ar) (l2:x.2.2.2.1.length<=20) (l3:x.2.2.2.2.1.length<=20) (l4:x.2.2.2.2.2.length<=20) (hR:a.2.2.2.1.length<=20) (hL:∀ t∈a.2.2.1,t.length<=20) (hS:∀ s∈a.2.2.2.2,s.2.1.length<=20/\s.2.2.1.length<=20/\s.2.2.2.length<=20/\∀ t∈s.2.2.1,t.length<=20) :
   ∃l e,jw x a=some (l,e)/\ju x a=some (l,e)/\l.length<=4000/\((0<a.2.1/\(∀t∈a.2.2.1,rin a.2.1 t=false)/\rin a.2.1 a.2.2.2.1=false)->∀n∈l,Gd a.2.1 n):=by
 have same:yM x a=jq x a:=rfl;unfold jw ju;rw[show mE (x.1,x.2.1,x.2.2.1,x.2.2.2.1,x.2.2.2.2.1,x.2.2.2.2.2)=some (du x)from Ir x,show jy (x.1,x.2.1,x.2.2.1,x.2.2.2.1,x.2.2.2.2.1,x.2.2.2.2.2)=some (du x)from uL x,same];have hw:pH (x.1,x.2.1,x.2.2.1,x.2.2.2.1,x.2.2.2.2.1,x.2.2.2.2.2) (a.1,a.2.1,a.2.2.1,a.2.2.2.1,a.2.2.2.2)=some (!(bad a.1 x.2.2.2.1||bad (a.2.2.1.length:Int) x.2.2.2.2.1||bad a.2.1 x.2.2.2.2.2||(decide (x.1=4)&&(bad (a.2.2.1.length:Int) [x.2.2.1]||bad (a.2.2.2.2.length:Int) [x.2.1])))):=by
   unfold pH jr iZ;simp only[V0,uP x.2.2.2.1 _ (by omega:x.2.2.2.1.length<=1000),uP x.2.2.2.2.1 _ (by omega:x.2.2.2.2.1.length<=1000),uP x.2.2.2.2.2 _ (by omega:x.2.2.2.2.2.length<=1000)];have e (n i:Int):bad n [i]=(decide (i<0)||decide (n<=i)):=by simp[bad]
   rw[e,e];cases bad a.1 x.2.2.2.1 <;> cases bad (a.2.2.1.length:Int) x.2.2.2.2.1 <;> cases bad a.2.1 x.2.2.2.2.2 <;> cases decide (x.1=4) <;> cases (decide (x.2.2.1<0)||decide ((a.2.2.1.length:Int)<=x.2.2.1)) <;> cases (decide (x.2.1<0)||decide ((a.2.2.2.2.length:Int)<=x.2.1)) <;> rfl
 rw[hw];by_cases hf:du x=0
 . have o1 (i n:Int):eU [i] n=some (!bad n [i]):=dV [i] n (by simp);simp only[hf,V0,decide_true,X7,cond_false,dV x.2.2.2.1 _ (by omega:x.2.2.2.1.length<=1000),dV x.2.2.2.2.1 _ (by omega:x.2.2.2.2.1.length<=1000),dV x.2.2.2.2.2 _ (by omega:x.2.2.2.2.2.length<=1000),o1,ez0];have seven:∃l e,(some (([]:List Nd),(7:Int)):Option (List Nd×Int))=some (l,e)/\(some (([]:List Nd),(7:Int)):Option (List Nd×Int))=some (l,e)/\l.length<=4000/\((0<a.2.1/\(∀t∈a.2.2.1,rin a.2.1 t=false)/\rin a.2.1 a.2.2.2.1=false)->∀n∈l,Gd a.2.1 n):=⟨[],7,rfl,rfl,by simp,by simp⟩
   cases b1:bad a.1 x.2.2.2.1 with
   |true=>exact seven
   | false =>
     cases b2:bad (a.2.2.1.length:Int) x.2.2.2.2.1 with
     |true=>exact seven
     | false =>
       cases b3:bad a.2.1 x.2.2.2.2.2 with
       |true=>exact seven
       | false =>
         by_cases k4:x.1=4
         . have n3:¬ x.1=3:=by omega
           rw[decide_eq_true k4,decide_eq_false n3];cases b4:bad (a.2.2.1.length:Int) [x.2.2.1]with
           |true=>exact seven
           | false =>
             cases b5:bad (a.2.2.2.2.length:Int) [x.2.1]with
             |true=>exact seven
             | false =>
               obtain⟨C,c1,c2,c3⟩:=HC l3 b2 hL;simp[bad]at b4 b5;simp only[Bool.or_self,dZ0,aE0,X7,cond_false,cond_true,V0,c1,Bool.false_and,cd0];rw[sZ b5.1 b5.2,sZ b4.1 b4.2];have hs:=hS _ (X2 (l:=a.2.2.2.2) (n:=x.2.1.toNat) (by omega));have ht:=hL _ (X2 (l:=a.2.2.1) (n:=x.2.2.1.toNat) (by omega));have hDm:=X2 (l:=a.2.2.1) (n:=x.2.2.1.toNat) (by omega);simp only[V0];generalize a.2.2.2.2[x.2.1.toNat]=S at hs ⊢;generalize a.2.2.1[x.2.2.1.toNat]=D at ht hDm ⊢;rw[show mI (S.1,S.2.1,S.2.2.1,S.2.2.2) x.2.2.2.2.2 C D=_ from Gf S _ C D hs.2.2.1 hs.2.2.2 c2 ht,show pP (S.1,S.2.1,S.2.2.1,S.2.2.2) x.2.2.2.2.2 C D=_ from GF S _ C D hs.2.2.1 hs.2.2.2 c2 ht];have hn:=J0 S x.2.2.2.2.2 C D ⟨hs.1,hs.2.1,hs.2.2.1⟩ c2;exact⟨(csp S x.2.2.2.2.2 C D).1,(csp S x.2.2.2.2.2 C D).2,rfl,rfl,hn,fun hg=>Ik hg.1 b3 (fun t ht=>⟨c2 t ht,hg.2.1 t (c3 t ht)⟩) (hg.2.1 _ hDm) ⟨hs.1,hs.2.1,hs.2.2.1⟩⟩
         . rw[decide_eq_false k4];by_cases k3:x.1=3
           . rw[decide_eq_true k3];cases hz:a.2.2.1 with
             |nil=>exact⟨[],14,by simp,by simp,by simp,by simp⟩
             | cons t ts =>
               have ht:=hL t (by rw[hz];simp);have hl0:decide ((((t::ts).length:Nat):Int)=0)=false:=decide_eq_false (by simp;omega);simp only[hl0,Bool.or_self,dZ0,Bool.false_and,aE0,X7,cond_false,cond_true,V0,show aa (t::ts) 0=some t from rfl];rw[qd _ _ _ _ (by omega) (by omega) (by omega),mL _ _ _ _ (by omega) (by omega) (by omega)];have hr:=cU 7 t a.2.2.2.1 0;by_cases q:shp t a.2.2.2.1=true
               . exact⟨rel 7 0 t a.2.2.2.1,0,by simp[q],by simp[q],by omega,fun hg=>iz (by decide) _ _ 0 (by omega) (by omega) (hg.2.1 t (by simp)) hg.2.2⟩
               . exact⟨[],8,by simp[q],by simp[q],by simp,by simp⟩
           . rw[decide_eq_false k3];exact⟨[],0,rfl,rfl,by simp,by simp⟩
 . exact⟨[],du x,by simp[hf],by simp[hf],by simp,by simp⟩
abbrev S5:Tp:=.cons (.int .i64) (.cons (.sl (.cons (.int .i64) (.one (.int .i64)))) (.cons (.sl (.one (.sl (.cons (.int .i64) (.one .bool))))) (.one (.one (.sl (.cons (.int .i64) (.one .bool)))))))
abbrev Uf:Tp:=.cons (.int .i64) (.cons (.int .i64) (.cons (.int .i64) (.cons (.sl (.int .i64)) (.cons (.sl (.int .i64)) (.one (.sl (.int .i64)))))))
abbrev xr:Tp:=.cons (.int .i64) (.cons (.int .i64) (.cons (.sl (.cons (.int .i64) (.one (.int .i64)))) (.cons (.sl (.one (.sl (.cons (.int .i64) (.one .bool))))) (.cons (.one (.sl (.cons (.int .i64) (.one .bool)))) (.cons (.sl S5) (.one (.sl (.cons (.sl (.cons (.int .i64) (.cons (.int .i64) (.cons (.int .i64) (.cons (.int .i64) (.one .bool)))))) (.one Uf)))))))))
abbrev Blk:=List Stm×Tm
abbrev Bo:=Int×Int×List (Int×Int)×List (List St)×List St×List Sg×List Blk
def stm(l:List Blk):Nat:=(l.map (fun x=>x.1.length)).sum
structure Few(b:Bo):Prop where
 bounds:b.2.2.1.length<=20
 locals:b.2.2.2.1.length<=10
 loc:∀t∈b.2.2.2.1,t.length<=20
 ret:b.2.2.2.2.1.length<=20
 sigs:b.2.2.2.2.2.1.length<=4
 sig:∀s∈b.2.2.2.2.2.1,s.2.1.length<=20/\s.2.2.1.length<=20/\s.2.2.2.length<=20/\∀t∈s.2.2.1,t.length<=20
 blocks:b.2.2.2.2.2.2.length<=8
 term:∀x∈b.2.2.2.2.2.2,x.2.2.2.2.1.length<=20/\x.2.2.2.2.2.1.length<=20/\x.2.2.2.2.2.2.length<=20
 many:stm b.2.2.2.2.2.2<=24
structure Sm(b:Bo):Prop where
 bounds:b.2.2.1.length<=65536
 locals:b.2.2.2.1.length<=65536
 loc:∀t∈b.2.2.2.1,t.length<=20
 ret:b.2.2.2.2.1.length<=20
 sigs:b.2.2.2.2.2.1.length<=65536
 sig:∀s∈b.2.2.2.2.2.1,s.2.1.length<=20/\s.2.2.1.length<=20/\s.2.2.2.length<=20/\∀t∈s.2.2.1,t.length<=20
 blocks:b.2.2.2.2.2.2.length<=65536
 term:∀x∈b.2.2.2.2.2.2,x.2.2.2.2.1.length<=20/\x.2.2.2.2.2.1.length<=20/\x.2.2.2.2.2.2.length<=20
 many:stm b.2.2.2.2.2.2<=65536
theorem Few.sm{b:Bo}(h:Few b):Sm b:=⟨Z7 h.bounds (by omega),Z7 h.locals (by omega),h.loc,h.ret,Z7 h.sigs (by omega),h.sig,Z7 h.blocks (by omega),h.term,Z7 h.many (by omega)⟩
theorem BL{α:Type}(f:α->Nat):∀(l:List α) (x:α),x∈l->f x<=(l.map f).sum
 |[],x,h=>by cases h
 | y :: l,x,h=>by
   rcases Y4.1 h with rfl|h
   . simp
   . have:=BL f l x h;simp;omega
theorem Bd{α:Type}(f:α->Nat)(l:List α)(k:Nat):((l.take k).map f).sum<=(l.map f).sum:=by
 have:l.map f=(l.take k).map f++(l.drop k).map f:=by rw[<- X6,as0]
 rw[this,dT0];omega
theorem Sm.stmts{b:Bo}(h:Sm b){x:Blk}(hx:x∈b.2.2.2.2.2.2):x.1.length<=65536:=by
 have:=BL (fun x:Blk=>x.1.length) _ x hx;have:=h.many;unfold stm at this;omega
theorem vo{X:List Blk}{k:Nat}(hk:k<X.length):stm (X.take (k+1))=stm (X.take k)+X[k].1.length:=by
 unfold stm;rw[aH hk,X6,dT0];simp
theorem Io{b:Bo}(h:Tp.Fit xr b):∀x∈b.2.2.2.2.2.2,x.1.length<=140737488351232:=by
 obtain⟨_,_,_,_,_,_,_,h2⟩:=h;exact fun x hx=>(h2 x hx).1.1
theorem Pj (b : Bo) (hb : ∀ x ∈ b.2.2.2.2.2.2, x.1.length <= 140737488351232) : im b = some false \/ (im b = some true /\ Few b) := by
 obtain⟨u,n,B,L,R,S,X⟩:=b;unfold im;dsimp only at *;have e1:((((decide (20<(((B.length:Nat):Int))))||(decide (10<(((L.length:Nat):Int)))))||(decide (4<(((S.length:Nat):Int)))))||(decide (8<(((X.length:Nat):Int)))))=decide (20<B.length\/10<L.length\/4<S.length\/8<X.length):=by
   by_cases h1:20<B.length <;> by_cases h2:10<L.length <;> by_cases h3:4<S.length <;> by_cases h4:8<X.length <;> simp[h1,h2,h3,h4] <;> omega
 rw[e1];by_cases h0:20<B.length\/10<L.length\/4<S.length\/8<X.length
 . rw[decide_eq_true h0];exact .inl rfl
 . rw[decide_eq_false h0,cond_false,w8];by_cases q:R.length<=20
   . have e:decide (((R.length:Nat):Int)<=20)=true:=by simp;omega
     simp only[V0,e,X7,cond_false];rw[Ef (body:=yL (u,n,B,L,R,S,X)) (xa:=L) (by omega) (fun i=>rfl)];cases hf:L.any (fun t=>!decide (t.length<=20))with
     |true=>exact .inl rfl
     | false =>
       simp only[W7,if_false,V0];have hS:∃t,loop (je (u,n,B,L,R,S,X)) 0=some t/\(t=.inr false\/(t=.inl ()/\∀s∈S,s.2.1.length<=20/\s.2.2.1.length<=20/\s.2.2.2.length<=20/\∀t∈s.2.2.1,t.length<=20)):=by
         have hl:=jM (body:=je (u,n,B,L,R,S,X)) (fun k=>∃h:k<S.length,fT S[k]=some false) (fun k:Nat=>(k:Int)) S.length (fun _=>.inr false) (.inl ()) ?_ ?_ ?_
         . rcases hl with⟨k,_,_,_,h4⟩|⟨h1,h2⟩
           . exact⟨_,h4,.inl rfl⟩
           . refine⟨_,h2,.inr ⟨rfl,fun s hs=>?_⟩⟩;obtain⟨k,hk,rfl⟩:=Z8 hs
             rcases DN S[k]with h|⟨h,f1,f2,f3,f4⟩
             . exact absurd ⟨hk,h⟩ (h1 k hk)
             . exact⟨f1,f2,f3,f4⟩
         . intro k hk hp;unfold je
           rcases DN S[k]with h|⟨h,_⟩
           . exact absurd ⟨hk,h⟩ hp
           . simp only[dlt hk,cond_true,aj hk,V0,show fT (S[k].1,S[k].2.1,S[k].2.2.1,S[k].2.2.2)=_ from h,an hk (by omega:S.length<=9223372036854775807)];rfl
         . rintro k hk ⟨_,hp⟩;unfold je;simp only[dlt hk,cond_true,aj hk,V0,show fT (S[k].1,S[k].2.1,S[k].2.2.1,S[k].2.2.2)=_ from hp];rfl
         . simp[je]
       obtain⟨t,ht,hS⟩:=hS;rw[ht]
       rcases hS with rfl|⟨rfl,hS⟩
       . exact .inl rfl
       . simp only[V0];have hX:=jM (body:=ig (u,n,B,L,R,S,X)) (fun k=>∃h:k<X.length,(((decide (20<((((X[k]).2.2.2.2.1.length:Nat):Int))))||(decide (20<((((X[k]).2.2.2.2.2.1.length:Nat):Int)))))||(decide (20<((((X[k]).2.2.2.2.2.2.length:Nat):Int)))))=true) (fun k:Nat=>(((stm (X.take k):Nat):Int),(k:Int))) X.length (fun _=>.inr false) (.inl ((stm X:Nat):Int)) ?_ ?_ ?_
         . rcases hX with⟨k,_,_,_,h4⟩|⟨h1,h2⟩
           . have h4':loop (ig (u,n,B,L,R,S,X)) (0,0)=some (.inr false):=by simpa[stm]using h4
             rw[h4'];exact .inl rfl
           . have h2':loop (ig (u,n,B,L,R,S,X)) (0,0)=some (.inl ((stm X:Nat):Int)):=by simpa[stm]using h2
             rw[h2'];by_cases hm:stm X<=24
             . refine .inr ⟨by simp;omega,⟨by dsimp only;omega,by dsimp only;omega,BS hf,q,by dsimp only;omega,hS,by dsimp only;omega,fun x hx=>?_,hm⟩⟩;obtain⟨k,hk,rfl⟩:=Z8 hx;have hn:=h1 k hk;dsimp only at hk hn;have hn2:(((decide (20<((((X[k]).2.2.2.2.1.length:Nat):Int))))||(decide (20<((((X[k]).2.2.2.2.2.1.length:Nat):Int)))))||(decide (20<((((X[k]).2.2.2.2.2.2.length:Nat):Int)))))=false:=by
                 cases hc:(((decide (20<((((X[k]).2.2.2.2.1.length:Nat):Int))))||(decide (20<((((X[k]).2.2.2.2.2.1.length:Nat):Int)))))||(decide (20<((((X[k]).2.2.2.2.2.2.length:Nat):Int)))))with
                 |false=>rfl
                 |true=>exact absurd ⟨hk,hc⟩ hn
               simp at hn2;dsimp only;omega
             . refine .inl ?_;simp;omega
         . intro k hk hp;have hn2:(((decide (20<((((X[k]).2.2.2.2.1.length:Nat):Int))))||(decide (20<((((X[k]).2.2.2.2.2.1.length:Nat):Int)))))||(decide (20<((((X[k]).2.2.2.2.2.2.length:Nat):Int)))))=false:=by
             cases hc:(((decide (20<((((X[k]).2.2.2.2.1.length:Nat):Int))))||(decide (20<((((X[k]).2.2.2.2.2.1.length:Nat):Int)))))||(decide (20<((((X[k]).2.2.2.2.2.2.length:Nat):Int)))))with
             |false=>rfl
             |true=>exact absurd ⟨hk,hc⟩ hp
           have a1:=hb X[k] (X2 hk);have a2:stm (X.take k)<=k*140737488351232:=by
             unfold stm;have:∀q:List Blk,(∀x∈q,x∈X)->(q.map (fun x=>x.1.length)).sum<=q.length*140737488351232:=by
               intro q
               induction q with
               |nil=>intro _;simp
               | cons x q ih =>
                 intro hq;have:=ih (fun y hy=>hq y (by simp[hy]));have:=hb x (hq x (by simp));simp only[X5,List.sum_cons,V9,aC0];omega
             have h3:=this (X.take k) (fun x hx=>bg0 hx);rw[X4,an0 (by omega)]at h3;exact h3
           have a3:k<=8:=by omega
           have a4:k*140737488351232<=8*140737488351232:=aI0 _ a3;unfold ig;simp only[dlt hk,cond_true,aj hk,V0,hn2,cond_false,an hk (by omega:X.length<=9223372036854775807)];rw[w64 (by omega) (by omega),vo hk];simp
         . rintro k hk ⟨_,hp⟩;unfold ig;simp only[dlt hk,cond_true,aj hk,V0,hp]
         . unfold ig;simp
   . have e:decide (((R.length:Nat):Int)<=20)=false:=by simp;omega
     simp only[V0,e];exact .inl rfl
section
abbrev Flt:=Int×Int×Int×Int
def sE(L:List (List St))(R:Int)(x:Stm):Int:=((mj x L R).getD ([],0)).2
def tE(a:Ar)(x:Tm):Int:=((ju x a).getD ([],0)).2
def bY(b:Bo):Ar:=(((b.2.2.2.2.2.2.length:Nat):Int),b.2.1,b.2.2.2.1,b.2.2.2.2.1,b.2.2.2.2.2.1)
def nC(b:Bo):Flt:=if b.1<1\/b.2.1<b.1 then (7,0,0,0)else if 65536<b.2.1 then (6,0,0,0)else (0,0,0,0)
def qY(b:Bo):Flt:=match b.2.2.1.findIdx? (ck b.1)with|some k=>(7,1,(k:Int),0)|none=>(0,0,0,0)
def gG(b:Bo):Flt:=if b.2.2.2.1=[]then (14,2,0,0)else match b.2.2.2.1.findIdx? (fun t=>!decide (rck b.2.1 t=0))with|some k=>(rck b.2.1 (b.2.2.2.1.getD k []),2,(k:Int),0)|none=>(0,0,0,0)
def nK(b:Bo):Flt:=if rck b.1 b.2.2.2.2.1=0 then if shp b.2.2.2.2.1 (b.2.2.2.1.getD 0 [])then (0,3,0,0)else (8,3,0,0)else (rck b.1 b.2.2.2.2.1,3,0,0)
def sR(b:Bo):Flt:=match b.2.2.2.2.2.1.findIdx? (fun s=>!decide (chk s=0))with|some k=>(chk (b.2.2.2.2.2.1.getD k (0,[],[],[])),4,(k:Int),0)|none=>(0,0,0,0)
def sU(b:Bo):Flt:=if b.2.2.2.2.2.2=[]then (14,5,0,0)else (0,0,0,0)
def cQ(b:Bo)(x:Blk):Option (Int×Int×Int) :=
 match x.1.findIdx? (fun s=>!decide (sE b.2.2.2.1 b.2.1 s=0))with
 |some j=>some (sE b.2.2.2.1 b.2.1 (x.1.getD j (0,0,0,0,false)),6,(j:Int))
 |none=>if tE (bY b) x.2=0 then none else some (tE (bY b) x.2,7,0)
def fw(k:Nat)(o:Option (Int×Int×Int)):Flt:=match o with|some (e,p,j)=>(e,p,(k:Int),j)|none=>(0,0,0,0)
def dm(b:Bo):Flt:=match b.2.2.2.2.2.2.findIdx? (fun x=>(cQ b x).isSome)with|some k=>fw k (cQ b (b.2.2.2.2.2.2.getD k ([],0,0,0,[],[],[])))|none=>(0,0,0,0)
def or0(a b:Flt):Flt:=if a.1=0 then b else a
def vck(b:Bo):Flt:=or0 (nC b) (or0 (qY b) (or0 (gG b) (or0 (nK b) (or0 (sR b) (or0 (sU b) (dm b))))))
theorem zM{t:List St}(n:Int)(h:t.length<=20):fV t n=some (rck n t):=uR t n (by omega)
section
variable {b:Bo}(h:Sm b)
include h
theorem Ol{x:Stm}:∃l,jz x b.2.2.2.1 b.2.1=some (l,sE b.2.2.2.1 b.2.1 x)/\mj x b.2.2.2.1 b.2.1=some (l,sE b.2.2.2.1 b.2.1 x):=by
 obtain⟨l,e,h1,h2,_⟩:=Fx x b.2.2.2.1 b.2.1 h.loc;have:sE b.2.2.2.1 b.2.1 x=e:=by unfold sE;rw[h2];rfl
 exact⟨l,by rw[h1,this],by rw[h2,this]⟩
theorem QO{x:Blk}(hx:x∈b.2.2.2.2.2.2):∃l,jw x.2 (bY b)=some (l,tE (bY b) x.2)/\ju x.2 (bY b)=some (l,tE (bY b) x.2):=by
 obtain⟨a1,a2,a3⟩:=h.term x hx;obtain⟨l,e,h1,h2,_⟩:=Ka x.2 (bY b) a1 a2 a3 h.ret h.loc h.sig;have:tE (bY b) x.2=e:=by unfold tE;rw[h2];rfl
 exact⟨l,by rw[h1,this],by rw[h2,this]⟩
theorem sgl{s:Sg}(hs:s∈b.2.2.2.2.2.1):fW s=some (chk s):=by
 obtain⟨a1,a2,a3,a4⟩:=h.sig s hs;exact zo s (by omega) (fun t ht=>by have:=a4 t ht;omega)
end
end
section
theorem F8{b:Bo}:(dm b).1=0->dm b=(0,0,0,0):=by
 unfold dm;cases hf:b.2.2.2.2.2.2.findIdx? (fun x=>(cQ b x).isSome)with
 |none=>intro _;rfl
 | some k =>
   obtain⟨hk,h5,_⟩:=Z9.1 hf;have e:b.2.2.2.2.2.2.getD k ([],0,0,0,[],[],[])=b.2.2.2.2.2.2[k]:=by simp[ag0,hk]
   simp only[e];intro hz;exfalso;generalize b.2.2.2.2.2.2[k]=x at *;unfold cQ at hz h5;cases hg:x.1.findIdx? (fun s=>!decide (sE b.2.2.2.1 b.2.1 s=0))with
   | some j =>
     obtain⟨hj,h6,_⟩:=Z9.1 hg;have e2:x.1.getD j (0,0,0,0,false)=x.1[j]:=by simp[ag0,hj]
     rw[hg]at hz;simp only[fw,e2]at hz;simp[hz]at h6
   | none =>
     rw[hg]at hz h5;by_cases q:tE (bY b) x.2=0
     . simp[q]at h5
     . simp[q,fw]at hz
section
variable {b:Bo}(h:Sm b)
include h
theorem GA:lB b=some (qY b):=by
 have h1:=h.bounds;unfold lB qY;rw[decide_eq_false (by omega),cond_false,dC (body:=ou b) b.2.2.1 (ck b.1) (fun k=>(.inr (7,1,(k:Int),0):Unit⊕Flt)) (.inl ()) ?_ ?_]
 . cases b.2.2.1.findIdx? (ck b.1) <;> rfl
 . intro k hk;unfold ou n7 a8;simp only[dlt hk,cond_true,aj hk,V0,an hk (by omega:b.2.2.1.length<=9223372036854775807)];generalize b.2.2.1[k]=x;obtain⟨x1,x2⟩:=x;have e (x:Int):(!((decide (0<=x))&&(decide (x<b.1))))=(decide (x<0)||decide (b.1<=x)):=by
     by_cases p:x<0 <;> by_cases q:b.1<=x <;> simp[p,q] <;> omega
   simp only[e,ck];by_cases p1:x1<0 <;> by_cases p2:b.1<=x1 <;> by_cases p3:x2<0 <;> by_cases p4:b.1<=x2 <;> simp[p1,p2,p3,p4]
 . simp[ou]
theorem JL:lC b=some (gG b):=by
 have h1:=h.locals;have h4:=h.loc;unfold lC gG;by_cases q:b.2.2.2.1=[]
 . rw[if_pos q,q];rfl
 . have q':¬ ((b.2.2.2.1.length:Nat):Int)=0:=fun hc=>q (Z4.1 (by omega))
   rw[if_neg q,decide_eq_false q',cond_false,decide_eq_false (by omega),cond_false,dC (body:=ow b) b.2.2.2.1 (fun t=>!decide (rck b.2.1 t=0)) (fun k=>(.inr (rck b.2.1 (b.2.2.2.1.getD k []),2,(k:Int),0):Unit⊕Flt)) (.inl ()) ?_ ?_]
   . cases b.2.2.2.1.findIdx? (fun t=>!decide (rck b.2.1 t=0)) <;> rfl
   . intro k hk;unfold ow a8;have e:b.2.2.2.1.getD k []=b.2.2.2.1[k]:=by simp[ag0,hk]
     simp only[dlt hk,cond_true,aj hk,V0,an hk (by omega:b.2.2.2.1.length<=9223372036854775807),e,zM _ (h4 _ (X2 hk))];cases (!decide (rck b.2.1 b.2.2.2.1[k]=0)) <;> rfl
   . simp[ow]
theorem Jv(hL:b.2.2.2.1≠[]):mg b=some (nK b):=by
 have h3:=h.ret;unfold mg nK;have hp:0<b.2.2.2.1.length:=bl0.2 hL;have e0:b.2.2.2.1.getD 0 []=b.2.2.2.1[0]:=by simp[ag0,hp]
 have g0:aa b.2.2.2.1 0=some b.2.2.2.1[0]:=aj (k:=0) hp;rw[zM _ h3,V0,g0,V0,jF _ _ (by omega),e0,V0];by_cases q:rck b.1 b.2.2.2.2.1=0
 . rw[if_pos q,q];cases shp b.2.2.2.2.1 b.2.2.2.1[0] <;> rfl
 . rw[if_neg q,decide_eq_false q];rfl
theorem KS:lW b=some (sR b):=by
 have h1:=h.sigs;have hs:=fun s (hs:s∈b.2.2.2.2.2.1)=>sgl h hs
 unfold lW sR;rw[decide_eq_false (by omega),cond_false,dC (body:=oF b) b.2.2.2.2.2.1 (fun s=>!decide (chk s=0)) (fun k=>(.inr (chk (b.2.2.2.2.2.1.getD k (0,[],[],[])),4,(k:Int),0):Unit⊕Flt)) (.inl ()) ?_ ?_]
 . cases b.2.2.2.2.2.1.findIdx? (fun s=>!decide (chk s=0)) <;> rfl
 . intro k hk;unfold oF a8;have e:b.2.2.2.2.2.1.getD k (0,[],[],[])=b.2.2.2.2.2.1[k]:=by simp[ag0,hk]
   have hs':=hs _ (X2 hk);simp only[dlt hk,cond_true,aj hk,V0,an hk (by omega:b.2.2.2.2.2.1.length<=9223372036854775807),e,show fW (b.2.2.2.2.2.1[k].1,b.2.2.2.2.2.1[k].2.1,b.2.2.2.2.2.1[k].2.2.1,b.2.2.2.2.2.1[k].2.2.2)=_ from hs'];cases (!decide (chk b.2.2.2.2.2.1[k]=0)) <;> rfl
 . simp[oF]
theorem Jy:lA b=some (sU b):=by
 have h1:=h.blocks;have h2:=h.many;unfold lA sU;by_cases q:b.2.2.2.2.2.2=[]
 . rw[if_pos q,q];rfl
 . have q':¬ ((b.2.2.2.2.2.2.length:Nat):Int)=0:=fun hc=>q (Z4.1 (by omega))
   rw[if_neg q,decide_eq_false q',cond_false,decide_eq_false (by omega),cond_false];have hl1:=aC (body:=lh b) (fun k:Nat=>(((stm (b.2.2.2.2.2.2.take k):Nat):Int),(k:Int))) b.2.2.2.2.2.2.length (b:=.inl ()) ?_ ?_
   . have hl1':loop (lh b) (0,0)=some (.inl ()):=by simpa[stm]using hl1
     rw[hl1'];rfl
   . intro k hk;have a1:=vo hk;have a2:=Bd (fun x:Blk=>x.1.length) b.2.2.2.2.2.2 (k+1);have a3:stm (b.2.2.2.2.2.2.take (k+1))<=stm b.2.2.2.2.2.2:=a2;unfold lh a8;simp only[dlt hk,cond_true,aj hk,V0,an hk (by omega:b.2.2.2.2.2.2.length<=9223372036854775807)];rw[w64 (by omega) (by omega),decide_eq_false (by omega),cond_false,a1];simp
   . unfold lh;simp
theorem HZ:lT b=some (dm b):=by
 have h1:=h.blocks;have hst:=fun x (hx:x∈b.2.2.2.2.2.2)=>h.stmts hx
 have hT:=fun x (hx:x∈b.2.2.2.2.2.2)=>QO h hx
 have hS:=fun x=>Ol h (x:=x)
 unfold lT dm;rw[dC (body:=oJ b) b.2.2.2.2.2.2 (fun x=>(cQ b x).isSome) (fun k=>(.inr (fw k (cQ b (b.2.2.2.2.2.2.getD k ([],0,0,0,[],[],[])))):Unit⊕Flt)) (.inl ()) ?_ ?_]
 . cases b.2.2.2.2.2.2.findIdx? (fun x=>(cQ b x).isSome) <;> rfl
 . intro k hk;unfold oJ;have e:b.2.2.2.2.2.2.getD k ([],0,0,0,[],[],[])=b.2.2.2.2.2.2[k]:=by simp[ag0,hk]
   obtain⟨l,hT',_⟩:=hT _ (X2 hk);have hst':=hst _ (X2 hk);simp only[dlt hk,cond_true,aj hk,V0,an hk (by omega:b.2.2.2.2.2.2.length<=9223372036854775807),e];generalize b.2.2.2.2.2.2[k]=x at *;rw[dC (body:=oE b k x) x.1 (fun s=>!decide (sE b.2.2.2.1 b.2.1 s=0)) (fun j=>(.inr (.inr (.inr (sE b.2.2.2.1 b.2.1 (x.1.getD j (0,0,0,0,false)),6,(k:Int),(j:Int)))):Unit⊕(Int⊕(Unit⊕Flt)))) (.inl ()) ?_ ?_]
   . unfold cQ;cases hf:x.1.findIdx? (fun s=>!decide (sE b.2.2.2.1 b.2.1 s=0))with
     |some j=>rfl
     | none =>
       simp only[V0];unfold a8 uy;rw[V0,show jw (x.2.1,x.2.2.1,x.2.2.2.1,x.2.2.2.2.1,x.2.2.2.2.2.1,x.2.2.2.2.2.2) (((b.2.2.2.2.2.2.length:Nat):Int),b.2.1,b.2.2.2.1,b.2.2.2.2.1,b.2.2.2.2.2.1)=_ from hT',V0];by_cases q3:tE (bY b) x.2=0
       . simp[q3]
       . simp[q3,fw]
   . intro j hj;obtain⟨l,hS',_⟩:=hS x.1[j];have e2:x.1.getD j (0,0,0,0,false)=x.1[j]:=by simp[ag0,hj]
     unfold oE a8 ux;simp only[dlt hj,cond_true,aj hj,V0,an hj (by omega:x.1.length<=9223372036854775807),e2,show jz (x.1[j].1,x.1[j].2.1,x.1[j].2.2.1,x.1[j].2.2.2.1,x.1[j].2.2.2.2) b.2.2.2.1 b.2.1=_ from hS'];cases (!decide (sE b.2.2.2.1 b.2.1 x.1[j]=0)) <;> rfl
   . simp[oE]
 . simp[oJ]
theorem Fo:lG b=some (vck b):=by
 unfold lG vck a8;have hh:lX b=some (nC b):=by
   unfold lX nC;by_cases q:b.1<1\/b.2.1<b.1
   . have:(decide (b.1<1)||decide (b.2.1<b.1))=true:=by simpa using q
     rw[this,if_pos q];rfl
   . have:(decide (b.1<1)||decide (b.2.1<b.1))=false:=by simpa using q
     rw[this,if_neg q,cond_false];by_cases q2:65536<b.2.1
     . rw[decide_eq_true q2,if_pos q2];rfl
     . rw[decide_eq_false q2,if_neg q2];rfl
 rw[V0,show lX b=_ from hh,show lB b=_ from GA h,show lC b=_ from JL h,
   show lW b=_ from KS h,show lA b=_ from Jy h,show lT b=_ from HZ h]
 have hret:(gG b).1=0->mg b=some (nK b):=by
   intro hz;refine Jv h (fun hc=>?_);unfold gG at hz;rw[if_pos hc]at hz;cases hz
 have hz6:(dm b).1=0->dm b=(0,0,0,0):=F8;generalize nC b=v1;generalize qY b=v2;generalize gG b=v3 at *;generalize nK b=v4 at *;generalize sR b=v5;generalize sU b=v6;generalize dm b=v7 at *;unfold or0;by_cases q1:v1.1=0 <;> by_cases q2:v2.1=0 <;> by_cases q3:v3.1=0 <;> by_cases q4:v4.1=0 <;> by_cases q5:v5.1=0 <;> by_cases q6:v6.1=0 <;> by_cases q7:v7.1=0 <;> simp_all
end
end
def bg(X:List Blk)(k:Nat):Nat:=stm (X.take k)+k
theorem di{X:List Blk}{k:Nat}(hk:k<X.length):bg X (k+1)=bg X k+X[k].1.length+1:=by
 unfold bg;rw[vo hk];omega
theorem gx (X:List Blk) {i j:Nat} (h:i<=j) (hj:j<=X.length):bg X i<=bg X j:=by
 induction j with
 | zero => have : i = 0 := by omega
           subst this;exact X3 _
 | succ j ih =>
   by_cases q:i=j+1
   . subst q;exact X3 _
   . have:=ih (by omega) (by omega);rw[di (by omega)];omega
theorem Oe(X:List Blk){i j:Nat}(h:i<j)(hj:j<=X.length):bg X i<bg X j:=by
 have h1:=gx X (i:=i+1) (j:=j) h hj;have h2:=di (X:=X) (k:=i) (by omega);omega
def bgs(X:List Blk):List Int:=(Z1 X.length).map fun k=>((bg X k:Nat):Int)
theorem qU(X:List Blk):(bgs X).length=X.length:=by simp[bgs]
theorem qP(X:List Blk){k:Nat}(hk:k<X.length):aa (bgs X) (k:Int)=some ((bg X k:Nat):Int):=by
 rw[aj (by rw[qU];exact hk)];simp[bgs]
def yn(i n:Nat):List (Int×Int×Bool):=(Z1 (n+1)).map fun (k:Nat)=>((i:Int),(k:Int),decide (k=n))
def iS(X:List Blk):Nat->List (Int×Int×Bool)
 |0=>[]
 |i+1=>iS X i++yn i (X.getD i ([],0,0,0,[],[],[])).1.length
theorem j9{α:Type}{l:List α}{k:Nat}{d:α}(hk:k<l.length):l.getD k d=l[k]:=by simp[ag0,hk]
theorem A9(X:List Blk):∀i,i<=X.length->(iS X i).length=bg X i
 |0,_=>by simp[iS,bg,stm]
 | i + 1,h=>by
   have ih:=A9 X i (by omega);rw[di (by omega)];simp only[iS,W3,ih,yn,Y6,bk0,j9 (show i<X.length by omega)];omega
theorem AR(X:List Blk):∀i,i<=X.length->∀j k,j<i->(hj:j<X.length)->k<=X[j].1.length->(iS X i)[bg X j+k]?=some ((j:Int),(k:Int),decide (k=X[j].1.length))
 |0,_,j,k,h,_,_=>by omega
 | i + 1,h,j,k,hji,hj,hk=>by
   have hl:=A9 X i (by omega);unfold iS;by_cases q:j=i
   . subst q;rw[V5 (by omega),hl,cp0,j9 hj];unfold yn;rw[cB0,List.getElem?_range (by omega)];rfl
   . have h1:=gx X (i:=j+1) (j:=i) (by omega) (by omega);rw[di hj]at h1;rw[V6 (by omega)];exact AR X i (by omega) j k (by omega) hj hk
abbrev yu(X:List Blk):List (Int×Int×Bool):=iS X X.length
theorem Jh(X:List Blk){j k:Nat}(hj:j<X.length)(hk:k<=X[j].1.length):(yu X)[bg X j+k]?=some ((j:Int),(k:Int),decide (k=X[j].1.length)):=AR X _ (X3 _) j k hj hj hk
theorem C6(X:List Blk):∀i,i<=X.length->∀n,n<bg X i->∃j k,∃hj:j<X.length,k<=X[j].1.length/\n=bg X j+k/\j<i
 |0,_,n,h=>by simp[bg,stm]at h
 | i + 1,h,n,hn=>by
   rw[di (show i<X.length by omega)]at hn;by_cases q:n<bg X i
   . obtain⟨j,k,hj,h1,h2,h3⟩:=C6 X i (by omega) n q;exact⟨j,k,hj,h1,h2,by omega⟩
   . exact⟨i,n-bg X i,by omega,by omega,by omega,by omega⟩
theorem vH{b:Bo}(h:Sm b){k:Nat}(hk:k<=b.2.2.2.2.2.2.length):bg b.2.2.2.2.2.2 k<=131072:=by
 have a2:=Bd (fun x:Blk=>x.1.length) b.2.2.2.2.2.2 k;have a3:stm (b.2.2.2.2.2.2.take k)<=stm b.2.2.2.2.2.2:=a2;have:=h.many;have:=h.blocks;unfold bg;omega
def xs(b:Bo):List Blk:=if (vck b).1=0 then b.2.2.2.2.2.2 else []
theorem vQ{b:Bo}(h:Sm b){k:Nat}(hk:k<=(xs b).length):bg (xs b) k<=131072/\(xs b).length<=65536:=by
 unfold xs at *;split
 . rename_i q;rw[if_pos q]at hk;exact⟨vH h hk,h.blocks⟩
 . rename_i q;rw[if_neg q]at hk;obtain rfl:k=0:=by simpa using hk
   simp[bg,stm]
theorem zf{b:Bo}(h:Sm b):ip b=some (some (bgs (xs b),((bg (xs b) (xs b).length:Nat):Int))):=by
 unfold ip uK;rw[show lG b=_ from Fo h];simp only[V0];unfold xs;by_cases q:(vck b).1=0
 . have h1:=h.blocks;rw[decide_eq_true q,X7,cond_false,if_pos q];have hl:=aC (body:=ma b) (fun k:Nat=>((k:Int),(Z1 k).map (fun i=>((bg b.2.2.2.2.2.2 i:Nat):Int)),((bg b.2.2.2.2.2.2 k:Nat):Int))) b.2.2.2.2.2.2.length (b:=(bgs b.2.2.2.2.2.2,((bg b.2.2.2.2.2.2 b.2.2.2.2.2.2.length:Nat):Int))) ?_ ?_
   . have hl':loop (ma b) (0,[],0)=some (bgs b.2.2.2.2.2.2,((bg b.2.2.2.2.2.2 b.2.2.2.2.2.2.length:Nat):Int)):=by simpa[bg,stm]using hl
     rw[hl'];rfl
   . intro k hk;have a1:=vH h (k:=k) (by omega);have a2:=vH h (k:=k+1) (by omega);have a3:=di hk;unfold ma;simp only[dlt hk,cond_true,aj hk,V0];rw[aI (by simp;omega),V0,an hk (by omega),w64 (x:=((b.2.2.2.2.2.2[k].1.length:Nat):Int)+1) (by omega) (by omega),w64 (by omega) (by omega),a3,aU0,X6];simp only[Z3,ef0,bQ0,true_and,X5,aS0];omega
   . unfold ma;simp[bgs]
 . rw[decide_eq_false q,if_neg q];rfl
theorem LC{a c:Nat}(h:a+c<=1000000):M0 .i64 (X8 (M0 .u64 (M0 .i64 ((a:Int)+(c:Int)))) (2 ^ (min (Z5 1) (O0 .u64))))=(((a+c) / 2:Nat):Int):=by
 have e1:M0 .i64 ((a:Int)+(c:Int))=((a+c:Nat):Int):=by rw[w64 (by omega) (by omega)];omega
 have e2:M0 .u64 ((a+c:Nat):Int)=((a+c:Nat):Int):=by
   show ((a+c:Nat):Int) % 2 ^ 64=_;omega
 have e3:(2:Int) ^ (min (Z5 1) (O0 .u64))=2:=by decide
 rw[e1,e2,e3,ce0 _ (by omega),w64 (by omega) (by omega)];omega
theorem HN{X:List Blk}(hX:X.length<=400000){t:Int}{j k:Nat}(hj:j<X.length)(hk:k<=X[j].1.length){n:Nat}(hn:n=bg X j+k) :
   nR ((X.length:Nat):Int) (some (bgs X,t)) (n:Int)=some ((j+1:Nat):Int):=by
 unfold nR;have pr:∀i,i<X.length->(n<bg X i↔j<i):=by
   intro i hi;constructor
   . intro h;by_cases q:j<i
     . exact q
     . have:=gx X (i:=i) (j:=j) (by omega) (by omega);omega
   . intro h;have h1:=gx X (i:=j+1) (j:=i) h (by omega);rw[di hj]at h1;omega
 have key:=aW (body:=tv (some (bgs X,t)) (n:Int)) (fun s:Int×Int=>∃a c:Nat,s=((a:Int),(c:Int))/\a<=j+1/\j+1<=c/\c<=X.length) (fun s=>(s.2-s.1).toNat) (Q:=fun r=>r=((j+1:Nat):Int)) ?_ (s:=(0,((X.length:Nat):Int))) ⟨0,X.length,rfl,by omega,by omega,by omega⟩
 . obtain⟨r,h1,h2⟩:=key;rw[h1,h2];rfl
 . rintro _ ⟨a,c,rfl,h1,h2,h3⟩;unfold tv tL;dsimp only;by_cases q:a<c
   . have hm:(a+c) / 2<X.length:=by omega
     simp only[dlt q,cond_true,LC (show a+c<=1000000 by omega),V0,qP X hm];by_cases q2:j<(a+c) / 2
     . have:=(pr _ hm).2 q2;rw[decide_eq_true (by omega),X7,cond_false];refine .inl ⟨_,rfl,⟨a,(a+c) / 2,rfl,h1,by omega,by omega⟩,by dsimp only;omega⟩
     . have:¬ n<bg X ((a+c) / 2):=fun hc=>q2 ((pr _ hm).1 hc)
       rw[decide_eq_false (by omega),aE0,cond_true,w64 (by omega) (by omega)];refine .inl ⟨_,rfl,⟨(a+c) / 2+1,c,rfl,by omega,h2,h3⟩,by dsimp only;omega⟩
   . rw[decide_eq_false (by omega),cond_false];exact .inr ⟨_,rfl,by omega⟩
theorem Dq{X:List Blk}(hX:X.length<=400000)(hb:bg X X.length<=1000000){j k:Nat}(hj:j<X.length)(hk:k<=X[j].1.length) :
   lx (some (bgs X,((bg X X.length:Nat):Int))) ((bg X j+k:Nat):Int)=some ((j:Int),(k:Int),true):=by
 have h1:=gx X (i:=j+1) (j:=X.length) hj (X3 _);rw[di hj]at h1;unfold lx fL;rw[decide_eq_false (by omega),cond_false];simp only[aA0,cond_false,V0];rw[decide_eq_false (by omega),cond_false,qU,HN hX hj hk rfl,V0,w64 (by omega) (by omega),show ((j+1:Nat):Int)-1=(j:Int)by omega,qP X hj,V0,w64 (by omega) (by omega)];simp only[Z3,bQ0,true_and,and_true];omega
theorem Ls{X:List Blk}(hX:X.length<=400000){j:Nat}(hj:j<X.length):oG (some (bgs X,((bg X X.length:Nat):Int))) (j:Int)=some ((bg X (j+1):Nat):Int):=by
 unfold oG;rw[V0,w64 (by omega) (by omega)];dsimp only;rw[qU];by_cases q:j+1<X.length
 . rw[decide_eq_true (by omega),cond_true,show (j:Int)+1=((j+1:Nat):Int)by omega,qP X q];rfl
 . have:j+1=X.length:=by omega
   rw[decide_eq_false (by omega),cond_false,this]
theorem JD{X:List Blk}(hX:X.length<=400000)(hb:bg X X.length<=1000000){j k:Nat}(hj:j<X.length)(hk:k<=X[j].1.length) :
   oy (some (bgs X,((bg X X.length:Nat):Int))) ((bg X j+k:Nat):Int)=some (decide (k=X[j].1.length)):=by
 have h1:=gx X (i:=j+1) (j:=X.length) hj (X3 _);have h2:=di hj;unfold oy;rw[Dq hX hb hj hk];simp only[V0,cond_true,Ls hX hj,w64 (x:=((bg X j+k:Nat):Int)+1) (by omega) (by omega)]
 congr 1
 by_cases c:k=X[j].1.length
 . rw[decide_eq_true c,decide_eq_true (by omega)]
 . rw[decide_eq_false c,decide_eq_false (by omega)]
theorem ir:∀{xs ys:List Int},xs.Pairwise (· < ·)->ys.Pairwise (· < ·)->(∀a,a∈xs↔a∈ys)->xs=ys
 |[],[],_,_,_=>rfl
 |[],y::ys,_,_,h=>by have:=(h y).2 (by simp);simp at this
 |x::xs,[],_,_,h=>by have:=(h x).1 (by simp);simp at this
 | x :: xs,y :: ys,hx,hy,h=>by
   obtain⟨hx1,hx2⟩:=be0.1 hx;obtain⟨hy1,hy2⟩:=be0.1 hy;have e:x=y:=by
     have h1:=(h x).1 (by simp);have h2:=(h y).2 (by simp)
     rcases Y4.1 h1 with h1|h1
     . exact h1
     . rcases Y4.1 h2 with h2|h2
       . exact h2.symm
       . have:=hy1 x h1;have:=hx1 y h2;omega
   subst e;rw[ir hx2 hy2 (fun a=>?_)];constructor
   . intro ha
     rcases Y4.1 ((h a).1 (by simp[ha]))with e|e
     . subst e;have:=hx1 a ha;omega
     . exact e
   . intro ha
     rcases Y4.1 ((h a).2 (by simp[ha]))with e|e
     . subst e;have:=hy1 a ha;omega
     . exact e
theorem yJ {zs:List Int} (hs:zs.Pairwise (·<=·)):∀ m,m<=zs.length->(Lib.compactUpTo zs.toArray m).Pairwise (· < ·)/\∀ a,a∈Lib.compactUpTo zs.toArray m↔a∈zs.take m
 |0,_=>by simp[Lib.compactUpTo]
 | m + 1,h=>by
   obtain⟨h1,h2⟩:=yJ hs m (by omega);have hm:m<zs.length:=by omega
   have e:zs.toArray[m]! =zs[m]:=by simp[getElem!_pos,hm]
   rw[Lib.compactUpTo_succ,e];have htk:zs.take (m+1)=zs.take m++[zs[m]]:=ay0 hm;have hle:∀a∈zs.take m,a<=zs[m]:=by
     intro a ha;have:=hs.sublist (dH0 (m+1) zs);rw[htk]at this;exact (aJ0.1 this).2.2 a ha _ (by simp)
   rw[htk];cases hk:Lib.keeps zs.toArray m with
   | false =>
     simp only[W7,if_false,Z6];refine⟨h1,fun a=>?_⟩;rw[h2,V3];have hm0:m≠0:=by rintro rfl;simp[Lib.keeps]at hk
     have he:zs.toArray[m]! =zs.toArray[m-1]!:=by
       simp[Lib.keeps,hm0]at hk;simpa using hk
     have hp:m-1<zs.length:=by omega
     have e2:zs.toArray[m-1]! =zs[m-1]:=by simp[getElem!_pos,hp]
     rw[e,e2]at he;constructor
     . exact .inl
     . rintro (h|h)
       . exact h
       . simp at h;rw[h,he];exact cY0.2 ⟨m-1,by omega,rfl⟩
   | true =>
     simp only[if_true];refine⟨aJ0.2 ⟨h1,by simp,fun a ha b hb=>?_⟩,fun a=>by rw[V3,V3,h2]⟩;simp at hb;subst hb;have ha':=(h2 a).1 ha;have hle':=hle a ha'
     rcases Int.lt_or_eq_of_le hle' with h|h
     . exact h
     . exfalso;obtain⟨j,hj,rfl⟩:=cY0.1 ha';have hm0:m≠0:=by omega
       have hp:m-1<zs.length:=by omega
       have e2:zs.toArray[m-1]! =zs[m-1]:=by simp[getElem!_pos,hp]
       simp only[Lib.keeps,e,e2]at hk;simp[hm0]at hk;have a1:zs[j]<=zs[m-1]:=by
         rcases aq0 j (m-1)with q|q
         . exact am0.1 hs j (m-1) _ _ q
         . have:j=m-1:=by omega
           subst this;exact cn0 _
       have a2:zs[m-1]<=zs[m]:=am0.1 hs (m-1) m _ _ (by omega);omega
theorem js{zs:List Int}(hs:zs.Pairwise (·<=·)):(Lib.compact zs).Pairwise (· < ·)/\∀a,a∈Lib.compact zs↔a∈zs:=by
 have:=yJ hs zs.length (X3 _);rw[Y9]at this;exact this
end
end Go.Proofs.YtpnmnbfbcgkcjaaGreatDoor
