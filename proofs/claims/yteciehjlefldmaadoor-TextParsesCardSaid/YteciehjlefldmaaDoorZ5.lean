/- 'easement/easementlaw38.TextParses' returns true for every input, and each argument rU afterwards as it read before: the row's frame round the walk. -/
import Derived.Test.YteciehjlefldmaaDoorZ4
import Derived.Test.YteciehjlefldmaaDoorCards
import Derived.Test.YteciehjlefldmaaDoorTie
import Derived.Lay
import Derived.SevenTiedAt
namespace Go.Proofs.YteciehjlefldmaaDoor
noncomputable section
set_option linter.unusedVariables false
set_option linter.unnecessarySimpa false
set_option linter.unusedSimpArgs false
section
open Go.RowKit Nu
theorem p7 {c:UInt8} {l:List (List UInt8)} (h:(ak c l).length≤140737488355328) (h2:l.length≤140737488355328):eN l [c]=some (ak c l):=by
 unfold eN; rw [pp,if_pos ⟨h,h2⟩]
theorem qR (c:UInt8) (n:Nat):∀ (l:List (List UInt8)),(∀ p∈l,p.length≤n)→(ak c l).length≤l.length * (n + 1):=by
 intro l h
 cases l with
 | nil=>simp [ak]
 | cons p ps =>
   have key:∀ ps:List (List UInt8),(∀ p∈ps,p.length≤n)→(ps.flatMap (c :: ·)).length≤ps.length * (n + 1):=by
     intro ps
     induction ps with
     | nil=>intro _; simp
     | cons q qs ih =>
       intro hq
       have h1:=ih (fun x hx=>hq x (by simp [hx]))
       have h2:=hq q (by simp)
       simp only [List.flatMap_cons,List.length_append,List.length_cons,Nat.succ_mul]; omega
   have h1:=key ps (fun x hx=>h x (by simp [hx]))
   have h2:=h p (by simp)
   show (p++ps.flatMap (c :: ·)).length≤_
   rw [List.length_append,List.length_cons,Nat.succ_mul]; omega
def bB (x:St):List UInt8:=text x.1++if x.2 then [33] else []
def tyW (t:List St):List UInt8:=if t=[] then [45] else ak 47 (t.map bB)
def liW (l:List Int):List UInt8:=if l=[] then [45] else lst l
abbrev I64 (n:Int):Prop:=n≤9223372036854775807
theorem pD {x:St} (h:I64 x.1):(bB x).length≤20:=by
 have:=cQ h; unfold bB; split <;> simp <;> omega
theorem vQ {t:List St} (h:∀ x∈t,I64 x.1):(tyW t).length≤t.length * 21 + 1:=by
 unfold tyW; split
 . simp
 . have:=qR 47 20 (t.map bB) (fun p hp=>by obtain ⟨x,hx,rfl⟩:=List.mem_map.1 hp; exact pD (h x hx))
   rw [List.length_map] at this; omega
theorem wo {l:List Int} (h:∀ x∈l,I64 x):(liW l).length≤l.length * 20 + 1:=by
 unfold liW; split
 . simp
 . have:=vC h; omega
theorem dl0 {α:Type} (t:List α):decide (((t.length:Nat):Int)=0)=decide (t=[]):=by
 cases t <;> simp; omega
theorem xi (t:List St) (hn:t.length≤100000) (h:∀ x∈t,I64 x.1):io t=some (tyW t):=by
 unfold io tyW
 rw [dl0]
 by_cases h0:t=[]
 . rw [if_pos h0,decide_eq_true h0]; rfl
 . rw [if_neg h0,decide_eq_false h0,cond_false]
   have hc:=oU (body:=ib t) t (fun k=>(t.take k).map bB) (t.map bB) (fun k hk=>by
     unfold ib
     have hx:=h t[k] (List.getElem_mem hk)
     have hl:=cQ hx
     simp only [dlt hk,cond_true,aw hk,Option.bind_some,ge _ hx,aH hk (by omega)]
     have hll:((t.take k).map bB).length≤100000:=by rw [List.length_map,List.length_take]; omega
     rw [et hk,List.map_append,List.map_singleton]
     generalize (t.take k).map bB=G at hll
     cases hb:t[k].2 with
     | true =>
       simp only [cond_true]
       rw [aI (by simp; omega)]
       simp only [Option.bind_some]
       rw [aI (by simp; omega)]
       simp [bB,hb]
     | false =>
       simp only [cond_false,Option.bind_some]
       rw [aI (by simp; omega)]
       simp [bB,hb]) (by unfold ib; simp only [dge (show ¬ t.length < t.length by omega),cond_false,List.take_length])
   rw [show loop (ib t) ([],0)=some (t.map bB) from hc]
   simp only [Option.bind_some]
   have hg:=qR 47 20 (t.map bB) (fun p hp=>by obtain ⟨x,hx,rfl⟩:=List.mem_map.1 hp; exact pD (h x hx))
   rw [List.length_map] at hg
   rw [p7 (by omega) (by simp; omega)]; rfl
abbrev Wd:=List UInt8
abbrev bJ:=Int×Int×Int×Int×Bool
abbrev cg:=Int×Int×Int×List Int×List Int×List Int
def bx:Wd:=[110,111,112]
def ba:Wd:=[97,115,115,105,103,110]
def aP:Wd:=[98,111,114,114,111,119]
def aU:Wd:=[114,101,98,111,114,114,111,119]
def bz:Wd:=[117,115,101]
def bv:Wd:=[100,101,97,100]
def be:Wd:=[109,117,116]
def ca:Wd:=[103,111,116,111]
def kSw:Wd:=[115,119,105,116,99,104]
def bZ:Wd:=[114,101,116,117,114,110]
def bn:Wd:=[99,97,108,108]
def bR (x:bJ):List Wd :=
 if x.1=0 then [bx] else if x.1=1 then [ba,text x.2.1,text x.2.2.1] else if x.1=2 then [aP,text x.2.1,text x.2.2.1,text x.2.2.2.1]++(if x.2.2.2.2 then [be] else [])
 else if x.1=3 then [aU,text x.2.1,text x.2.2.1,text x.2.2.2.1]++(if x.2.2.2.2 then [be] else []) else if x.1=4 then [bz,text x.2.2.1] else if x.1=5 then [bv,text x.2.1] else [[63]]
def ed (x:cg):List Wd :=
 if x.1=1 then [ca,liW x.2.2.2.1] else if x.1=2 then [kSw,liW x.2.2.2.1,liW x.2.2.2.2.1] else if x.1=3 then [bZ]
 else if x.1=4 then [bn,text x.2.1,text x.2.2.1,liW x.2.2.2.1,liW x.2.2.2.2.2,liW x.2.2.2.2.1] else [[63]]
theorem iL {l:List Wd} (h:(ak 32 l).length≤1000000000) (h2:l.length≤1000000000):eN l [32]=some (ak 32 l):=p7 (by omega) (by omega)
theorem rS (w:Wd) (x:bJ) (hw:w.length≤100) (h1:I64 x.2.1) (h2:I64 x.2.2.1) (h3:I64 x.2.2.2.1):eZ w x=some (ak 32 ([w,text x.2.1,text x.2.2.1,text x.2.2.2.1]++if x.2.2.2.2 then [be] else [])):=by
 unfold eZ du
 have l1:=cQ h1; have l2:=cQ h2; have l3:=cQ h3
 simp only [ge _ h1,ge _ h2,ge _ h3,Option.bind_some]
 cases x.2.2.2.2 with
 | true =>
   simp only [cond_true]
   rw [aI (by simp)]
   simp only [Option.bind_some]
   rw [iL (by simp [ak]; omega) (by simp)]; rfl
 | false =>
   simp only [cond_false]
   rw [iL (by simp [ak]; omega) (by simp)]; rfl
theorem xy (x:bJ) (h1:I64 x.2.1) (h2:I64 x.2.2.1) (h3:I64 x.2.2.2.1):im x=some (ak 32 (bR x)):=by
 unfold im bR
 have l1:=cQ h1; have l2:=cQ h2
 have b1:=rS [98,111,114,114,111,119] x (by simp) h1 h2 h3
 have b2:=rS [114,101,98,111,114,114,111,119] x (by simp) h1 h2 h3
 simp only [ge _ h1,ge _ h2,Option.bind_some]
 by_cases c0:x.1=0
 . simp only [c0,decide_true,cond_true,if_true]; rfl
 rw [decide_eq_false c0,cond_false,if_neg c0]
 by_cases c1:x.1=1
 . simp only [c1,decide_true,cond_true,if_true,du]
   rw [iL (by simp [ak]; omega) (by simp)]; rfl
 rw [decide_eq_false c1,cond_false,if_neg c1]
 by_cases c2:x.1=2
 . rw [decide_eq_true c2,cond_true,if_pos c2,show eZ [98,111,114,114,111,119] (x.1,x.2.1,x.2.2.1,x.2.2.2.1,x.2.2.2.2)=_ from b1]; rfl
 rw [decide_eq_false c2,cond_false,if_neg c2]
 by_cases c3:x.1=3
 . rw [decide_eq_true c3,cond_true,if_pos c3,show eZ [114,101,98,111,114,114,111,119] (x.1,x.2.1,x.2.2.1,x.2.2.2.1,x.2.2.2.2)=_ from b2]; rfl
 rw [decide_eq_false c3,cond_false,if_neg c3]
 by_cases c4:x.1=4
 . simp only [c4,decide_true,cond_true,if_true,du]
   rw [iL (by simp [ak]; omega) (by simp)]; rfl
 rw [decide_eq_false c4,cond_false,if_neg c4]
 by_cases c5:x.1=5
 . simp only [c5,decide_true,cond_true,if_true,du]
   rw [iL (by simp [ak]; omega) (by simp)]; rfl
 rw [decide_eq_false c5,cond_false,if_neg c5]; rfl
structure TmS (x:cg):Prop where
 sig:I64 x.2.1
 dst:I64 x.2.2.1
 nto:x.2.2.2.1.length≤30
 args:x.2.2.2.2.1.length≤30
 par:x.2.2.2.2.2.length≤30
 hto:∀ n∈x.2.2.2.1,I64 n
 hargs:∀ n∈x.2.2.2.2.1,I64 n
 hpar:∀ n∈x.2.2.2.2.2,I64 n
def pSl (p:Wd):St×Int:=let i:=decide (p.getLast? = some 33); let r:=au (if i then p.dropLast else p) 1048576; ((r.1,i),r.2)
def pgo:List Wd→List St→List St×Int
 | [],acc=>(acc,0)
 | p :: ps,acc=>if (pSl p).2≠0 then ([],(pSl p).2) else pgo ps (acc++[(pSl p).1])
def pTy (s:Wd):List St×Int:=if s=[45] then ([],0) else pgo (ae 47 s) []
theorem m4 (x:Wd) (c:UInt8) (h:0 < x.length):x.drop (x.length - 1)=[x[x.length - 1]]∧x.getLast? = some x[x.length - 1]∧x.take (x.length - 1)=x.dropLast:=by
 refine ⟨?_,?_,?_⟩
 . rw [List.drop_eq_getElem_cons (by omega),List.drop_eq_nil_of_le (by omega)]
 . rw [List.getLast?_eq_getElem?,List.getElem?_eq_getElem (by omega)]
 . rw [List.dropLast_eq_take]
theorem sy (x:Wd) (hn:x.length≤1000000):jz x [33]=some (if decide (x.getLast? = some 33) then x.dropLast else x,decide (x.getLast? = some 33)):=by
 unfold jz ll lk
 by_cases h0:x=[]
 . subst h0; rfl
 . have hp:0 < x.length:=List.length_pos_iff.2 h0
   obtain ⟨q1,q2,q3⟩:=m4 x 33 hp
   have e1:decide (((([33]:List UInt8).length:Nat):Int)≤(((x.length:Nat):Int)))=true:=by simp; omega
   have e2:IntKind.wrap .i64 ((((x.length:Nat):Int)) - ((([33]:List UInt8).length:Nat):Int))=((x.length - 1:Nat):Int):=by
     simp only [List.length_cons,List.length_nil]; rw [w64 (by omega) (by omega)]; omega
   simp only [e1,e2,cond_true]
   rw [bV (by omega) (by omega) (by omega),bV (by omega) (by omega) (by omega)]
   simp only [Option.bind_some,Int.toNat_natCast,List.take_length,q1,q2,q3,show ((0:Int).toNat)=0 from rfl,List.drop_zero]
   by_cases hc:x[x.length - 1]=33
   . simp [hc]
   . simp [hc]
theorem pf {s:Wd} (hn:s.length≤1000000):∀ p∈ae 47 s,p.length≤1000000:=fY 47 _ s hn
theorem tJ {x:Wd} {n:Nat} (h:x.length≤n):x.dropLast.length≤n:=by rw [List.length_dropLast]; omega
theorem ra {x:Wd} {n:Nat} {b:Bool} (h:x.length≤n):(if b=true then x.dropLast else x).length≤n:=by split; exact tJ h; exact h
theorem mH (c:UInt8) (s:Wd) (hn:s.length≤4000000):cZ s [c]=some (ae c s):=by
 unfold cZ
 rw [if_pos ⟨by omega,by simp⟩,Lib.splitB_data]
 congr 1
 show Lib.splitK [c] 0 (Lib.count s [c]) s=_
 rw [Lib.count_one]
 exact oD c _ s rfl
theorem v7 (l:List Wd) (hl:l.length≤1000001) (hs:∀ p∈l,p.length≤1000000):∀ (m k:Nat) (acc:List St),k + m=l.length→acc.length=k →
   loop (hU l) ((k:Int),acc)=some (if (pgo (l.drop k) acc).2=0 then .inl (pgo (l.drop k) acc).1 else .inr (pgo (l.drop k) acc)):=by
 intro m
 induction m with
 | zero =>
   intro k acc hk ha
   refine aR ?_
   unfold hU
   rw [List.drop_eq_nil_of_le (by omega)]
   simp only [dge (show ¬ k < l.length by omega),cond_false,pgo,if_true]
 | succ m ih =>
   intro k acc hk ha
   have hk':k < l.length:=by omega
   have hx:=hs _ (List.getElem_mem hk')
   have hp:=ix (if decide (l[k].getLast? = some 33)=true then l[k].dropLast else l[k]) 1048576 (ra hx) (by omega) (by omega)
   rw [List.drop_eq_getElem_cons hk']
   by_cases h1:(pSl l[k]).2=0
   . have e:pgo (l[k] :: l.drop (k + 1)) acc=pgo (l.drop (k + 1)) (acc++[(pSl l[k]).1]):=by simp [pgo,h1]
     rw [e,bM (s':=(((k + 1:Nat):Int),acc++[(pSl l[k]).1])),ih (k + 1) _ (by omega) (by simp [ha])]
     unfold hU
     simp only [dlt hk',cond_true,aw hk',Option.bind_some,sy _ hx,hp,aH hk' (by omega)]
     unfold pSl at h1
     simp only at h1
     rw [h1]
     simp only [decide_true,Bool.not_true,cond_false]
     rw [aI (by simp; omega)]
     rfl
   . have e:pgo (l[k] :: l.drop (k + 1)) acc=([],(pSl l[k]).2):=by simp [pgo,h1]
     rw [e]
     simp only [h1,if_false]
     refine aR ?_
     unfold hU
     simp only [dlt hk',cond_true,aw hk',Option.bind_some,sy _ hx,hp]
     unfold pSl at h1 ⊢
     simp only at h1 ⊢
     rw [decide_eq_false h1]; rfl
theorem wq (s:Wd) (hn:s.length≤1000000):jD s=some (pTy s):=by
 unfold jD pTy
 by_cases h0:s=[45]
 . subst h0; rfl
 . rw [if_neg h0,decide_eq_false h0,cond_false,mH 47 s (by omega)]
   have:=v7 (ae 47 s) (by have:=cP 47 s; omega) (pf hn) (ae 47 s).length 0 [] (by omega) rfl
   rw [show ((0:Nat):Int)=0 from rfl,List.drop_zero] at this
   simp only [Option.bind_some]
   rw [this]
   by_cases h1:(pgo (ae 47 s) []).2=0
   . simp only [h1,if_true,Option.bind_some]; rw [← h1]
   . simp only [h1,if_false,Option.bind_some]
theorem nS {a b:UInt8} (h:a≠b):¬ ((a.toNat:Nat):Int)=((b.toNat:Nat):Int):=fun e=>h (by apply UInt8.toNat_inj.1; simpa using Int.ofNat.inj e)
theorem wa (s:Wd) (c:UInt8) (hn:s.length≤1000000):∀ (m i f:Nat) (out:List Wd),i + m=s.length→f≤i→c∉(s.take i).drop f→out.length≤f →
   loop (fR s ((c.toNat:Nat):Int)) (out,(f:Int),(i:Int))=some (out++ae c (s.drop f)):=by
 have hd:∀ {i f:Nat},i≤s.length→f≤i→s.drop f=(s.take i).drop f++s.drop i:=fun {i f} hi hf=>by
   rw [← List.drop_append_of_le_length (by rw [List.length_take]; omega),List.take_append_drop]
 intro m
 induction m with
 | zero =>
   intro i f out hi hf hc ho
   have hi':i=s.length:=by omega
   subst hi'
   have e0:decide (((s.length:Nat):Int)≤((s.length:Nat):Int))=true:=by simp
   have e1:decide (((s.length:Nat):Int)=((s.length:Nat):Int))=true:=by simp
   have e2:IntKind.wrap .i64 (((s.length:Nat):Int) + 1)=((s.length + 1:Nat):Int):=by rw [w64 (by omega) (by omega)]; omega
   rw [bM (s':=(out++[s.drop f],((s.length + 1:Nat):Int),((s.length + 1:Nat):Int)))]
   . rw [aR (b:=out++[s.drop f])]
     . rw [hd (Nat.le_refl _) hf,List.drop_length,List.append_nil,oR c _ hc]
     . unfold fR
       have e3:decide (((s.length + 1:Nat):Int)≤((s.length:Nat):Int))=false:=decide_eq_false (by omega)
       simp only [e3,cond_false]
   . unfold fR
     simp only [e0,e1,e2,cond_true,Option.bind_some]
     rw [bV (by omega) (by omega) (by omega)]
     simp only [Option.bind_some,Int.toNat_natCast,List.take_length]
     rw [aI (by simp; omega)]
     rfl
 | succ m ih =>
   intro i f out hi hf hc ho
   have hk:i < s.length:=by omega
   have e0:decide ((i:Int)≤((s.length:Nat):Int))=true:=decide_eq_true (by omega)
   have e1:decide ((i:Int)=((s.length:Nat):Int))=false:=decide_eq_false (by omega)
   by_cases h1:s[i]=c
   . have e2:decide (((s[i].toNat:Nat):Int)=((c.toNat:Nat):Int))=true:=by rw [h1]; simp
     rw [bM (s':=(out++[(s.take i).drop f],((i + 1:Nat):Int),((i + 1:Nat):Int)))]
     . rw [ih (i + 1) (i + 1) _ (by omega) (by omega) (by rw [List.drop_eq_nil_of_le (by rw [List.length_take]; omega)]; simp) (by simp; omega)]
       rw [hd (show i≤s.length by omega) hf,List.drop_eq_getElem_cons hk,h1,jR c _ _ hc]; simp
     . unfold fR
       simp only [e0,e1,cond_true,cond_false,aw hk,e2,Option.bind_some,aH hk (by omega)]
       rw [bV (by omega) (by omega) (by omega)]
       simp only [Option.bind_some,Int.toNat_natCast]
       rw [aI (by simp; omega)]
       rfl
   . have e2:decide (((s[i].toNat:Nat):Int)=((c.toNat:Nat):Int))=false:=decide_eq_false (nS h1)
     rw [bM (s':=(out,(f:Int),((i + 1:Nat):Int)))]
     . refine ih (i + 1) f out (by omega) (by omega) ?_ ho
       rw [et hk,List.drop_append_of_le_length (by rw [List.length_take]; omega)]
       simp only [List.mem_append,List.mem_singleton,not_or]
       exact ⟨hc,fun e=>h1 e.symm⟩
     . unfold fR
       simp only [e0,e1,cond_true,cond_false,aw hk,e2,Option.bind_some,aH hk (by omega)]
theorem mW (s:Wd) (c:UInt8) (hn:s.length≤1000000):dP s ((c.toNat:Nat):Int)=some (ae c s):=by
 unfold dP
 have:=wa s c hn s.length 0 0 [] (by omega) (by omega) (by simp) (by simp)
 rw [show ((0:Nat):Int)=0 from rfl,List.drop_zero,List.nil_append] at this
 rw [this]; rfl
theorem vt (l:List Wd) (hl:l.length≤1000001) (hs:∀ p∈l,p.length≤1000000):∀ (m k:Nat) (acc:List St),k + m=l.length→acc.length=k →
   loop (hI l) (acc,(k:Int))=some (if (pgo (l.drop k) acc).2=0 then .inl (pgo (l.drop k) acc).1 else .inr (pgo (l.drop k) acc)):=by
 intro m
 induction m with
 | zero =>
   intro k acc hk ha
   refine aR ?_
   unfold hI
   rw [List.drop_eq_nil_of_le (by omega)]
   simp only [dge (show ¬ k < l.length by omega),cond_false,pgo,if_true]
 | succ m ih =>
   intro k acc hk ha
   have hk':k < l.length:=by omega
   have hx:=hs _ (List.getElem_mem hk')
   have hp:=fg (if decide (l[k].getLast? = some 33)=true then l[k].dropLast else l[k]) 1048576 (ra hx) (by omega)
   have hi:(cond (decide (0 < ((l[k].length:Nat):Int))) ((aa l[k] (IntKind.wrap .i64 (((l[k].length:Nat):Int) - 1))).bind fun x837=>some (decide (((x837.toNat:Nat):Int)=33))) (some false))=some (decide (l[k].getLast? = some 33)):=by
     by_cases h0:l[k]=[]
     . rw [h0]; rfl
     . have hq:0 < l[k].length:=List.length_pos_iff.2 h0
       obtain ⟨q1,q2,q3⟩:=m4 l[k] 33 hq
       have e1:decide (0 < ((l[k].length:Nat):Int))=true:=by simp; omega
       have e2:IntKind.wrap .i64 (((l[k].length:Nat):Int) - 1)=((l[k].length - 1:Nat):Int):=by rw [w64 (by omega) (by omega)]; omega
       rw [e1,cond_true,e2,aw (by omega),q2]
       simp only [Option.bind_some,Option.some.injEq]
       by_cases hc:l[k][l[k].length - 1]=33
       . simp [hc]
       . have:=nS hc
         simp only [hc,decide_false,decide_eq_false_iff_not]; exact this
   have hd:(cond (decide (l[k].getLast? = some 33)) ((subL l[k] 0 (IntKind.wrap .i64 (((l[k].length:Nat):Int) - 1))).bind fun y847=>some y847) (some l[k]):Option Wd)=some (if decide (l[k].getLast? = some 33)=true then l[k].dropLast else l[k]):=by
     cases hc:decide (l[k].getLast? = some 33) with
     | false=>rfl
     | true =>
       have hq:0 < l[k].length:=by
         rcases Nat.eq_zero_or_pos l[k].length with h | h
         . rw [List.length_eq_zero_iff.1 h] at hc; simp at hc
         . exact h
       obtain ⟨q1,q2,q3⟩:=m4 l[k] 33 hq
       have e2:IntKind.wrap .i64 (((l[k].length:Nat):Int) - 1)=((l[k].length - 1:Nat):Int):=by rw [w64 (by omega) (by omega)]; omega
       rw [cond_true,e2,bV (by omega) (by omega) (by omega)]
       simp [q3]
   rw [List.drop_eq_getElem_cons hk']
   by_cases h1:(pSl l[k]).2=0
   . have e:pgo (l[k] :: l.drop (k + 1)) acc=pgo (l.drop (k + 1)) (acc++[(pSl l[k]).1]):=by simp [pgo,h1]
     rw [e,bM (s':=(acc++[(pSl l[k]).1],((k + 1:Nat):Int))),ih (k + 1) _ (by omega) (by simp [ha])]
     unfold hI
     simp only [dlt hk',cond_true,aw hk',Option.bind_some,hi,hd,hp,aH hk' (by omega)]
     unfold pSl at h1
     simp only at h1
     rw [h1]
     simp only [decide_true,Bool.not_true,cond_false]
     rw [aI (by simp; omega)]
     rfl
   . have e:pgo (l[k] :: l.drop (k + 1)) acc=([],(pSl l[k]).2):=by simp [pgo,h1]
     rw [e]
     simp only [h1,if_false]
     refine aR ?_
     unfold hI
     simp only [dlt hk',cond_true,aw hk',Option.bind_some,hi,hd,hp]
     unfold pSl at h1 ⊢
     simp only at h1 ⊢
     rw [decide_eq_false h1]; rfl
theorem qg (s:Wd) (hn:s.length≤1000000):hY s=some (pTy s):=by
 unfold hY pTy
 by_cases h0:s=[45]
 . subst h0; rfl
 . rw [if_neg h0,decide_eq_false h0,cond_false,show dP s 47=_ from mW s 47 hn]
   have:=vt (ae 47 s) (by have:=cP 47 s; omega) (pf hn) (ae 47 s).length 0 [] (by omega) rfl
   rw [show ((0:Nat):Int)=0 from rfl,List.drop_zero] at this
   simp only [Option.bind_some]
   rw [this]
   by_cases h1:(pgo (ae 47 s) []).2=0
   . simp only [h1,if_true,Option.bind_some]; rw [← h1]
   . simp only [h1,if_false,Option.bind_some]
end
set_option maxRecDepth 20000
set_option linter.unusedSectionVars false
section
open Go.RowKit Nu
abbrev aA:=Int×List (Int×Int)×List (List St)×List St
abbrev aC:=List bJ×cg
abbrev PS:=Int×Int×List (Int×Int)×List (List St)×List St×List aA×List aC×Int
abbrev R38:=Int×Int×List (Int×Int)×List (List St)×List St×List aA×List aC×Int×Int
def cX (ws:List Wd) (p:PS):Option (Int×PS):=dn ws p.1 p.2.1 p.2.2.1 p.2.2.2.1 p.2.2.2.2.1 p.2.2.2.2.2.1 p.2.2.2.2.2.2.1 p.2.2.2.2.2.2.2
def wds (l:Wd):List Wd:=(ae 32 l).filter (fun w=>!decide (w=[]))
def bP:List Wd→Bool
 | []=>true
 | w :: _=>decide (w.head? = some 35)
def cV (l:Wd) (p:PS):Option (Int×PS):=if bP (wds l) then some (0,p) else cX (wds l) p
def di (p:PS):R38:=if p.2.2.2.2.2.2.2=3∨p.2.2.2.2.2.2.2=5∨p.2.2.2.2.2.2.2=7 then (p.1,p.2.1,p.2.2.1,p.2.2.2.1,p.2.2.2.2.1,p.2.2.2.2.2.1,p.2.2.2.2.2.2.1,0,0) else (0,0,[],[],[],[],[],0,14)
def eK:List Wd→PS→Int→Option R38
 | [],p,n=>some (di p)
 | l :: ls,p,n=>(cV l p).bind fun r=>if r.1=0 then eK ls r.2 (n + 1) else some (0,0,[],[],[],[],[],n + 1,r.1)
theorem u7 (l:List Wd) (hn:l.length≤4000000):jp l=some (match l.findIdx? (fun w=>decide (w=[])) with | some k=>(k:Int) | none=>-1):=by
 unfold jp
 rw [iq (body:=jl l) l (fun w=>decide (w=[])) (fun k => .inr (k:Int)) (.inl ()) (fun k hk=>by
   unfold jl ie
   simp only [dlt hk,cond_true,aw hk,Option.bind_some,aH hk (by omega)]
   by_cases h:l[k]=[] <;> simp [h]) (by unfold jl; simp only [dge (show ¬ l.length < l.length by omega),cond_false])]
 cases l.findIdx? (fun w=>decide (w=[])) <;> rfl
theorem rz (l:List Wd) (hn:l.length≤4000000):fO l=some (l.filter (fun w=>!decide (w=[]))):=by
 unfold fO
 rw [u7 l hn,Option.bind_some]
 cases hf:l.findIdx? (fun w=>decide (w=[])) with
 | none =>
   have h:=List.findIdx?_eq_none_iff.1 hf
   have e:l.filter (fun w=>!decide (w=[]))=l:=List.filter_eq_self.2 (fun w hw=>by have:=h w hw; simpa using this)
   rw [e]; rfl
 | some k =>
   obtain ⟨hk,hp,hmin⟩:=List.findIdx?_eq_some_iff_getElem.1 hf
   have hpk:l[k]=[]:=by simpa using hp
   have hd:decide ((k:Int) = -1)=false:=decide_eq_false (by omega)
   dsimp only
   rw [hd,cond_false]
   have htk:(l.take k).filter (fun w=>!decide (w=[]))=l.take k:=List.filter_eq_self.2 (fun w hw=>by
     obtain ⟨j,hj,rfl⟩:=List.getElem_of_mem hw
     rw [List.length_take] at hj
     have:=hmin j (by omega)
     rw [List.getElem_take]; simpa using this)
   obtain ⟨b,hb,hq⟩:=vm (body:=lj) (fun s=>∃ i j:Nat,s.2.1=(i:Int)∧s.2.2=(j:Int)∧i < j∧j≤l.length∧s.1.length=l.length∧s.1.take i=(l.take j).filter (fun w=>!decide (w=[]))∧s.1.drop j=l.drop j) (fun s=>l.length - s.2.2.toNat)
     (Q:=fun b=>∃ i:Nat,b.2=(i:Int)∧i≤l.length∧b.1.length=l.length∧b.1.take i=l.filter (fun w=>!decide (w=[])))
     (fun s hs=>by
       obtain ⟨q,i',j'⟩:=s
       obtain ⟨i,j,rfl,rfl,hij,hj,hl,ht,hdr⟩:=hs
       dsimp only at hl ht hdr ⊢
       unfold lj ie
       by_cases hjl:j < l.length
       . left
         have hjq:j < q.length:=by omega
         have hiq:i < q.length:=by omega
         have ej:q[j]=l[j]:=by
           have:=congrArg List.head? hdr
           rw [List.head?_drop,List.head?_drop,List.getElem?_eq_getElem hjq,List.getElem?_eq_getElem hjl] at this
           exact Option.some.inj this
         have w1:IntKind.wrap .i64 ((j:Int) + 1)=((j + 1:Nat):Int):=aH hjl (by omega)
         have w2:IntKind.wrap .i64 ((i:Int) + 1)=((i + 1:Nat):Int):=aH hiq (by omega)
         have hdr':q.drop (j + 1)=l.drop (j + 1):=by
           rw [← List.drop_drop (i:=1),hdr,List.drop_drop]
         simp only [dlt hjq,cond_true,aw hjq,aw hiq,Option.bind_some,w1,w2,Int.toNat_natCast]
         by_cases hz:l[j]=[]
         . rw [show decide (q[j]=[])=true from by rw [ej]; simp [hz]]
           refine ⟨(q,(i:Int),((j + 1:Nat):Int)),rfl,⟨i,j + 1,rfl,rfl,by omega,by omega,hl,?_,hdr'⟩,by dsimp only; omega⟩
           rw [et hjl,List.filter_append,ht]
           simp [hz]
         . rw [show decide (q[j]=[])=false from by rw [ej]; simp [hz]]
           refine ⟨(q.set i q[j],((i + 1:Nat):Int),((j + 1:Nat):Int)),rfl,⟨i + 1,j + 1,rfl,rfl,by omega,by omega,by simp [hl],?_,?_⟩,by dsimp only; omega⟩
           . dsimp only
             rw [et (by rw [List.length_set]; omega),List.take_set_of_le (by omega),ht,List.getElem_set_self,et hjl,List.filter_append,ej]
             simp [hz]
           . dsimp only
             rw [List.drop_set_of_lt (by omega),hdr']
       . right
         have hjq:¬ j < q.length:=by omega
         have ejl:j=l.length:=by omega
         refine ⟨(q,(i:Int)),by simp only [dge hjq,cond_false],i,rfl,by omega,hl,?_⟩
         dsimp only; rw [ht,ejl,List.take_length])
     (s:=(l,(k:Int),IntKind.wrap .i64 ((k:Int) + 1))) ⟨k,k + 1,rfl,by dsimp only; exact aH hk (by omega),by omega,by omega,rfl,by rw [et hk,List.filter_append,htk]; simp [hpk],rfl⟩
   obtain ⟨q,z⟩:=b
   obtain ⟨i,rfl,hi,hl,ht⟩:=hq
   dsimp only at hi hl ht
   rw [hb]
   simp only [Option.bind_some]
   rw [bV (by omega) (by omega) (by omega)]
   simp only [Option.bind_some,Int.toNat_natCast]
   rw [bV (by omega) (by omega) (by simp [cpy]; omega)]
   simp only [Option.bind_some,Int.toNat_natCast,show ((0:Int).toNat)=0 from rfl,List.drop_zero]
   unfold cpy
   rw [List.take_append_of_le_length (by rw [List.length_take]; omega),List.take_take,Nat.min_self,ht]
theorem rb (ws:List Wd):(cond (decide (((ws.length:Nat):Int)=0)) (some true) ((aa ws 0).bind fun x=>(eh x [35]).bind fun t=>some t))=some (bP ws):=by
 cases ws with
 | nil=>rfl
 | cons w ws =>
   have e1:decide ((((w :: ws).length:Nat):Int)=0)=false:=decide_eq_false (by simp; omega)
   have e2:aa (w :: ws) 0=some w:=rfl
   rw [e1,cond_false,e2,Option.bind_some]
   unfold eh lm bP
   cases w with
   | nil=>rfl
   | cons c w =>
     have e3:decide (((([35]:List UInt8).length:Nat):Int)≤(((c :: w).length:Nat):Int))=true:=by simp; omega
     rw [e3,cond_true,bV (by omega) (by omega) (by simp; omega)]
     simp
def cY (p:PS) (n:Int) (s:Wd):Int×Int×List (Int×Int)×List (List St)×List St×List aA×List aC×Int×Int×Wd:=(p.1,p.2.1,p.2.2.1,p.2.2.2.1,p.2.2.2.2.1,p.2.2.2.2.2.1,p.2.2.2.2.2.2.1,p.2.2.2.2.2.2.2,n,s)
theorem zU (s:Wd) (c:UInt8) (hn:s.length≤2000000):g8 s [c]=some (match s.findIdx? (fun x=>decide (x=c)) with | some k=>(k:Int) | none=>-1):=by
 unfold g8; rw [if_pos (by omega)]; exact (congrArg some (jW c s)).trans (by cases s.findIdx? (fun x=>decide (x=c)) <;> rfl)
theorem w9:∀ (m:Nat) (s:Wd) (p:PS) (n:Nat) (r:R38),s.length≤m→n + m≤2000000→eK (ae 10 s) p n=some r →
   loop (eW [10] 0) (cY p n s)=some (.inr r)∨∃ (p':PS) (n':Nat) (s':Wd),loop (eW [10] 0) (cY p n s)=some (.inl (cY p' n' s'))∧n'≤2000000∧s'.length≤2000000∧eK [s'] p' n'=some r:=by
 intro m
 induction m with
 | zero =>
   intro s p n r hs hn h
   right
   obtain rfl:s=[]:=List.length_eq_zero_iff.1 (by omega)
   refine ⟨p,n,[],aR ?_,by omega,by simp,h⟩
   unfold eW cY
   rfl
 | succ m ih =>
   intro s p n r hs hn h
   have hx:=zU s 10 (by omega)
   cases hf:s.findIdx? (fun x=>decide (x=10)) with
   | none =>
     right
     rw [ip 10 s hf] at h
     rw [hf] at hx
     refine ⟨p,n,s,aR ?_,by omega,by omega,h⟩
     unfold eW cY
     simp only [hx,Option.bind_some]
     rfl
   | some k =>
     obtain ⟨hk,_,_⟩:=List.findIdx?_eq_some_iff_getElem.1 hf
     rw [jQ 10 s k hf] at h
     rw [hf] at hx
     dsimp only at hx
     have q1:IntKind.wrap .i64 ((k:Int) + 0)=(k:Int):=w64 (by omega) (by omega)
     have q2:IntKind.wrap .i64 ((k:Int) + ((([10]:List UInt8).length:Nat):Int))=((k + 1:Nat):Int):=aH hk (by omega)
     have q3:IntKind.wrap .i64 ((n:Int) + 1)=((n + 1:Nat):Int):=aH (n:=2000000) (by omega) (by omega)
     have hkl:(s.take k).length≤2000000:=by rw [List.length_take]; omega
     have hsp:=mH 32 (s.take k) (by omega)
     have hde:=rz (ae 32 (s.take k)) (by have:=cP 32 (s.take k); omega)
     have hsub:subL s ((k + 1:Nat):Int) ((s.length:Nat):Int)=some (s.drop (k + 1)):=by rw [bV (by omega) (by omega) (by omega)]; simp
     have hsub0:subL s 0 (k:Int)=some (s.take k):=by rw [bV (by omega) (by omega) (by omega)]; simp
     obtain ⟨y,hy,h⟩:=ob h
     obtain ⟨e,p1⟩:=y
     unfold cV at hy
     have hbody:∀ (b:(Int×Int×List (Int×Int)×List (List St)×List St×List aA×List aC×Int×Int×Wd)⊕((Int×Int×List (Int×Int)×List (List St)×List St×List aA×List aC×Int×Int×Wd)⊕R38)),
         (if bP (wds (s.take k))=true then b = .inl (cY p ((n + 1:Nat):Int) (s.drop (k + 1))) else b=(if e=0 then .inl (cY p1 ((n + 1:Nat):Int) (s.drop (k + 1))) else .inr (.inr (0,0,[],[],[],[],[],((n + 1:Nat):Int),e)))) →
         eW [10] 0 (cY p n s)=some b:=by
       intro b hb
       unfold eW cY
       have hneg:decide ((k:Int) < 0)=false:=decide_eq_false (by omega)
       simp only [hx,Option.bind_some,hneg,cond_false,q1,q2,q3,hsub0,hsp,hde,hsub]
       rw [show (cond (decide (((((ae 32 (s.take k)).filter (fun w=>!decide (w=[]))).length:Nat):Int)=0)) (some true) ((aa ((ae 32 (s.take k)).filter (fun w=>!decide (w=[]))) 0).bind fun x=>(eh x [35]).bind fun t=>some t))=some (bP (wds (s.take k))) from rb _]
       cases hsk:bP (wds (s.take k)) with
       | true =>
         rw [hsk,if_pos rfl] at hb
         rw [hb]; rfl
       | false =>
         rw [hsk] at hb hy
         simp only [Bool.false_eq_true,if_false] at hb hy
         rw [hb]
         have hy':dn ((ae 32 (s.take k)).filter (fun w=>!decide (w=[]))) p.1 p.2.1 p.2.2.1 p.2.2.2.1 p.2.2.2.2.1 p.2.2.2.2.2.1 p.2.2.2.2.2.2.1 p.2.2.2.2.2.2.2=some (e,p1):=hy
         simp only [Option.bind_some,cond_false,hy']
         by_cases h0:e=0
         . simp only [h0,decide_true,Bool.not_true,cond_false,if_true]; rfl
         . simp only [h0,decide_false,Bool.not_false,cond_true,if_false]
     have hdl:(s.drop (k + 1)).length≤m:=by rw [List.length_drop]; omega
     by_cases h0:e=0
     . simp only [h0,if_true] at h
       have hp1:bP (wds (s.take k))=true→p1=p:=fun hsk=>by
         rw [if_pos hsk] at hy
         injection hy with hy
         exact (congrArg Prod.snd hy).symm
       have hb:=hbody (.inl (cY p1 ((n + 1:Nat):Int) (s.drop (k + 1)))) (by
         split
         . rename_i hsk; rw [hp1 hsk]
         . first | rfl | rw [if_pos h0])
       rw [bM hb]
       exact ih _ p1 (n + 1) r hdl (by omega) h
     . simp only [h0,if_false] at h
       injection h with h
       left
       have hns:¬ bP (wds (s.take k))=true:=fun hsk=>by
         rw [if_pos hsk] at hy
         injection hy with hy
         exact h0 (congrArg Prod.fst hy).symm
       have hb:=hbody (.inr (.inr r)) (by
         rw [if_neg hns,if_neg h0,← h]; rfl)
       exact aR hb
theorem qD (s:Wd) (r:R38) (hn:s.length≤1048576) (h:eK (ae 10 s) (0,0,[],[],[],[],[],0) 0=some r):fU s=some r:=by
 unfold fU
 have e1:decide (1048576 < ((s.length:Nat):Int))=false:=decide_eq_false (by omega)
 rw [e1,cond_false]
 have e2:ly s [10]=some ([10],s,0):=rfl
 rw [e2,Option.bind_some]
 dsimp only
 rw [show decide (((([10]:List UInt8).length:Nat):Int)=0)=false from rfl,cond_false]
 have key:=w9 s.length s (0,0,[],[],[],[],[],0) 0 r (Nat.le_refl _) (by omega) h
 have hst:cY (0,0,[],[],[],[],[],0) ((0:Nat):Int) s=(0,0,[],[],[],[],[],0,0,s):=rfl
 rw [hst] at key
 rcases key with key | ⟨p,n,s',key,hn',hs',hr⟩
 . rw [key]; rfl
 . rw [key]
   unfold cY
   simp only [Option.bind_some]
   obtain ⟨y,hy,hr⟩:=ob hr
   obtain ⟨e,p1⟩:=y
   unfold cV at hy
   have q3:IntKind.wrap .i64 ((n:Int) + 1)=((n + 1:Nat):Int):=aH (n:=3000000) (by omega) (by omega)
   have hsp:=mH 32 s' (by omega)
   have hde:=rz (ae 32 s') (by have:=cP 32 s'; omega)
   simp only [hsp,hde,Option.bind_some,q3]
   rw [show (cond (decide (((((ae 32 s').filter (fun w=>!decide (w=[]))).length:Nat):Int)=0)) (some true) ((aa ((ae 32 s').filter (fun w=>!decide (w=[]))) 0).bind fun x=>(eh x [35]).bind fun t=>some t))=some (bP (wds s')) from rb _]
   have fin:∀ p:PS,(((fP p.1 p.2.1 p.2.2.1 p.2.2.2.1 p.2.2.2.2.1 p.2.2.2.2.2.1 p.2.2.2.2.2.2.1 p.2.2.2.2.2.2.2).bind fun (t5069,l5070,l5071,l5072,l5073,l5074)=>cond (!t5069) (some ((0,0,[],[],[],[],[],0,14))) (some ((p.1,p.2.1,l5070,l5071,l5072,l5073,l5074,0,0)))):Option R38)=some (di p):=by
     intro p
     unfold fP di
     simp only [Option.bind_some]
     by_cases hc:p.2.2.2.2.2.2.2=3∨p.2.2.2.2.2.2.2=5∨p.2.2.2.2.2.2.2=7
     . rw [if_pos hc]
       have:(decide (p.2.2.2.2.2.2.2=3)||decide (p.2.2.2.2.2.2.2=5)||decide (p.2.2.2.2.2.2.2=7))=true:=by simp only [Bool.or_eq_true,decide_eq_true_eq]; omega
       rw [this]; rfl
     . rw [if_neg hc]
       have:(decide (p.2.2.2.2.2.2.2=3)||decide (p.2.2.2.2.2.2.2=5)||decide (p.2.2.2.2.2.2.2=7))=false:=by simp only [Bool.or_eq_false_iff,decide_eq_false_iff_not]; omega
       rw [this]; rfl
   cases hsk:bP (wds s') with
   | true =>
     rw [hsk,if_pos rfl] at hy
     injection hy with hy
     obtain ⟨rfl,rfl⟩:0=e∧p=p1:=⟨congrArg Prod.fst hy,congrArg Prod.snd hy⟩
     simp only [if_true] at hr
     simp only [Option.bind_some,cond_true]
     rw [← hr]
     exact fin p
   | false =>
     rw [hsk] at hy
     simp only [Bool.false_eq_true,if_false] at hy
     have hy':dn ((ae 32 s').filter (fun w=>!decide (w=[]))) p.1 p.2.1 p.2.2.1 p.2.2.2.1 p.2.2.2.2.1 p.2.2.2.2.2.1 p.2.2.2.2.2.2.1 p.2.2.2.2.2.2.2=some (e,p1):=hy
     simp only [Option.bind_some,cond_false,hy']
     by_cases h0:e=0
     . simp only [h0,if_true] at hr
       simp only [h0,decide_true,Bool.not_true,cond_false]
       rw [← hr]
       exact fin p1
     . simp only [h0,if_false] at hr
       simp only [h0,decide_false,Bool.not_false,cond_true]
       rw [← hr]; rfl
def rdL (w:Wd):List Int×Int:=if w=[45] then ([],0) else b7 w 1048576
section
variable {w:Wd} {ws:List Wd} (hw:w.length≤1000000) (hl:ws.length≤4000000)
include hw hl
theorem take1:subL (w :: ws) 1 ((((w :: ws).length:Nat)):Int)=some ws:=by rw [nM (by simp)]; rfl
theorem bp:bq (w :: ws) 0=some ((au w 1048576).1,ws,(au w 1048576).2):=by
 unfold bq jq lu
 have e:aa (w :: ws) 0=some w:=rfl
 simp only [decide_true,Bool.not_true,cond_false,e,Option.bind_some,ix w 1048576 hw (by omega) (by omega),take1 hw hl]
theorem eR:cj (w :: ws) 0=some ((pTy w).1,ws,(pTy w).2):=by
 unfold cj jr
 have e:aa (w :: ws) 0=some w:=rfl
 simp only [decide_true,Bool.not_true,cond_false,e,Option.bind_some,wq w hw,take1 hw hl]
theorem fM:c8 (w :: ws) 0=some ((rdL w).1,ws,(rdL w).2):=by
 unfold c8 js lw
 have e:aa (w :: ws) 0=some w:=rfl
 have h1:(cond (decide (w=[45])) (some (([]:List Int),(0:Int))) ((hO w 1048576).bind fun (l23,i24)=>some (l23,i24)))=some (rdL w):=by
   unfold rdL
   by_cases h0:w=[45]
   . rw [if_pos h0,decide_eq_true h0]; rfl
   . rw [if_neg h0,decide_eq_false h0,cond_false,uc w 1048576 hw (by omega) (by omega)]; rfl
 simp only [decide_true,Bool.not_true,cond_false,e,Option.bind_some,take1 hw hl]
 rw [h1]; rfl
theorem sf:jo (w :: ws) 0=some ((aW w 1048576).1,(aW w 1048576).2.1,ws,(aW w 1048576).2.2):=by
 unfold jo lr
 have e:aa (w :: ws) 0=some w:=rfl
 simp only [decide_true,Bool.not_true,cond_false,e,Option.bind_some,uh w 1048576 hw (by omega) (by omega),take1 hw hl]
end
theorem sA {α:Type} (x:α) (l:List α):decide ((0:Int) < (((x :: l).length:Nat):Int))=true:=by simp
theorem sr (ws:List (Int×Int)) (h:∀ b∈ws,(0≤b.1∧b.1≤1048576)∧0≤b.2∧b.2≤1048576) (hl:ws.length≤1000000):dN (ws.map pair) 0=some (ws,[],0):=by
 unfold dN
 have key:∀ (l acc:List (Int×Int)),(∀ b∈l,(0≤b.1∧b.1≤1048576)∧0≤b.2∧b.2≤1048576)→acc.length + l.length≤1000000→loop dM (acc,l.map pair,0)=some (acc++l,[],0):=by
   intro l
   induction l with
   | nil =>
     intro acc _ _
     refine aR ?_
     unfold dM
     simp
   | cons b l ih =>
     intro acc hb ha
     obtain ⟨⟨b1,b2⟩,b3,b4⟩:=hb b (by simp)
     have hp:=tA (b:=b) (most:=1048576) b1 b3 b2 b4
     have hpl:(pair b).length≤1000000:=by
       have:=cQ (show b.1≤9223372036854775807 by omega); have:=cQ (show b.2≤9223372036854775807 by omega)
       unfold pair; split
       . simp
       . simp; omega
     simp only [List.length_cons] at ha
     rw [bM (s':=(acc++[b],l.map pair,0)),ih _ (fun x hx=>hb x (by simp [hx])) (by rw [List.length_append,List.length_singleton]; omega)]
     . simp
     . unfold dM
       simp only [List.map_cons,sA,decide_true,Bool.and_self,cond_true,sf hpl (show (l.map pair).length≤4000000 by simp; omega),Option.bind_some,hp]
       rw [aI (by simp; omega)]
       rfl
 have:=key ws [] h (by simp; omega)
 rw [this]; rfl
theorem mh {n:Int} (h:0≤n) (h2:n≤1048576):au (text n) 1048576=(n,0):=by rw [jS h,if_neg (by omega)]
theorem mQ {n:Int} (h:0≤n):text n≠[]:=by unfold text; rw [if_neg (by omega)]; exact kw _
theorem jX {x:St} {c:UInt8} (hc:aT c=false) (h33:c≠33):c∉bB x:=by
 unfold bB
 simp only [List.mem_append,not_or]
 refine ⟨dY hc,?_⟩
 cases x.2 <;> simp [h33]
theorem iB {d c:UInt8} (hd:d≠c):∀ {l:List Wd},(∀ p∈l,d∉p)→d∉ak c l
 | [],_=>by simp [ak]
 | p :: ps,h=>by
   unfold ak
   simp only [List.mem_append,List.mem_flatMap,List.mem_cons,not_or,not_exists,not_and]
   exact ⟨h p (by simp),fun q hq=>⟨hd,h q (by simp [hq])⟩⟩
theorem py {c:UInt8} {p:Wd} {ps:List Wd} (h:p≠[]):ak c (p :: ps)≠[]:=by
 unfold ak; intro e; exact h (List.append_eq_nil_iff.1 e).1
theorem uF {x:St} (h:0≤x.1) (h2:x.1≤1048576):pSl (bB x)=(x,0):=by
 obtain ⟨n,b⟩:=x
 unfold pSl bB
 cases b with
 | true =>
   have:(text n++[33]).getLast? = some 33:=by simp
   simp only [if_true,this,decide_true,List.dropLast_concat,mh h h2]
 | false =>
   have:decide ((text n++([]:Wd)).getLast? = some 33)=false:=decide_eq_false (by
     rw [List.append_nil]
     intro e
     exact dY (n:=n) (c:=33) rfl (List.mem_of_getLast? e))
   simp only [Bool.false_eq_true,if_false]
   rw [this,List.append_nil]
   simp only [Bool.false_eq_true,if_false,mh h h2]
theorem pA:∀ (t acc:List St),(∀ x∈t,0≤x.1∧x.1≤1048576)→pgo (t.map bB) acc=(acc++t,0)
 | [],acc,_=>by simp [pgo]
 | x :: t,acc,h=>by
   obtain ⟨h1,h2⟩:=h x (by simp)
   rw [List.map_cons]
   unfold pgo
   rw [uF h1 h2]
   simp only [ne_eq,not_true_eq_false,if_false]
   rw [pA t _ (fun y hy=>h y (by simp [hy]))]
   simp
theorem ki {t:List St} (h:∀ x∈t,0≤x.1∧x.1≤1048576):pTy (tyW t)=(t,0):=by
 unfold pTy tyW
 by_cases h0:t=[]
 . subst h0; rfl
 . rw [if_neg h0]
   have hm:(45:UInt8)∉ak 47 (t.map bB):=iB (by decide) (fun p hp=>by obtain ⟨x,_,rfl⟩:=List.mem_map.1 hp; exact jX rfl (by decide))
   rw [if_neg (fun e=>hm (by rw [e]; simp)),jN 47 _ (by simpa using h0) (fun p hp=>by obtain ⟨x,_,rfl⟩:=List.mem_map.1 hp; exact jX rfl (by decide)),pA t [] h]; simp
theorem mE {l:List Int} {c:UInt8} (hc:aT c=false) (h:c≠44):c∉lst l:=by
 unfold lst; exact iB h (fun p hp=>by obtain ⟨x,_,rfl⟩:=List.mem_map.1 hp; exact dY hc)
theorem gx {l:List Int} (h:∀ x∈l,0≤x∧x≤1048576):rdL (liW l)=(l,0):=by
 unfold rdL liW
 by_cases h0:l=[]
 . subst h0; rfl
 . rw [if_neg h0,if_neg (fun e=>mE (l:=l) (c:=45) rfl (by decide) (by rw [e]; simp)),tG h]
structure WdOk (w:Wd):Prop where
 ne:w≠[]
 sp:(32:UInt8)∉w
 nl:(10:UInt8)∉w
theorem WdOk.text {n:Int} (h:0≤n):WdOk (text n):=⟨mQ h,dY rfl,dY rfl⟩
theorem WdOk.tyW {t:List St} (h:∀ x∈t,0≤x.1):WdOk (tyW t):=by
 unfold Go.Proofs.YteciehjlefldmaaDoor.tyW
 cases t with
 | nil=>exact ⟨by simp,by decide,by decide⟩
 | cons x t =>
   rw [if_neg (by simp)]
   refine ⟨py ?_,iB (by decide) (fun p hp=>?_),iB (by decide) (fun p hp=>?_)⟩
   . unfold bB; intro e; exact mQ (h x (by simp)) (List.append_eq_nil_iff.1 e).1
   . obtain ⟨x,_,rfl⟩:=List.mem_map.1 hp; exact jX rfl (by decide)
   . obtain ⟨x,_,rfl⟩:=List.mem_map.1 hp; exact jX rfl (by decide)
theorem WdOk.liW {l:List Int} (h:∀ x∈l,0≤x):WdOk (liW l):=by
 unfold Go.Proofs.YteciehjlefldmaaDoor.liW
 cases l with
 | nil=>exact ⟨by simp,by decide,by decide⟩
 | cons x l =>
   rw [if_neg (by simp)]
   refine ⟨?_,mE rfl (by decide),mE rfl (by decide)⟩
   unfold lst; rw [List.map_cons]; exact py (mQ (h x (by simp)))
theorem WdOk.pair {b:Int×Int} (h1:0≤b.1) (h2:0≤b.2):WdOk (pair b):=by
 unfold Go.Proofs.YteciehjlefldmaaDoor.pair
 rw [if_neg (by omega)]
 refine ⟨by simp,?_,?_⟩ <;> (simp only [List.mem_append,List.mem_cons,not_or]; exact ⟨dY rfl,by decide,dY rfl⟩)
theorem vp {w:Wd} {ws:List Wd} (h:∀ p∈w :: ws,WdOk p):wds (ak 32 (w :: ws))=w :: ws:=by
 unfold wds
 rw [jN 32 _ (by simp) (fun p hp=>(h p hp).sp)]
 exact List.filter_eq_self.2 (fun p hp=>by simpa using (h p hp).ne)
theorem dW {ws:List Wd} (h:∀ p∈ws,WdOk p):(10:UInt8)∉ak 32 ws:=iB (by decide) (fun p hp=>(h p hp).nl)
end
section
open Go.RowKit Nu
abbrev bX:Wd:=[114,101,103,105,111,110,115]
abbrev cN:Wd:=[98,111,117,110,100,115]
abbrev ce:Wd:=[108,111,99,97,108]
abbrev cv:Wd:=[103,105,118,101,115]
abbrev aK:Wd:=[115,105,103]
abbrev cE:Wd:=[110,101,101,100,115]
abbrev bY:Wd:=[97,114,103]
abbrev aB:Wd:=[98,108,111,99,107]
def b8 (a:Int):List Wd:=if a=0 then [bX] else if a=1 then [cN] else if a=2 then [ce,cv] else if a=3 then [aK,aB] else if a=4 then [cE] else if a=5 then [bY,aK,aB]
 else if a=6 then [bx,ba,aP,aU,bz,bv,ca,kSw,bZ,bn] else if a=7 then [aB] else []
theorem dR (l : List Wd) (x : Wd) (hn : l.length ≤ 1000) : bg l x = some (decide (x ∈ l)) := by
 unfold bg lq
 rw [iq (body:=ju l x) l (fun w=>decide (x=w)) (fun k => .inr (k:Int)) (.inl ()) (fun k hk=>by
   unfold ju
   simp only [dlt hk,cond_true,aw hk,Option.bind_some,aH hk (by omega)]
   by_cases h:x=l[k] <;> simp [h]) (by unfold ju; simp only [dge (show ¬ l.length < l.length by omega),cond_false])]
 cases hf:l.findIdx? (fun w=>decide (x=w)) with
 | none =>
   have h:=List.findIdx?_eq_none_iff.1 hf
   have:¬ x∈l:=fun hx=>by have:=h x hx; simp at this
   rw [decide_eq_false this]; rfl
 | some k =>
   obtain ⟨hk,hp,_⟩:=List.findIdx?_eq_some_iff_getElem.1 hf
   have : x ∈ l := by have e : x = l[k] := by simpa using hp
                      rw [e]; exact List.getElem_mem hk
   rw [decide_eq_true this]
   have:decide ((0:Int)≤(k:Int))=true:=decide_eq_true (by omega)
   simp only [Option.bind_some,this]
theorem mR (w:Wd) (u n:Int) (B:List (Int×Int)) (L:List (List St)) (R:List St) (S:List aA) (X:List aC) (a:Int) :
   jt w u n B L R S X a=some (decide (w∈b8 a),B,L,R,S,X):=by
 unfold jt b8
 simp only [dR _ w (show [bX].length≤1000 by decide),dR _ w (show [cN].length≤1000 by decide),dR _ w (show [ce,cv].length≤1000 by decide),dR _ w (show [aK,aB].length≤1000 by decide),dR _ w (show [cE].length≤1000 by decide),dR _ w (show [bY,aK,aB].length≤1000 by decide),dR _ w (show [aB].length≤1000 by decide),dR _ w (show ([]:List Wd).length≤1000 by decide),Option.bind_some]
 by_cases h0:a=0
 . simp only [h0,decide_true,cond_true,if_true]
 rw [decide_eq_false h0,cond_false,if_neg h0]
 by_cases h1:a=1
 . simp only [h1,decide_true,cond_true,if_true]
 rw [decide_eq_false h1,cond_false,if_neg h1]
 by_cases h2:a=2
 . simp only [h2,decide_true,cond_true,if_true]
 rw [decide_eq_false h2,cond_false,if_neg h2]
 by_cases h3:a=3
 . simp only [h3,decide_true,cond_true,if_true]
 rw [decide_eq_false h3,cond_false,if_neg h3]
 by_cases h4:a=4
 . simp only [h4,decide_true,cond_true,if_true]
 rw [decide_eq_false h4,cond_false,if_neg h4]
 by_cases h5:a=5
 . simp only [h5,decide_true,cond_true,if_true]
 rw [decide_eq_false h5,cond_false,if_neg h5]
 by_cases h6:a=6
 . rw [decide_eq_true h6,cond_true,if_pos h6]
   have:=dR [bx,ba,aP,aU,bz,bv,ca,kSw,bZ,bn] w (by decide)
   rw [show bg [[110,111,112],[97,115,115,105,103,110],[98,111,114,114,111,119],[114,101,98,111,114,114,111,119],[117,115,101],[100,101,97,100],[103,111,116,111],[115,119,105,116,99,104],[114,101,116,117,114,110],[99,97,108,108]] w=_ from this]; rfl
 rw [decide_eq_false h6,cond_false,if_neg h6]
 by_cases h7:a=7
 . simp only [h7,decide_true,cond_true,if_true]
 rw [decide_eq_false h7,cond_false,if_neg h7]
section
variable {w:Wd} {ws:List Wd} {u n:Int} {B:List (Int×Int)} {L:List (List St)} {R:List St} {S:List aA} {X:List aC} {a aG most:Int}
 (hm:aN w=some (aG,most)) (hs:decide (w∈b8 a)=true) (h1:aG≤((w :: ws).length:Nat)) (h2:(((w :: ws).length:Nat):Int)≤most)
include hm hs h1 h2
theorem cb (ha:a≠6) {u' n':Int} {B':List (Int×Int)} {L':List (List St)} {R':List St} {S':List aA} {X':List aC} {a' e:Int} {q:List Wd}
   (h:aM w u n B L R S X a ws 0=some (u',n',B',L',R',S',X',a',q,e)):cX (w :: ws) (u,n,B,L,R,S,X,a)=some (e,u',n',B',L',R',S',X',a'):=by
 unfold cX dn
 have g0:aa (w :: ws) 0=some w:=rfl
 have d1:decide ((((w :: ws).length:Nat):Int) < aG)=false:=decide_eq_false (by omega)
 have d2:decide (most < (((w :: ws).length:Nat):Int))=false:=decide_eq_false (by omega)
 have d3:subL (w :: ws) 1 ((((w :: ws).length:Nat)):Int)=some ws:=by rw [nM (by simp)]; rfl
 simp only [g0,Option.bind_some,hm,mR,hs,d1,d2,Bool.not_true,Bool.or_self,cond_false,d3,decide_eq_false ha,h]
theorem iV (ha:a=6) {B':List (Int×Int)} {L':List (List St)} {R':List St} {S':List aA} {X':List aC} {a' e:Int} {q:List Wd}
   (h:c7 (w :: ws) u n B L R S X a ws 0=some (B',L',R',S',X',a',q,e)):cX (w :: ws) (u,n,B,L,R,S,X,a)=some (e,u,n,B',L',R',S',X',a'):=by
 unfold cX dn
 have g0:aa (w :: ws) 0=some w:=rfl
 have d1:decide ((((w :: ws).length:Nat):Int) < aG)=false:=decide_eq_false (by omega)
 have d2:decide (most < (((w :: ws).length:Nat):Int))=false:=decide_eq_false (by omega)
 have d3:subL (w :: ws) 1 ((((w :: ws).length:Nat)):Int)=some ws:=by rw [nM (by simp)]; rfl
 simp only [g0,Option.bind_some,hm,mR,hs,d1,d2,Bool.not_true,Bool.or_self,cond_false,d3,decide_eq_true ha,cond_true,h]
end
theorem cL {α:Type} (X:List α) (x:α) (h:X.length≤1000000):IntKind.wrap .i64 (((((X++[x]).length:Nat)):Int) - 1)=((X.length:Nat):Int):=by
 rw [List.length_append,List.length_singleton,w64 (by omega) (by omega)]; omega
theorem cM {α:Type} (X:List α) (x:α):aa (X++[x]) ((X.length:Nat):Int)=some x:=by rw [aw (by simp)]; simp
theorem cK {α:Type} (X:List α) (x y:α):(X++[x]).set X.length y=X++[y]:=by rw [List.set_append_right _ _ (Nat.le_refl _)]; simp
theorem cH (i:Int):ay i i=some ():=by unfold ay; simp
theorem az {α:Type} (x:α) (l:List α):aa (x :: l) 0=some x:=rfl
abbrev In (n:Int):Prop:=0≤n∧n≤1048576
theorem In.i64 {n:Int} (h:In n):I64 n:=by have:=h.2; show n≤_; omega
theorem In.len {n:Int} (h:In n):(text n).length≤1000000:=by have:=cQ h.i64; omega
theorem pa {n:Int} (h:In n):au (text n) 1048576=(n,0):=mh h.1 h.2
theorem k8 {t:List St} (h:∀ x∈t,In x.1) (hl:t.length≤1000):(tyW t).length≤1000000:=by have:=vQ (t:=t) (fun x hx=>(h x hx).i64); omega
theorem gG {t:List Int} (h:∀ x∈t,In x) (hl:t.length≤1000):(liW t).length≤1000000:=by have:=wo (l:=t) (fun x hx=>(h x hx).i64); omega
section
variable {u n:Int} {B:List (Int×Int)} {L:List (List St)} {R:List St} {S:List aA} {X:List aC} {a:Int}
theorem xN {x y:Int} (hx:In x) (hy:In y):aM bX u n B L R S X a [text x,text y] 0=some (x,y,B,L,R,S,X,1,[],0):=by
 unfold aM
 simp only [decide_true,cond_true,bp (w:=text x) (ws:=[text y]) hx.len (by simp),pa hx,Option.bind_some,bp (w:=text y) (ws:=[]) hy.len (by simp),pa hy]
theorem xW {l:List (Int×Int)} (h:∀ b∈l,In b.1∧In b.2) (hl:l.length≤1000):aM cN u n B L R S X a (l.map pair) 0=some (u,n,l,L,R,S,X,2,[],0):=by
 unfold aM
 simp (decide:=true) only [decide_true,decide_false,cond_true,cond_false,sr l h (show l.length≤1000000 by omega),Option.bind_some]
theorem ya {t:List St} (h:∀ x∈t,In x.1) (hl:t.length≤1000) (hL:L.length≤1000):aM ce u n B L R S X a [tyW t] 0=some (u,n,B,L++[t],R,S,X,a,[],0):=by
 unfold aM
 have ha:app L [t]=some (L++[t]):=aI (by simp; omega)
 simp (decide:=true) only [decide_true,decide_false,cond_true,cond_false,eR (w:=tyW t) (ws:=[]) (k8 h hl) (by simp),ki h,Option.bind_some,ha]
theorem xT {t:List St} (h:∀ x∈t,In x.1) (hl:t.length≤1000):aM cv u n B L R S X a [tyW t] 0=some (u,n,B,L,t,S,X,3,[],0):=by
 unfold aM
 simp (decide:=true) only [decide_true,decide_false,cond_true,cond_false,eR (w:=tyW t) (ws:=[]) (k8 h hl) (by simp),ki h,Option.bind_some]
theorem xX {x:Int} {t:List St} (hx:In x) (h:∀ x∈t,In x.1) (hl:t.length≤1000) (hS:S.length≤1000):aM aK u n B L R S X a [text x,tyW t] 0=some (u,n,B,L,R,S++[(x,[],[],t)],X,4,[],0):=by
 unfold aM
 have ha:app S [(x,([]:List (Int×Int)),([]:List (List St)),t)]=some (S++[(x,[],[],t)]):=aI (by simp; omega)
 simp (decide:=true) only [decide_true,decide_false,cond_true,cond_false,bp (w:=text x) (ws:=[tyW t]) hx.len (by simp),pa hx,eR (w:=tyW t) (ws:=[]) (k8 h hl) (by simp),ki h,Option.bind_some,ha]
theorem wR {s:aA} {l:List (Int×Int)} (h:∀ b∈l,In b.1∧In b.2) (hl:l.length≤1000) (hS:S.length≤1000):aM cE u n B L R (S++[s]) X a (l.map pair) 0=some (u,n,B,L,R,S++[(s.1,l,s.2.2.1,s.2.2.2)],X,5,[],0):=by
 unfold aM
 simp (decide:=true) only [decide_true,decide_false,cond_true,cond_false,sr l h (show l.length≤1000000 by omega),cL S s (by omega),cM,cH,Option.bind_some,Int.toNat_natCast,cK]
theorem x8 {s:aA} {t:List St} (h:∀ x∈t,In x.1) (hl:t.length≤1000) (hS:S.length≤1000) (hA:s.2.2.1.length≤1000):aM bY u n B L R (S++[s]) X a [tyW t] 0=some (u,n,B,L,R,S++[(s.1,s.2.1,s.2.2.1++[t],s.2.2.2)],X,a,[],0):=by
 unfold aM
 have ha:app s.2.2.1 [t]=some (s.2.2.1++[t]):=aI (by simp; omega)
 simp (decide:=true) only [decide_true,decide_false,cond_true,cond_false,eR (w:=tyW t) (ws:=[]) (k8 h hl) (by simp),ki h,cL S s (by omega),cM,cH,Option.bind_some,ha,Int.toNat_natCast,cK,fp]
theorem xU (hX:X.length≤1000):aM aB u n B L R S X a [] 0=some (u,n,B,L,R,S,X++[([],(0,0,0,[],[],[]))],6,[],0):=by
 unfold aM
 have ha:app X [(([]:List bJ),((0,0,0,[],[],[]):cg))]=some (X++[([],(0,0,0,[],[],[]))]):=aI (by simp; omega)
 simp (decide:=true) only [decide_true,decide_false,cond_true,cond_false,Option.bind_some,ha]
structure StOk (x:bJ):Prop where
 kind:0≤x.1∧x.1≤5
 dst:In x.2.1
 src:In x.2.2.1
 reg:In x.2.2.2.1
 d0:x.1=0∨x.1=4→x.2.1=0
 s0:x.1=0∨x.1=5→x.2.2.1=0
 r0:x.1≠2→x.1≠3→x.2.2.2.1=0∧x.2.2.2.2=false
structure TmOk (x:cg):Prop where
 kind:1≤x.1∧x.1≤4
 sig:In x.2.1
 dst:In x.2.2.1
 tos:∀ n∈x.2.2.2.1,In n
 args:∀ n∈x.2.2.2.2.1,In n
 par:∀ n∈x.2.2.2.2.2,In n
 nto:x.2.2.2.1.length≤1000
 nargs:x.2.2.2.2.1.length≤1000
 npar:x.2.2.2.2.2.length≤1000
 c0:x.1≠4→x.2.1=0∧x.2.2.1=0∧x.2.2.2.2.2=[]
 t0:x.1=3→x.2.2.2.1=[]
 a0:x.1=1∨x.1=3→x.2.2.2.2.1=[]
theorem wS {x:cg} (h:TmOk x) {w:Wd} {ws:List Wd} (e:ed x=w :: ws):cx w ws 0=some (x.1,x.2.1,x.2.2.1,x.2.2.2.1,x.2.2.2.2.1,x.2.2.2.2.2,true,[],0):=by
 obtain ⟨k,s,d,T,A,P⟩:=x
 obtain ⟨⟨k1,k2⟩,hs,hd,hT,hA,hP,lT,lA,lP,c0,t0,a0⟩:=h
 dsimp only at k1 k2 hs hd hT hA hP lT lA lP c0 t0 a0 ⊢
 unfold ed at e
 dsimp only at e
 have hk:k=1∨k=2∨k=3∨k=4:=by omega
 unfold cx
 rcases hk with rfl | rfl | rfl | rfl
 . simp only [if_true,List.cons.injEq] at e
   obtain ⟨rfl,rfl⟩:=e
   obtain ⟨rfl,rfl,rfl⟩:=c0 (by omega)
   obtain rfl:=a0 (by omega)
   simp only [ca,decide_true,cond_true,fM (w:=liW T) (ws:=[]) (gG hT lT) (by simp),gx hT,Option.bind_some]
 . simp (decide:=true) only [if_true,if_false,List.cons.injEq] at e
   obtain ⟨rfl,rfl⟩:=e
   obtain ⟨rfl,rfl,rfl⟩:=c0 (by omega)
   simp (decide:=true) only [kSw,decide_true,decide_false,cond_true,cond_false,fM (w:=liW T) (ws:=[liW A]) (gG hT lT) (by simp),gx hT,fM (w:=liW A) (ws:=[]) (gG hA lA) (by simp),gx hA,Option.bind_some]
 . simp (decide:=true) only [if_true,if_false,List.cons.injEq] at e
   obtain ⟨rfl,rfl⟩:=e
   obtain ⟨rfl,rfl,rfl⟩:=c0 (by omega)
   obtain rfl:=a0 (by omega)
   obtain rfl:=t0 rfl
   simp (decide:=true) only [bZ,decide_true,decide_false,cond_true,cond_false]
 . simp (decide:=true) only [if_true,if_false,List.cons.injEq] at e
   obtain ⟨rfl,rfl⟩:=e
   simp (decide:=true) only [bn,decide_true,decide_false,cond_true,cond_false,bp (w:=text s) (ws:=[text d,liW T,liW P,liW A]) hs.len (by simp),pa hs,bp (w:=text d) (ws:=[liW T,liW P,liW A]) hd.len (by simp),pa hd,
     fM (w:=liW T) (ws:=[liW P,liW A]) (gG hT lT) (by simp),gx hT,fM (w:=liW P) (ws:=[liW A]) (gG hP lP) (by simp),gx hP,fM (w:=liW A) (ws:=[]) (gG hA lA) (by simp),gx hA,Option.bind_some]
theorem xG {x:bJ} (h:StOk x) {w:Wd} {ws:List Wd} (e:bR x=w :: ws):cx w ws 0=some (0,0,0,[],[],[],false,ws,0):=by
 obtain ⟨k,d,s,r,m⟩:=x
 obtain ⟨⟨k1,k2⟩,_⟩:=h
 dsimp only at k1 k2
 unfold bR at e
 dsimp only at e
 have hk:k=0∨k=1∨k=2∨k=3∨k=4∨k=5:=by omega
 unfold cx
 rcases hk with rfl | rfl | rfl | rfl | rfl | rfl <;> (simp (decide:=true) only [if_true,if_false,List.cons.injEq,List.cons_append] at e; obtain ⟨rfl,rfl⟩:=e; simp (decide:=true) only [bx,ba,aP,aU,bz,bv,decide_false,cond_false])
theorem wM {x:bJ} (h:StOk x) {w:Wd} {ws:List Wd} (e:bR x=w :: ws):∃ q,b6 (w :: ws) ws 0=some (x.1,x.2.1,x.2.2.1,x.2.2.2.1,x.2.2.2.2,q,0):=by
 obtain ⟨k,d,s,r,m⟩:=x
 obtain ⟨⟨k1,k2⟩,hd,hs,hr,d0,s0,r0⟩:=h
 dsimp only at k1 k2 hd hs hr d0 s0 r0 ⊢
 unfold bR at e
 dsimp only at e
 have hk:k=0∨k=1∨k=2∨k=3∨k=4∨k=5:=by omega
 have g4:∀ c:Wd,aa [c,text d,text s,text r,[109,117,116]] 4=some [109,117,116]:=fun _=>rfl
 unfold b6
 rcases hk with rfl | rfl | rfl | rfl | rfl | rfl
 . simp (decide:=true) only [if_true,if_false,List.cons.injEq] at e
   obtain ⟨rfl,rfl⟩:=e
   obtain rfl:=d0 (by omega)
   obtain rfl:=s0 (by omega)
   obtain ⟨rfl,rfl⟩:=r0 (by omega) (by omega)
   exact ⟨[],by simp (decide:=true) only [az,Option.bind_some,bx,decide_true,decide_false,cond_true,cond_false]⟩
 . simp (decide:=true) only [if_true,if_false,List.cons.injEq] at e
   obtain ⟨rfl,rfl⟩:=e
   obtain ⟨rfl,rfl⟩:=r0 (by omega) (by omega)
   exact ⟨[],by simp (decide:=true) only [az,Option.bind_some,ba,decide_true,decide_false,cond_true,cond_false,bp (w:=text d) (ws:=[text s]) hd.len (by simp),pa hd,bp (w:=text s) (ws:=[]) hs.len (by simp),pa hs]⟩
 . cases m with
   | true =>
     simp (decide:=true) only [if_true,if_false,List.cons.injEq,List.cons_append,List.nil_append] at e
     obtain ⟨rfl,rfl⟩:=e
     exact ⟨[be],by simp (decide:=true) only [az,g4,Option.bind_some,aP,be,decide_true,decide_false,cond_true,cond_false,Bool.not_true,List.length_cons,List.length_nil,bp (w:=text d) (ws:=[text s,text r,[109,117,116]]) hd.len (by simp),pa hd,bp (w:=text s) (ws:=[text r,[109,117,116]]) hs.len (by simp),pa hs,bp (w:=text r) (ws:=[[109,117,116]]) hr.len (by simp),pa hr]⟩
   | false =>
     simp (decide:=true) only [if_true,if_false,List.cons.injEq,List.cons_append,List.append_nil] at e
     obtain ⟨rfl,rfl⟩:=e
     exact ⟨[],by simp (decide:=true) only [az,Option.bind_some,aP,decide_true,decide_false,cond_true,cond_false,Bool.not_true,List.length_cons,List.length_nil,bp (w:=text d) (ws:=[text s,text r]) hd.len (by simp),pa hd,bp (w:=text s) (ws:=[text r]) hs.len (by simp),pa hs,bp (w:=text r) (ws:=[]) hr.len (by simp),pa hr]⟩
 . cases m with
   | true =>
     simp (decide:=true) only [if_true,if_false,List.cons.injEq,List.cons_append,List.nil_append] at e
     obtain ⟨rfl,rfl⟩:=e
     exact ⟨[be],by simp (decide:=true) only [az,g4,Option.bind_some,aU,be,decide_true,decide_false,cond_true,cond_false,Bool.not_true,List.length_cons,List.length_nil,bp (w:=text d) (ws:=[text s,text r,[109,117,116]]) hd.len (by simp),pa hd,bp (w:=text s) (ws:=[text r,[109,117,116]]) hs.len (by simp),pa hs,bp (w:=text r) (ws:=[[109,117,116]]) hr.len (by simp),pa hr]⟩
   | false =>
     simp (decide:=true) only [if_true,if_false,List.cons.injEq,List.cons_append,List.append_nil] at e
     obtain ⟨rfl,rfl⟩:=e
     exact ⟨[],by simp (decide:=true) only [az,Option.bind_some,aU,decide_true,decide_false,cond_true,cond_false,Bool.not_true,List.length_cons,List.length_nil,bp (w:=text d) (ws:=[text s,text r]) hd.len (by simp),pa hd,bp (w:=text s) (ws:=[text r]) hs.len (by simp),pa hs,bp (w:=text r) (ws:=[]) hr.len (by simp),pa hr]⟩
 . simp (decide:=true) only [if_true,if_false,List.cons.injEq] at e
   obtain ⟨rfl,rfl⟩:=e
   obtain rfl:=d0 (by omega)
   obtain ⟨rfl,rfl⟩:=r0 (by omega) (by omega)
   exact ⟨[],by simp (decide:=true) only [az,Option.bind_some,bz,decide_true,decide_false,cond_true,cond_false,bp (w:=text s) (ws:=[]) hs.len (by simp),pa hs]⟩
 . simp (decide:=true) only [if_true,if_false,List.cons.injEq] at e
   obtain ⟨rfl,rfl⟩:=e
   obtain rfl:=s0 (by omega)
   obtain ⟨rfl,rfl⟩:=r0 (by omega) (by omega)
   exact ⟨[],by simp (decide:=true) only [az,Option.bind_some,bv,decide_true,decide_false,cond_true,cond_false,bp (w:=text d) (ws:=[]) hd.len (by simp),pa hd]⟩
theorem wL {x:cg} {b:aC} (h:TmOk x) (hX:X.length≤1000) {w:Wd} {ws:List Wd} (e:ed x=w :: ws):c7 (w :: ws) u n B L R S (X++[b]) a ws 0=some (B,L,R,S,X++[(b.1,x)],7,[],0):=by
 unfold c7
 simp only [cL X b (by omega),cM,cH,Option.bind_some,az,wS h e,cond_true,Int.toNat_natCast,cK]
theorem wP {x:bJ} {b:aC} (h:StOk x) (hX:X.length≤1000) (hb:b.1.length≤1000) {w:Wd} {ws:List Wd} (e:bR x=w :: ws):∃ q,c7 (w :: ws) u n B L R S (X++[b]) a ws 0=some (B,L,R,S,X++[(b.1++[x],b.2)],a,q,0):=by
 obtain ⟨q,hq⟩:=wM h e
 refine ⟨q,?_⟩
 unfold c7
 have ha:app b.1 [(x.1,x.2.1,x.2.2.1,x.2.2.2.1,x.2.2.2.2)]=some (b.1++[x]):=aI (by simp; omega)
 simp only [cL X b (by omega),cM,cH,Option.bind_some,az,xG h e,hq,cond_false,ha,Int.toNat_natCast,cK,fp]
end
end
section
open Go.RowKit Nu
abbrev dm:=Int×Int×List (Int×Int)×List (List St)×List St×List aA×List aC
def gI (s:aA):List Wd:=ak 32 [aK,text s.1,tyW s.2.2.2] :: ak 32 (cE :: s.2.1.map pair) :: s.2.2.1.map (fun t=>ak 32 [bY,tyW t])
def gK (x:aC):List Wd:=aB :: (x.1.map (fun s=>ak 32 (bR s))++[ak 32 (ed x.2)])
def eE (b:dm):List Wd:=ak 32 [bX,text b.1,text b.2.1] :: ak 32 (cN :: b.2.2.1.map pair) :: (b.2.2.2.1.map (fun t=>ak 32 [ce,tyW t])++(ak 32 [cv,tyW b.2.2.2.2.1] :: (b.2.2.2.2.2.1.flatMap gI++b.2.2.2.2.2.2.flatMap gK)))
structure SgOk (s:aA):Prop where
 par:In s.1
 bnd:∀ b∈s.2.1,In b.1∧In b.2
 nb:s.2.1.length≤1000
 args:∀ t∈s.2.2.1,(∀ x∈t,In x.1)∧t.length≤1000
 na:s.2.2.1.length≤900
 ret:(∀ x∈s.2.2.2,In x.1)∧s.2.2.2.length≤1000
structure BkOk (x:aC):Prop where
 st:∀ s∈x.1,StOk s
 ns:x.1.length≤900
 tm:TmOk x.2
structure BoOk (b:dm):Prop where
 uni:In b.1
 reg:In b.2.1
 bnd:∀ c∈b.2.2.1,In c.1∧In c.2
 nb:b.2.2.1.length≤1000
 loc:∀ t∈b.2.2.2.1,(∀ x∈t,In x.1)∧t.length≤1000
 nl:b.2.2.2.1.length≤900
 ret:(∀ x∈b.2.2.2.2.1,In x.1)∧b.2.2.2.2.1.length≤1000
 sig:∀ s∈b.2.2.2.2.2.1,SgOk s
 nsg:b.2.2.2.2.2.1.length≤900
 blk:∀ x∈b.2.2.2.2.2.2,BkOk x
 nx:b.2.2.2.2.2.2.length≤900
def adv:List Wd→PS→Option PS
 | [],p=>some p
 | l :: ls,p=>(cV l p).bind fun r=>if r.1=0 then adv ls r.2 else none
theorem fy:∀ (a b:List Wd) (p:PS),adv (a++b) p=(adv a p).bind (adv b)
 | [],b,p=>rfl
 | l :: a,b,p=>by
   show (cV l p).bind _=((cV l p).bind _).bind _
   cases cV l p with
   | none=>rfl
   | some r =>
     simp only [Option.bind_some]
     by_cases h:r.1=0
     . simp only [h,if_true]; exact fy a b r.2
     . simp only [h,if_false]; rfl
theorem qJ:∀ (ls:List Wd) (p p':PS) (n:Int),adv ls p=some p'→eK ls p n=some (di p')
 | [],p,p',n,h=>by cases h; rfl
 | l :: ls,p,p',n,h=>by
   obtain ⟨r,h1,h2⟩:=ob h
   unfold eK
   rw [h1,Option.bind_some]
   by_cases h0:r.1=0
   . rw [if_pos h0] at h2 ⊢; exact qJ ls _ _ _ h2
   . rw [if_neg h0] at h2; cases h2
theorem dz {l:Wd} {ls:List Wd} {p p':PS} (h:cV l p=some (0,p')):adv (l :: ls) p=adv ls p':=by
 show (cV l p).bind _=_
 rw [h]; rfl
theorem dv {w:Wd} {ws:List Wd} {p p':PS} (hw:∀ q∈w :: ws,WdOk q) (h35:w.head?≠some 35) (h:cX (w :: ws) p=some (0,p')):cV (ak 32 (w :: ws)) p=some (0,p'):=by
 unfold cV
 rw [vp hw,if_neg (by unfold bP; simpa using h35)]; exact h
theorem wk {w:Wd} (h:decide (w≠[]∧(32:UInt8)∉w∧(10:UInt8)∉w)=true):WdOk w:=by
 obtain ⟨h1,h2,h3⟩:=of_decide_eq_true h; exact ⟨h1,h2,h3⟩
theorem rY:WdOk bX:=wk (by decide)
theorem r4:WdOk cN:=wk (by decide)
theorem rT:WdOk ce:=wk (by decide)
theorem sd:WdOk cv:=wk (by decide)
theorem sa:WdOk aK:=wk (by decide)
theorem rQ:WdOk cE:=wk (by decide)
theorem se:WdOk bY:=wk (by decide)
theorem xA:WdOk aB:=wk (by decide)
theorem wTy {t:List St} (h:∀ x∈t,In x.1):WdOk (tyW t):=WdOk.tyW (fun x hx=>(h x hx).1)
theorem wLi {l:List Int} (h:∀ x∈l,In x):WdOk (liW l):=WdOk.liW (fun x hx=>(h x hx).1)
theorem kx {w:Wd} (hw:WdOk w) {l:List (Int×Int)} (h:∀ b∈l,In b.1∧In b.2):∀ q∈w :: l.map pair,WdOk q:=fun q hq=>by
 rcases List.mem_cons.1 hq with rfl | hq
 . exact hw
 . obtain ⟨b,hb,rfl⟩:=List.mem_map.1 hq; exact WdOk.pair (h b hb).1.1 (h b hb).2.1
theorem w2 {a b:Wd} (ha:WdOk a) (hb:WdOk b):∀ q∈[a,b],WdOk q:=fun q hq=>by
 simp only [List.mem_cons,List.mem_nil_iff,or_false] at hq
 rcases hq with rfl | rfl
 . exact ha
 . exact hb
theorem w3 {a b c:Wd} (ha:WdOk a) (hb:WdOk b) (hc:WdOk c):∀ q∈[a,b,c],WdOk q:=fun q hq=>by
 simp only [List.mem_cons,List.mem_nil_iff,or_false] at hq
 rcases hq with rfl | rfl | rfl
 . exact ha
 . exact hb
 . exact hc
theorem qC {x:bJ} (h:StOk x):(∀ q∈bR x,WdOk q)∧∃ w ws,bR x=w :: ws∧decide (w∈b8 6)=true∧w.head?≠some 35∧∃ aG most,aN w=some (aG,most)∧aG≤((w :: ws).length:Nat)∧(((w :: ws).length:Nat):Int)≤most:=by
 obtain ⟨k,d,s,r,m⟩:=x
 obtain ⟨⟨k1,k2⟩,hd,hs,hr,_⟩:=h
 dsimp only at k1 k2 hd hs hr
 have h1:=WdOk.text hd.1; have h2:=WdOk.text hs.1; have h3:=WdOk.text hr.1
 have hk:k=0∨k=1∨k=2∨k=3∨k=4∨k=5:=by omega
 rcases hk with rfl | rfl | rfl | rfl | rfl | rfl
 . refine ⟨fun q hq=>?_,_,_,rfl,by decide,by decide,1,1,rfl,by simp,by simp⟩
   rw [show bR (0,d,s,r,m)=[bx] from rfl,List.mem_singleton] at hq
   subst hq; exact wk (by decide)
 . exact ⟨w3 (wk (by decide)) h1 h2,_,_,rfl,by decide,by decide,3,3,rfl,by simp,by simp⟩
 . cases m with
   | true =>
     refine ⟨fun q hq=>?_,aP,[text d,text s,text r,be],rfl,by decide,by decide,4,5,rfl,by simp,by simp⟩
     rw [show bR (2,d,s,r,true)=[aP,text d,text s,text r,be] from rfl] at hq
     simp only [List.mem_cons,List.mem_nil_iff,or_false] at hq
     rcases hq with rfl | rfl | rfl | rfl | rfl
     . exact wk (by decide)
     . exact h1
     . exact h2
     . exact h3
     . exact wk (by decide)
   | false =>
     refine ⟨fun q hq=>?_,aP,[text d,text s,text r],rfl,by decide,by decide,4,5,rfl,by simp,by simp⟩
     rw [show bR (2,d,s,r,false)=[aP,text d,text s,text r] from rfl] at hq
     simp only [List.mem_cons,List.mem_nil_iff,or_false] at hq
     rcases hq with rfl | rfl | rfl | rfl
     . exact wk (by decide)
     . exact h1
     . exact h2
     . exact h3
 . cases m with
   | true =>
     refine ⟨fun q hq=>?_,aU,[text d,text s,text r,be],rfl,by decide,by decide,4,5,rfl,by simp,by simp⟩
     rw [show bR (3,d,s,r,true)=[aU,text d,text s,text r,be] from rfl] at hq
     simp only [List.mem_cons,List.mem_nil_iff,or_false] at hq
     rcases hq with rfl | rfl | rfl | rfl | rfl
     . exact wk (by decide)
     . exact h1
     . exact h2
     . exact h3
     . exact wk (by decide)
   | false =>
     refine ⟨fun q hq=>?_,aU,[text d,text s,text r],rfl,by decide,by decide,4,5,rfl,by simp,by simp⟩
     rw [show bR (3,d,s,r,false)=[aU,text d,text s,text r] from rfl] at hq
     simp only [List.mem_cons,List.mem_nil_iff,or_false] at hq
     rcases hq with rfl | rfl | rfl | rfl
     . exact wk (by decide)
     . exact h1
     . exact h2
     . exact h3
 . exact ⟨w2 (wk (by decide)) h2,_,_,rfl,by decide,by decide,2,2,rfl,by simp,by simp⟩
 . exact ⟨w2 (wk (by decide)) h1,_,_,rfl,by decide,by decide,2,2,rfl,by simp,by simp⟩
theorem rf {x:cg} (h:TmOk x):(∀ q∈ed x,WdOk q)∧∃ w ws,ed x=w :: ws∧decide (w∈b8 6)=true∧w.head?≠some 35∧∃ aG most,aN w=some (aG,most)∧aG≤((w :: ws).length:Nat)∧(((w :: ws).length:Nat):Int)≤most:=by
 obtain ⟨k,s,d,T,A,P⟩:=x
 obtain ⟨⟨k1,k2⟩,hs,hd,hT,hA,hP,_⟩:=h
 dsimp only at k1 k2 hs hd hT hA hP
 have h1:=WdOk.text hs.1; have h2:=WdOk.text hd.1; have h3:=wLi hT; have h4:=wLi hA; have h5:=wLi hP
 have hk:k=1∨k=2∨k=3∨k=4:=by omega
 rcases hk with rfl | rfl | rfl | rfl
 . exact ⟨w2 (wk (by decide)) h3,_,_,rfl,by decide,by decide,2,2,rfl,by simp,by simp⟩
 . exact ⟨w3 (wk (by decide)) h3 h4,_,_,rfl,by decide,by decide,3,3,rfl,by simp,by simp⟩
 . refine ⟨fun q hq=>?_,_,_,rfl,by decide,by decide,1,1,rfl,by simp,by simp⟩
   rw [show ed (3,s,d,T,A,P)=[bZ] from rfl,List.mem_singleton] at hq
   subst hq; exact wk (by decide)
 . refine ⟨fun q hq=>?_,bn,[text s,text d,liW T,liW P,liW A],rfl,by decide,by decide,6,6,rfl,by simp,by simp⟩
   rw [show ed (4,s,d,T,A,P)=[bn,text s,text d,liW T,liW P,liW A] from rfl] at hq
   simp only [List.mem_cons,List.mem_nil_iff,or_false] at hq
   rcases hq with rfl | rfl | rfl | rfl | rfl | rfl
   . exact wk (by decide)
   . exact h1
   . exact h2
   . exact h3
   . exact h5
   . exact h4
section
variable {u n:Int} {B:List (Int×Int)} {L:List (List St)} {R:List St} {S:List aA} {X:List aC} {a:Int}
theorem pO:∀ (l:List bJ) (ss:List bJ) (t:cg),(∀ s∈l,StOk s)→X.length≤1000→ss.length + l.length≤1000→adv (l.map (fun s=>ak 32 (bR s))) (u,n,B,L,R,S,X++[(ss,t)],6)=some (u,n,B,L,R,S,X++[(ss++l,t)],6)
 | [],ss,t,_,_,_=>by simp [adv]
 | x :: l,ss,t,h,hX,hl=>by
   have hx:=h x (by simp)
   obtain ⟨hw,w,ws,e,ha,h35,aG,most,hm,b1,b2⟩:=qC hx
   obtain ⟨q,hq⟩:=wP (u:=u) (n:=n) (B:=B) (L:=L) (R:=R) (S:=S) (X:=X) (a:=6) (b:=(ss,t)) hx hX (by dsimp only; omega) e
   rw [List.length_cons] at hl
   rw [List.map_cons,e,dz (dv (by rw [← e]; exact hw) h35 (iV hm ha b1 b2 rfl hq)),pO l _ t (fun s hs=>h s (by simp [hs])) hX (by dsimp only; rw [List.length_append,List.length_singleton]; omega)]
   simp
theorem xj {x:aC} (h:BkOk x) (hX:X.length≤900) (ha:decide (aB∈b8 a)=true) (h6:a≠6):adv (gK x) (u,n,B,L,R,S,X,a)=some (u,n,B,L,R,S,X++[x],7):=by
 unfold gK
 have e0:aB=ak 32 [aB]:=by simp [ak]
 have s1:=dv (p:=(u,n,B,L,R,S,X,a)) (w:=aB) (ws:=[]) (fun q hq=>by rw [List.mem_singleton.1 hq]; exact xA) (by decide) (cb (aG:=1) (most:=1) rfl ha (by simp) (by simp) h6 (xU (show X.length≤1000 by omega)))
 rw [← e0] at s1
 rw [dz s1,fy,pO x.1 [] _ h.st (by omega) (by have:=h.ns; simp; omega),Option.bind_some]
 obtain ⟨hw,w,ws,e,ha,h35,aG,most,hm,b1,b2⟩:=rf h.tm
 have hq:=wL (u:=u) (n:=n) (B:=B) (L:=L) (R:=R) (S:=S) (X:=X) (a:=6) (b:=(([]:List bJ)++x.1,((0,0,0,[],[],[]):cg))) h.tm (by omega) e
 rw [e,dz (dv (by rw [← e]; exact hw) h35 (iV hm ha b1 b2 rfl hq))]
 rfl
theorem qv:∀ (l:List aC),(∀ x∈l,BkOk x)→∀ (X:List aC) (a:Int),X.length + l.length≤900→(a=3∨a=5∨a=7)→∃ a',(a'=3∨a'=5∨a'=7)∧adv (l.flatMap gK) (u,n,B,L,R,S,X,a)=some (u,n,B,L,R,S,X++l,a')
 | [],_,X,a,_,ha=>⟨a,ha,by simp [adv]⟩
 | x :: l,h,X,a,hl,ha=>by
   rw [List.length_cons] at hl
   obtain ⟨a',h1,h2⟩:=qv l (fun y hy=>h y (by simp [hy])) (X++[x]) 7 (by rw [List.length_append,List.length_singleton]; omega) (by omega)
   refine ⟨a',h1,?_⟩
   rw [List.flatMap_cons,fy,xj (h x (by simp)) (by omega) (by rcases ha with rfl | rfl | rfl <;> decide) (by omega),Option.bind_some,h2]
   simp
theorem q9:∀ (l:List (List St)) (s:aA),(∀ t∈l,(∀ x∈t,In x.1)∧t.length≤1000)→S.length≤1000→s.2.2.1.length + l.length≤1000→adv (l.map (fun t=>ak 32 [bY,tyW t])) (u,n,B,L,R,S++[s],X,5)=some (u,n,B,L,R,S++[(s.1,s.2.1,s.2.2.1++l,s.2.2.2)],X,5)
 | [],s,_,_,_=>by simp [adv]
 | t :: l,s,h,hS,hl=>by
   obtain ⟨t1,t2⟩:=h t (by simp)
   rw [List.length_cons] at hl
   rw [List.map_cons,dz (dv (w2 se (wTy t1)) (by decide) (cb (aG:=2) (most:=2) rfl (by decide) (by simp) (by simp) (by decide) (x8 t1 t2 hS (by omega)))),q9 l _ (fun y hy=>h y (by simp [hy])) hS (by dsimp only; rw [List.length_append,List.length_singleton]; omega)]
   simp
theorem jV (k:Nat) (h:k≤1000):(1:Int)≤((k + 1:Nat):Int)∧((k + 1:Nat):Int)≤9223372036854775807:=by omega
theorem xf {s:aA} (h:SgOk s) (hS:S.length≤900) (ha:decide (aK∈b8 a)=true) (h6:a≠6):adv (gI s) (u,n,B,L,R,S,X,a)=some (u,n,B,L,R,S++[s],X,5):=by
 unfold gI
 have hl:=jV (s.2.1.map pair).length (by rw [List.length_map]; exact h.nb)
 rw [dz (dv (w3 sa (WdOk.text h.par.1) (wTy h.ret.1)) (by decide) (cb (aG:=3) (most:=3) rfl ha (by simp) (by simp) h6 (xX h.par h.ret.1 h.ret.2 (by omega)))),
   dz (dv (kx rQ h.bnd) (by decide) (cb (aG:=1) (most:=9223372036854775807) rfl (by decide) hl.1 hl.2 (by decide) (wR h.bnd h.nb (by omega))))]
 rw [q9 s.2.2.1 _ h.args (by omega) (by have:=h.na; simp; omega)]
 rfl
theorem qz:∀ (l:List aA),(∀ x∈l,SgOk x)→∀ (S:List aA) (a:Int),S.length + l.length≤900→(a=3∨a=5)→∃ a',(a'=3∨a'=5)∧adv (l.flatMap gI) (u,n,B,L,R,S,X,a)=some (u,n,B,L,R,S++l,X,a')
 | [],_,S,a,_,ha=>⟨a,ha,by simp [adv]⟩
 | x :: l,h,S,a,hl,ha=>by
   rw [List.length_cons] at hl
   obtain ⟨a',h1,h2⟩:=qz l (fun y hy=>h y (by simp [hy])) (S++[x]) 5 (by rw [List.length_append,List.length_singleton]; omega) (by omega)
   refine ⟨a',h1,?_⟩
   rw [List.flatMap_cons,fy,xf (h x (by simp)) (by omega) (by rcases ha with rfl | rfl <;> decide) (by omega),Option.bind_some,h2]
   simp
theorem qY:∀ (l L:List (List St)),(∀ t∈l,(∀ x∈t,In x.1)∧t.length≤1000)→L.length + l.length≤1000→adv (l.map (fun t=>ak 32 [ce,tyW t])) (u,n,B,L,R,S,X,2)=some (u,n,B,L++l,R,S,X,2)
 | [],L,_,_=>by simp [adv]
 | t :: l,L,h,hl=>by
   obtain ⟨t1,t2⟩:=h t (by simp)
   rw [List.length_cons] at hl
   rw [List.map_cons,dz (dv (w2 rT (wTy t1)) (by decide) (cb (aG:=2) (most:=2) rfl (by decide) (by simp) (by simp) (by decide) (ya t1 t2 (by omega)))),qY l _ (fun y hy=>h y (by simp [hy])) (by rw [List.length_append,List.length_singleton]; omega)]
   simp
end
theorem um {b:dm} (h:BoOk b):∃ a,(a=3∨a=5∨a=7)∧adv (eE b) (0,0,[],[],[],[],[],0)=some (b.1,b.2.1,b.2.2.1,b.2.2.2.1,b.2.2.2.2.1,b.2.2.2.2.2.1,b.2.2.2.2.2.2,a):=by
 unfold eE
 have hl:=jV (b.2.2.1.map pair).length (by rw [List.length_map]; exact h.nb)
 rw [dz (dv (w3 rY (WdOk.text h.uni.1) (WdOk.text h.reg.1)) (by decide) (cb (aG:=3) (most:=3) rfl (by decide) (by simp) (by simp) (by decide) (xN h.uni h.reg))),
   dz (dv (kx r4 h.bnd) (by decide) (cb (aG:=1) (most:=9223372036854775807) rfl (by decide) hl.1 hl.2 (by decide) (xW h.bnd h.nb))),
   fy,qY b.2.2.2.1 [] h.loc (by have:=h.nl; simp; omega),Option.bind_some,
   dz (dv (w2 sd (wTy h.ret.1)) (by decide) (cb (aG:=2) (most:=2) rfl (by decide) (by simp) (by simp) (by decide) (xT h.ret.1 h.ret.2))),fy]
 obtain ⟨a1,h1,e1⟩:=qz (u:=b.1) (n:=b.2.1) (B:=b.2.2.1) (L:=[]++b.2.2.2.1) (R:=b.2.2.2.2.1) (X:=[]) b.2.2.2.2.2.1 h.sig [] 3 (by have:=h.nsg; simp; omega) (by omega)
 rw [e1,Option.bind_some]
 obtain ⟨a2,h2,e2⟩:=qv (u:=b.1) (n:=b.2.1) (B:=b.2.2.1) (L:=[]++b.2.2.2.1) (R:=b.2.2.2.2.1) (S:=[]++b.2.2.2.2.2.1) b.2.2.2.2.2.2 h.blk [] a1 (by have:=h.nx; simp; omega) (by omega)
 exact ⟨a2,h2,e2⟩
theorem wN {b:dm} {a:Int} (h:a=3∨a=5∨a=7):di (b.1,b.2.1,b.2.2.1,b.2.2.2.1,b.2.2.2.2.1,b.2.2.2.2.2.1,b.2.2.2.2.2.2,a)=(b.1,b.2.1,b.2.2.1,b.2.2.2.1,b.2.2.2.2.1,b.2.2.2.2.2.1,b.2.2.2.2.2.2,0,0):=by
 unfold di; rw [if_pos h]
theorem oH (t:Wd):∀ (ls:List Wd),(∀ l∈ls,(10:UInt8)∉l)→ae 10 (ls.flatMap (·++[10])++t)=ls++ae 10 t
 | [],_=>rfl
 | l :: ls,h=>by
   rw [List.flatMap_cons,List.append_assoc,List.append_assoc,List.singleton_append,jR 10 l _ (h l (by simp)),oH t ls (fun x hx=>h x (by simp [hx]))]; rfl
theorem vj {b:dm} (h:BoOk b):∀ l∈eE b,(10:UInt8)∉l:=by
 intro l hl
 unfold eE at hl
 simp only [List.mem_cons,List.mem_append,List.mem_map,List.mem_flatMap] at hl
 rcases hl with rfl | rfl | ⟨t,ht,rfl⟩ | rfl | ⟨s,hs,hl⟩ | ⟨x,hx,hl⟩
 . exact dW (w3 rY (WdOk.text h.uni.1) (WdOk.text h.reg.1))
 . exact dW (kx r4 h.bnd)
 . exact dW (w2 rT (wTy (h.loc t ht).1))
 . exact dW (w2 sd (wTy h.ret.1))
 . have q:=h.sig s hs
   unfold gI at hl
   simp only [List.mem_cons,List.mem_map] at hl
   rcases hl with rfl | rfl | ⟨t,ht,rfl⟩
   . exact dW (w3 sa (WdOk.text q.par.1) (wTy q.ret.1))
   . exact dW (kx rQ q.bnd)
   . exact dW (w2 se (wTy (q.args t ht).1))
 . have q:=h.blk x hx
   unfold gK at hl
   simp only [List.mem_cons,List.mem_append,List.mem_map,List.mem_nil_iff,or_false] at hl
   rcases hl with rfl | ⟨s,hs,rfl⟩ | rfl
   . decide
   . exact dW (qC (q.st s hs)).1
   . exact dW (rf q.tm).1
def prW (b:dm):Wd:=(eE b).flatMap (·++[10])
theorem tQ {b:dm} (h:BoOk b) (hn:(prW b).length≤1048576):fU (prW b)=some (b.1,b.2.1,b.2.2.1,b.2.2.2.1,b.2.2.2.2.1,b.2.2.2.2.2.1,b.2.2.2.2.2.2,0,0):=by
 refine qD _ _ hn ?_
 obtain ⟨a,ha,e⟩:=um h
 have hp:ae 10 (prW b)=eE b++[[]]:=by
   have:=oH [] (eE b) (vj h)
   rw [List.append_nil] at this; exact this
 rw [hp,qJ (p':=(b.1,b.2.1,b.2.2.1,b.2.2.2.1,b.2.2.2.2.1,b.2.2.2.2.2.1,b.2.2.2.2.2.2,a)) _ _ _ (by rw [fy,e]; rfl),wN ha]
def b38:dm:=(1,1,[],[[]],[],[],[([],(3,0,0,[],[],[]))])
theorem wr (hT:io [(1,false),(2,true)]=some [49,47,50,33]) (hS:im (2,0,1,3,true)=some [98,111,114,114,111,119,32,48,32,49,32,51,32,109,117,116]):fT=some true:=by
 have hb:BoOk b38:=by
   have i0:In 0:=by constructor <;> decide
   have i1:In 1:=by constructor <;> decide
   refine ⟨i1,i1,by simp [b38],by simp [b38],by simp [b38],by simp [b38],⟨by simp [b38],by simp [b38]⟩,by simp [b38],by simp [b38],?_,by simp [b38]⟩
   intro x hx
   obtain rfl:x=([],(3,0,0,[],[],[])):=by simpa [b38] using hx
   exact ⟨by simp,by simp,⟨by simp,i0,i0,by simp,by simp,by simp,by simp,by simp,by simp,by simp,by simp,by simp⟩⟩
 have hw:prW b38=[114,101,103,105,111,110,115,32,49,32,49,10,98,111,117,110,100,115,10,108,111,99,97,108,32,45,10,103,105,118,101,115,32,45,10,98,108,111,99,107,10,114,101,116,117,114,110,10]:=by
   have t1:text 1=[49]:=by unfold text; rw [if_neg (by decide),show ((1:Int).toNat)=1 from rfl,b9 (by decide)]; rfl
   simp [prW,eE,b38,gI,gK,tyW,ed,ak,t1,bZ]
 have hp:=tQ hb (by rw [hw]; simp)
 rw [hw] at hp
 unfold fT
 rw [hp,hT,hS]
 rfl
end
section
open Go.RowKit Nu
theorem qE:∀ (l:List Wd) (acc:List St),(pgo l acc).1.length≤acc.length + l.length
 | [],acc=>by simp [pgo]
 | p :: l,acc=>by
   unfold pgo
   split
   . simp
   . have:=qE l (acc++[(pSl p).1])
     rw [List.length_append,List.length_singleton] at this
     rw [List.length_cons]; omega
theorem qI (s:Wd):(pTy s).1.length≤s.length + 1:=by
 unfold pTy; split
 . simp
 . have:=qE (ae 47 s) []; have:=cP 47 s
   simp only [List.length_nil] at *; omega
theorem AM:tyW [(1,false),(2,true)]=[49,47,50,33]:=by
 have t1:text 1=[49]:=by unfold text; rw [if_neg (by decide),show ((1:Int).toNat)=1 from rfl,b9 (by decide)]; rfl
 have t2:text 2=[50]:=by unfold text; rw [if_neg (by decide),show ((2:Int).toNat)=2 from rfl,b9 (by decide)]; rfl
 simp [tyW,ak,bB,t1,t2]
theorem AQ:ak 32 (bR (2,0,1,3,true))=[98,111,114,114,111,119,32,48,32,49,32,51,32,109,117,116]:=by
 have t0:text 0=[48]:=by unfold text; rw [if_neg (by decide),show ((0:Int).toNat)=0 from rfl,b9 (by decide)]; rfl
 have t1:text 1=[49]:=by unfold text; rw [if_neg (by decide),show ((1:Int).toNat)=1 from rfl,b9 (by decide)]; rfl
 have t3:text 3=[51]:=by unfold text; rw [if_neg (by decide),show ((3:Int).toNat)=3 from rfl,b9 (by decide)]; rfl
 simp [bR,ak,aP,be,t0,t1,t3]
theorem vu:fT=some true:=by
 refine wr ?_ ?_
 . rw [xi _ (by simp) (fun x hx=>by simp at hx; rcases hx with rfl | rfl <;> decide),AM]
 . rw [xy _ (by decide) (by decide) (by decide),AQ]
theorem m8 (xa:List St) (hn:xa.length≤1073741824):fV xa xa=some true:=by
 unfold fV
 have hs:shp xa xa=true:=by unfold shp; simp
 rw [tN xa xa hn,hs]
 have:=lQ (body:=jE xa xa) xa xa (.inr false) (.inl ()) rfl (fun k h=>by
   unfold jE
   simp [aw h,h,aH h (by omega)]) (by unfold jE; simp)
 simp only [Option.bind_some,Bool.not_true,cond_false,this,if_true]
end
section
open Go.RowKit Nu
def rn (w:Wd) (e:Int):Int×Int:=if e=0 then au w 1048576 else (0,e)
def rt (w:Wd) (e:Int):List St×Int:=if e=0 then pTy w else ([],e)
def rl (w:Wd) (e:Int):List Int×Int:=if e=0 then rdL w else ([],e)
def rps:List Wd→List (Int×Int)→List (Int×Int)×Int
 | [],acc=>(acc,0)
 | w :: ws,acc=>if (aW w 1048576).2.2=0 then rps ws (acc++[((aW w 1048576).1,(aW w 1048576).2.1)]) else ([],(aW w 1048576).2.2)
def zS:bJ:=(0,0,0,0,false)
def zT:cg:=(0,0,0,[],[],[])
def bD (k:Int) (m:Bool) (a b c:Wd):bJ×Int:=((k,(rn a 0).1,(rn b (rn a 0).2).1,(rn c (rn b (rn a 0).2).2).1,m),(rn c (rn b (rn a 0).2).2).2)
def bC (w:Wd) (r:List Wd):Option (bJ×Int) :=
 if w=bx then some (match r with | []=>(zS,0) | _=>(zS,3))
 else if w=ba then some (match r with | [a,b]=>((1,(rn a 0).1,(rn b (rn a 0).2).1,0,false),(rn b (rn a 0).2).2) | _=>(zS,3))
 else if w=aP then some (match r with | [a,b,c]=>bD 2 false a b c | [a,b,c,m]=>if m=be then bD 2 true a b c else (zS,3) | _=>(zS,3))
 else if w=aU then some (match r with | [a,b,c]=>bD 3 false a b c | [a,b,c,m]=>if m=be then bD 3 true a b c else (zS,3) | _=>(zS,3))
 else if w=bz then some (match r with | [a]=>((4,0,(rn a 0).1,0,false),(rn a 0).2) | _=>(zS,3))
 else if w=bv then some (match r with | [a]=>((5,(rn a 0).1,0,0,false),(rn a 0).2) | _=>(zS,3))
 else none
def nK (a b c d f:Wd):cg×Int :=
 let x:=rn a 0; let y:=rn b x.2; let t:=rl c y.2; let p:=rl d t.2; let g:=rl f p.2
 ((4,x.1,y.1,t.1,g.1,p.1),g.2)
def tmod (w:Wd) (r:List Wd):cg×Int :=
 if w=ca then (match r with | [a]=>((1,0,0,(rl a 0).1,[],[]),(rl a 0).2) | _=>(zT,3))
 else if w=kSw then (match r with | [a,b]=>((2,0,0,(rl a 0).1,(rl b (rl a 0).2).1,[]),(rl b (rl a 0).2).2) | _=>(zT,3))
 else if w=bZ then (match r with | []=>((3,0,0,[],[],[]),0) | _=>(zT,3))
 else if w=bn then (match r with | [a,b,c,d,f]=>nK a b c d f | _=>(zT,3))
 else (zT,3)
def upS (S:List aA) (f:aA→aA):List aA:=S.dropLast++(S.getLast?.map f).toList
def upX (X:List aC) (f:aC→aC):List aC:=X.dropLast++(X.getLast?.map f).toList
def mst (w:Wd) (r:List Wd) (p:PS):Int×PS :=
 match p with
 | (u,n,B,L,R,S,X,a) =>
   if a=0 then (if w=bX then (match r with | [x,y]=>((rn y (rn x 0).2).2,((rn x 0).1,(rn y (rn x 0).2).1,B,L,R,S,X,1)) | _=>(3,p)) else (3,p))
   else if a=1 then (if w=cN then ((rps r []).2,(u,n,(rps r []).1,L,R,S,X,2)) else (3,p))
   else if a=2 then (if w=ce then (match r with | [x]=>((pTy x).2,(u,n,B,L++[(pTy x).1],R,S,X,2)) | _=>(3,p))
     else if w=cv then (match r with | [x]=>((pTy x).2,(u,n,B,L,(pTy x).1,S,X,3)) | _=>(3,p)) else (3,p))
   else if a=3∨a=5 then (if w=aK then (match r with | [x,y]=>((rt y (rn x 0).2).2,(u,n,B,L,R,S++[((rn x 0).1,[],[],(rt y (rn x 0).2).1)],X,4)) | _=>(3,p))
     else if w=aB then (match r with | []=>(0,(u,n,B,L,R,S,X++[([],zT)],6)) | _=>(3,p))
     else if w=bY∧a=5 then (match r with | [x]=>((pTy x).2,(u,n,B,L,R,upS S (fun s=>(s.1,s.2.1,s.2.2.1++[(pTy x).1],s.2.2.2)),X,5)) | _=>(3,p)) else (3,p))
   else if a=4 then (if w=cE then ((rps r []).2,(u,n,B,L,R,upS S (fun s=>(s.1,(rps r []).1,s.2.2.1,s.2.2.2)),X,5)) else (3,p))
   else if a=6 then (match bC w r with
     | some (s,e)=>(e,(u,n,B,L,R,S,upX X (fun x=>(x.1++[s],x.2)),6))
     | none=>((tmod w r).2,(u,n,B,L,R,S,upX X (fun x=>(x.1,(tmod w r).1)),7)))
   else if a=7 then (if w=aB then (match r with | []=>(0,(u,n,B,L,R,S,X++[([],zT)],6)) | _=>(3,p)) else (3,p))
   else (3,p)
def jd (ws:List Wd) (p:PS):Int×PS:=match ws with | []=>(3,p) | w :: r=>mst w r p
def cC:List Wd→PS→Int→R38
 | [],p,n=>di p
 | l :: ls,p,n=>if bP (wds l)=true then cC ls p (n + 1) else if (jd (wds l) p).1=0 then cC ls (jd (wds l) p).2 (n + 1) else (0,0,[],[],[],[],[],n + 1,(jd (wds l) p).1)
section
variable {q ws:List Wd} {w:Wd} {e:Int} (h:e≠0∨q=w :: ws) (hw:w.length≤1000000) (hl:ws.length≤4000000)
include h hw hl
theorem cu:∃ q',bq q e=some ((rn w e).1,q',(rn w e).2)∧((rn w e).2≠0∨q'=ws):=by
 by_cases he:e=0
 . subst he
   rcases h with h | rfl
   . exact absurd rfl h
   . exact ⟨ws,bp hw hl,.inr rfl⟩
 . refine ⟨q,?_,.inl (by simp [rn,he])⟩
   unfold bq jq rn
   rw [decide_eq_false he,if_neg he]; rfl
theorem yW:∃ q',cj q e=some ((rt w e).1,q',(rt w e).2)∧((rt w e).2≠0∨q'=ws):=by
 by_cases he:e=0
 . subst he
   rcases h with h | rfl
   . exact absurd rfl h
   . exact ⟨ws,eR hw hl,.inr rfl⟩
 . refine ⟨q,?_,.inl (by simp [rt,he])⟩
   unfold cj jr rt
   rw [decide_eq_false he,if_neg he]; rfl
theorem gP:∃ q',c8 q e=some ((rl w e).1,q',(rl w e).2)∧((rl w e).2≠0∨q'=ws):=by
 by_cases he:e=0
 . subst he
   rcases h with h | rfl
   . exact absurd rfl h
   . exact ⟨ws,fM hw hl,.inr rfl⟩
 . refine ⟨q,?_,.inl (by simp [rl,he])⟩
   unfold c8 js rl
   rw [decide_eq_false he,if_neg he]; rfl
end
theorem sk (ws:List Wd) (hw:∀ w∈ws,w.length≤1000000) (hl:ws.length≤1000000):∃ l q,dN ws 0=some (l,q,(rps ws []).2)∧((rps ws []).2=0→l=(rps ws []).1):=by
 unfold dN
 have key:∀ (ws:List Wd) (acc:List (Int×Int)),(∀ w∈ws,w.length≤1000000)→acc.length + ws.length≤1000000→∃ l q,loop dM (acc,ws,0)=some (l,q,(rps ws acc).2)∧((rps ws acc).2=0→l=(rps ws acc).1):=by
   intro ws
   induction ws with
   | nil =>
     intro acc _ _
     refine ⟨acc,[],aR ?_,fun _=>rfl⟩
     unfold dM
     simp [rps]
   | cons w ws ih =>
     intro acc hw ha
     rw [List.length_cons] at ha
     have hb:=sf (w:=w) (ws:=ws) (hw w (by simp)) (by omega)
     have hstep:dM (acc,w :: ws,0)=some (.inl (acc++[((aW w 1048576).1,(aW w 1048576).2.1)],ws,(aW w 1048576).2.2)):=by
       unfold dM
       simp only [sA,decide_true,Bool.and_self,cond_true,hb,Option.bind_some]
       rw [aI (by simp; omega)]; rfl
     rw [bM hstep]
     unfold rps
     by_cases h0:(aW w 1048576).2.2=0
     . rw [if_pos h0,h0]
       exact ih _ (fun x hx=>hw x (by simp [hx])) (by rw [List.length_append,List.length_singleton]; omega)
     . rw [if_neg h0]
       refine ⟨_,_,aR (b:=(acc++[((aW w 1048576).1,(aW w 1048576).2.1)],ws,(aW w 1048576).2.2)) ?_,fun h=>absurd h h0⟩
       unfold dM
       simp only [decide_eq_false h0,Bool.and_false,cond_false]
 obtain ⟨l,q,h1,h2⟩:=key ws [] hw (by simpa using hl)
 exact ⟨l,q,by rw [h1]; rfl,h2⟩
theorem aD {w:Wd} {ws:List Wd} {p:PS} {aG most:Int} (hm:aN w=some (aG,most)) (hb:decide (w∈b8 p.2.2.2.2.2.2.2)=false∨(((w :: ws).length:Nat):Int) < aG∨most < (((w :: ws).length:Nat):Int)):cX (w :: ws) p=some (3,p):=by
 unfold cX dn
 have g0:aa (w :: ws) 0=some w:=rfl
 have hc:(!decide (w∈b8 p.2.2.2.2.2.2.2)||decide ((((w :: ws).length:Nat):Int) < aG)||decide (most < (((w :: ws).length:Nat):Int)))=true:=by
   rcases hb with h | h | h
   . rw [h]; rfl
   . rw [decide_eq_true h]; simp
   . rw [decide_eq_true h]; simp
 simp only [g0,Option.bind_some,hm,mR,hc,cond_true]
theorem uE (w:Wd):∃ l m,aN w=some (l,m):=by
 unfold aN
 have hc:∀ (c:Bool) (x y:Option Bool),(∃ t,x=some t)→(∃ t,y=some t)→∃ t,cond c x y=some t:=fun c x y hx hy=>by
   cases c
   . exact hy
   . exact hx
 have k:∀ (x:Option Bool) (f g:Option (Int×Int)),(∃ t,x=some t)→(∃ l m,f=some (l,m))→(∃ l m,g=some (l,m))→∃ l m,x.bind (fun t=>cond t f g)=some (l,m):=by
   rintro x f g ⟨t,rfl⟩ hf hg
   cases t
   . exact hg
   . exact hf
 refine k _ _ _ (hc _ _ _ ⟨_,rfl⟩ ⟨_,rfl⟩) ⟨_,_,rfl⟩ ?_
 refine k _ _ _ (hc _ _ _ ⟨_,rfl⟩ (hc _ _ _ ⟨_,rfl⟩ ⟨_,rfl⟩)) ⟨_,_,rfl⟩ ?_
 refine k _ _ _ (hc _ _ _ ⟨_,rfl⟩ (hc _ _ _ ⟨_,rfl⟩ (hc _ _ _ ⟨_,rfl⟩ (hc _ _ _ ⟨_,rfl⟩ (hc _ _ _ ⟨_,rfl⟩ ⟨_,rfl⟩))))) ⟨_,_,rfl⟩ ?_
 refine k _ _ _ (hc _ _ _ ⟨_,rfl⟩ (hc _ _ _ ⟨_,rfl⟩ (hc _ _ _ ⟨_,rfl⟩ ⟨_,rfl⟩))) ⟨_,_,rfl⟩ ?_
 cases decide (w=([98,111,114,114,111,119]:List UInt8)) with
 | true=>exact ⟨_,_,rfl⟩
 | false=>cases decide (w=([114,101,98,111,114,114,111,119]:List UInt8)) <;> exact ⟨_,_,rfl⟩
theorem v6 {w:Wd} {ws:List Wd} {p:PS} (h:decide (w∈b8 p.2.2.2.2.2.2.2)=false):cX (w :: ws) p=some (3,p):=by
 obtain ⟨l,m,hm⟩:=uE w
 exact aD hm (.inl h)
def Does (ws:List Wd) (p:PS) (r:Int×PS):Prop:=∃ p1,cX ws p=some (r.1,p1)∧(r.1=0→p1=r.2)
theorem Does.bad {ws:List Wd} {p:PS} (h:cX ws p=some (3,p)):Does ws p (3,p):=⟨p,h,fun _=>rfl⟩
theorem bT {α:Type} {X:List α} (h:X≠[]):∃ X0 x,X=X0++[x]:=⟨X.dropLast,X.getLast h,(List.dropLast_concat_getLast h).symm⟩
theorem f7 (S:List aA) (s:aA) (f:aA→aA):upS (S++[s]) f=S++[f s]:=by simp [upS]
theorem gf (X:List aC) (s:aC) (f:aC→aC):upX (X++[s]) f=X++[f s]:=by simp [upX]
structure Iv (p:PS) (k:Nat):Prop where
 a0:0≤p.2.2.2.2.2.2.2∧p.2.2.2.2.2.2.2≤7
 s0:p.2.2.2.2.2.2.2≤3→p.2.2.2.2.2.1=[]
 x0:p.2.2.2.2.2.2.2≤5→p.2.2.2.2.2.2.1=[]
 s1:p.2.2.2.2.2.2.2=4∨p.2.2.2.2.2.2.2=5→p.2.2.2.2.2.1≠[]
 x1:p.2.2.2.2.2.2.2=6∨p.2.2.2.2.2.2.2=7→p.2.2.2.2.2.2.1≠[]
 nb:p.2.2.1.length≤1000
 nl:p.2.2.2.1.length≤k
 loc:∀ t∈p.2.2.2.1,t.length≤1000
 ret:p.2.2.2.2.1.length≤1000
 ns:p.2.2.2.2.2.1.length≤k
 sig:∀ s∈p.2.2.2.2.2.1,s.2.1.length≤1000∧s.2.2.1.length≤k∧(∀ t∈s.2.2.1,t.length≤1000)∧s.2.2.2.length≤1000
 nx:p.2.2.2.2.2.2.1.length≤k
 blk:∀ x∈p.2.2.2.2.2.2.1,x.1.length≤k∧x.2.2.2.2.1.length≤1000∧x.2.2.2.2.2.1.length≤1000∧x.2.2.2.2.2.2.length≤1000
section
variable {u n:Int} {B:List (Int×Int)} {L:List (List St)} {R:List St} {S:List aA} {X:List aC} {a:Int} {w:Wd} {r:List Wd}
 (hw:∀ x∈r,x.length≤1000000) (hl:r.length≤1000)
include hw hl
theorem xZ:Does (bX :: r) (u,n,B,L,R,S,X,0) (mst bX r (u,n,B,L,R,S,X,0)):=by
 have hm:aN bX=some (3,3):=rfl
 match r,hw,hl with
 | [x,y],hw,hl =>
   obtain ⟨q1,e1,i1⟩:=cu (q:=[x,y]) (w:=x) (ws:=[y]) (e:=0) (.inr rfl) (hw x (by simp)) (by simp)
   obtain ⟨q2,e2,i2⟩:=cu i1 (hw y (by simp)) (by simp)
   refine ⟨_,cb hm (by decide) (by simp) (by simp) (by decide) (u':=(rn x 0).1) (n':=(rn y (rn x 0).2).1) (B':=B) (L':=L) (R':=R) (S':=S) (X':=X) (a':=1) (q:=q2) ?_,fun _=>rfl⟩
   unfold aM
   simp only [decide_true,cond_true,e1,e2,Option.bind_some]; rfl
 | [],_,_=>exact Does.bad (aD hm (.inr (.inl (by simp))))
 | [_],_,_=>exact Does.bad (aD hm (.inr (.inl (by simp))))
 | _ :: _ :: _ :: _,_,_=>exact Does.bad (aD hm (.inr (.inr (by simp; omega))))
theorem yb:Does (cN :: r) (u,n,B,L,R,S,X,1) (mst cN r (u,n,B,L,R,S,X,1)):=by
 have hm:aN cN=some (1,9223372036854775807):=rfl
 obtain ⟨l,q,h1,h2⟩:=sk r hw (by omega)
 have hq:=jV r.length hl
 refine ⟨_,cb hm (by decide) hq.1 hq.2 (by decide) (u':=u) (n':=n) (B':=l) (L':=L) (R':=R) (S':=S) (X':=X) (a':=2) (q:=q) (e:=(rps r []).2) ?_,fun h=>?_⟩
 . unfold aM
   simp (decide:=true) only [decide_true,decide_false,cond_true,cond_false,h1,Option.bind_some]
 . have h3:l=(rps r []).1:=h2 h
   show (u,n,l,L,R,S,X,(2:Int))=(u,n,(rps r []).1,L,R,S,X,2); rw [h3]
theorem xO (hL:L.length≤1000000):Does (ce :: r) (u,n,B,L,R,S,X,2) (mst ce r (u,n,B,L,R,S,X,2)):=by
 have hm:aN ce=some (2,2):=rfl
 match r,hw,hl with
 | [x],hw,hl =>
   have ha:app L [(pTy x).1]=some (L++[(pTy x).1]):=aI (by simp; omega)
   refine ⟨_,cb hm (by decide) (by simp) (by simp) (by decide) (u':=u) (n':=n) (B':=B) (L':=L++[(pTy x).1]) (R':=R) (S':=S) (X':=X) (a':=2) (q:=[]) (e:=(pTy x).2) ?_,fun _=>rfl⟩
   unfold aM
   simp (decide:=true) only [decide_true,decide_false,cond_true,cond_false,eR (w:=x) (ws:=[]) (hw x (by simp)) (by simp),Option.bind_some,ha]
 | [],_,_=>exact Does.bad (aD hm (.inr (.inl (by simp))))
 | _ :: _ :: _,_,_=>exact Does.bad (aD hm (.inr (.inr (by simp; omega))))
theorem xB:Does (cv :: r) (u,n,B,L,R,S,X,2) (mst cv r (u,n,B,L,R,S,X,2)):=by
 have hm:aN cv=some (2,2):=rfl
 match r,hw,hl with
 | [x],hw,hl =>
   refine ⟨_,cb hm (by decide) (by simp) (by simp) (by decide) (u':=u) (n':=n) (B':=B) (L':=L) (R':=(pTy x).1) (S':=S) (X':=X) (a':=3) (q:=[]) (e:=(pTy x).2) ?_,fun _=>rfl⟩
   unfold aM
   simp (decide:=true) only [decide_true,decide_false,cond_true,cond_false,eR (w:=x) (ws:=[]) (hw x (by simp)) (by simp),Option.bind_some]
 | [],_,_=>exact Does.bad (aD hm (.inr (.inl (by simp))))
 | _ :: _ :: _,_,_=>exact Does.bad (aD hm (.inr (.inr (by simp; omega))))
theorem rX (ha:a=3∨a=5) (hS:S.length≤1000000):Does (aK :: r) (u,n,B,L,R,S,X,a) (mst aK r (u,n,B,L,R,S,X,a)):=by
 have hm:aN aK=some (3,3):=rfl
 have hal:decide (aK∈b8 a)=true:=by rcases ha with rfl | rfl <;> decide
 have h0:a≠6:=by omega
 match r,hw,hl with
 | [x,y],hw,hl =>
   obtain ⟨q1,e1,i1⟩:=cu (q:=[x,y]) (w:=x) (ws:=[y]) (e:=0) (.inr rfl) (hw x (by simp)) (by simp)
   obtain ⟨q2,e2,i2⟩:=yW i1 (hw y (by simp)) (by simp)
   have hap:app S [((rn x 0).1,([]:List (Int×Int)),([]:List (List St)),(rt y (rn x 0).2).1)]=some (S++[((rn x 0).1,[],[],(rt y (rn x 0).2).1)]):=aI (by simp; omega)
   rw [show mst aK [x,y] (u,n,B,L,R,S,X,a)=((rt y (rn x 0).2).2,(u,n,B,L,R,S++[((rn x 0).1,[],[],(rt y (rn x 0).2).1)],X,4)) by rcases ha with rfl | rfl <;> rfl]
   refine ⟨_,cb hm hal (by simp) (by simp) h0 (u':=u) (n':=n) (B':=B) (L':=L) (R':=R) (S':=S++[((rn x 0).1,[],[],(rt y (rn x 0).2).1)]) (X':=X) (a':=4) (q:=q2) (e:=(rt y (rn x 0).2).2) ?_,fun _=>rfl⟩
   unfold aM
   simp (decide:=true) only [decide_true,decide_false,cond_true,cond_false,e1,e2,Option.bind_some,hap]
 | [],_,_ =>
   rw [show mst aK [] (u,n,B,L,R,S,X,a)=(3,(u,n,B,L,R,S,X,a)) by rcases ha with rfl | rfl <;> rfl]
   exact Does.bad (aD hm (.inr (.inl (by simp))))
 | [z],_,_ =>
   rw [show mst aK [z] (u,n,B,L,R,S,X,a)=(3,(u,n,B,L,R,S,X,a)) by rcases ha with rfl | rfl <;> rfl]
   exact Does.bad (aD hm (.inr (.inl (by simp))))
 | z :: z2 :: z3 :: z4,_,_ =>
   rw [show mst aK (z :: z2 :: z3 :: z4) (u,n,B,L,R,S,X,a)=(3,(u,n,B,L,R,S,X,a)) by rcases ha with rfl | rfl <;> rfl]
   exact Does.bad (aD hm (.inr (.inr (by simp; omega))))
theorem np (ha:a=3∨a=5∨a=7) (hX:X.length≤1000000):Does (aB :: r) (u,n,B,L,R,S,X,a) (mst aB r (u,n,B,L,R,S,X,a)):=by
 have hm:aN aB=some (1,1):=rfl
 have hal:decide (aB∈b8 a)=true:=by rcases ha with rfl | rfl | rfl <;> decide
 have h0:a≠6:=by omega
 match r,hw,hl with
 | [],hw,hl =>
   have hap:app X [(([]:List bJ),((0,0,0,[],[],[]):cg))]=some (X++[([],(0,0,0,[],[],[]))]):=aI (by simp; omega)
   rw [show mst aB [] (u,n,B,L,R,S,X,a)=(0,(u,n,B,L,R,S,X++[([],zT)],6)) by rcases ha with rfl | rfl | rfl <;> rfl]
   refine ⟨_,cb hm hal (by simp) (by simp) h0 (u':=u) (n':=n) (B':=B) (L':=L) (R':=R) (S':=S) (X':=X++[([],(0,0,0,[],[],[]))]) (a':=6) (q:=[]) (e:=0) ?_,fun _=>rfl⟩
   unfold aM
   simp (decide:=true) only [decide_true,decide_false,cond_true,cond_false,Option.bind_some,hap]
 | z :: z2,_,_ =>
   rw [show mst aB (z :: z2) (u,n,B,L,R,S,X,a)=(3,(u,n,B,L,R,S,X,a)) by rcases ha with rfl | rfl | rfl <;> rfl]
   exact Does.bad (aD hm (.inr (.inr (by simp; omega))))
theorem yc (hS:S≠[]) (hn:S.length≤1000000) (hA:∀ s∈S,s.2.2.1.length≤1000000):Does (bY :: r) (u,n,B,L,R,S,X,5) (mst bY r (u,n,B,L,R,S,X,5)):=by
 have hm:aN bY=some (2,2):=rfl
 obtain ⟨S0,s,rfl⟩:=bT hS
 rw [List.length_append,List.length_singleton] at hn
 have hs:=hA s (by simp)
 match r,hw,hl with
 | [x],hw,hl =>
   have hap:app s.2.2.1 [(pTy x).1]=some (s.2.2.1++[(pTy x).1]):=aI (by simp; omega)
   refine ⟨_,cb hm (by decide) (by simp) (by simp) (by decide) (u':=u) (n':=n) (B':=B) (L':=L) (R':=R) (S':=S0++[(s.1,s.2.1,s.2.2.1++[(pTy x).1],s.2.2.2)]) (X':=X) (a':=5) (q:=[]) (e:=(pTy x).2) ?_,fun _=>?_⟩
   . unfold aM
     simp (decide:=true) only [decide_true,decide_false,cond_true,cond_false,eR (w:=x) (ws:=[]) (hw x (by simp)) (by simp),cL S0 s (by omega),cM,cH,Option.bind_some,hap,Int.toNat_natCast,cK,fp]
   . show _=(u,n,B,L,R,upS (S0++[s]) (fun s=>(s.1,s.2.1,s.2.2.1++[(pTy x).1],s.2.2.2)),X,5)
     rw [f7]
 | [],_,_=>exact Does.bad (aD hm (.inr (.inl (by simp))))
 | _ :: _ :: _,_,_=>exact Does.bad (aD hm (.inr (.inr (by simp; omega))))
theorem xo (hS:S≠[]) (hn:S.length≤1000000):Does (cE :: r) (u,n,B,L,R,S,X,4) (mst cE r (u,n,B,L,R,S,X,4)):=by
 have hm:aN cE=some (1,9223372036854775807):=rfl
 obtain ⟨S0,s,rfl⟩:=bT hS
 rw [List.length_append,List.length_singleton] at hn
 obtain ⟨l,q,h1,h2⟩:=sk r hw (by omega)
 have hq:=jV r.length hl
 refine ⟨_,cb hm (by decide) hq.1 hq.2 (by decide) (u':=u) (n':=n) (B':=B) (L':=L) (R':=R) (S':=S0++[(s.1,l,s.2.2.1,s.2.2.2)]) (X':=X) (a':=5) (q:=q) (e:=(rps r []).2) ?_,fun h=>?_⟩
 . unfold aM
   simp (decide:=true) only [decide_true,decide_false,cond_true,cond_false,h1,cL S0 s (by omega),cM,cH,Option.bind_some,Int.toNat_natCast,cK]
 . have h3:l=(rps r []).1:=h2 h
   show _=(u,n,B,L,R,upS (S0++[s]) (fun s=>(s.1,(rps r []).1,s.2.2.1,s.2.2.2)),X,5)
   rw [f7,h3]
end
theorem Does.bad3 {ws:List Wd} {p:PS} {r:Int×PS} (h:cX ws p=some (3,p)) (h3:r.1=3):Does ws p r:=⟨p,by rw [h3]; exact h,fun h=>by rw [h3] at h; cases h⟩
theorem sD {w:Wd} {r:List Wd} (h:w=bx∨w=ba∨w=aP∨w=aU∨w=bz∨w=bv):cx w r 0=some (0,0,0,[],[],[],false,r,0):=by
 unfold cx
 rcases h with rfl | rfl | rfl | rfl | rfl | rfl <;> simp (decide:=true) only [bx,ba,aP,aU,bz,bv,decide_false,cond_false]
section
variable {u n:Int} {B:List (Int×Int)} {L:List (List St)} {R:List St} {S:List aA} {X0:List aC} {b:aC} {w:Wd} {r:List Wd} {aG most:Int}
 (hX:X0.length≤1000000) (hm:aN w=some (aG,most)) (hal:decide (w∈b8 6)=true) (b1:aG≤((w :: r).length:Nat)) (b2:(((w :: r).length:Nat):Int)≤most)
include hX hm hal b1 b2
theorem kN {t:cg} {q:List Wd} {e:Int} (ht:cx w r 0=some (t.1,t.2.1,t.2.2.1,t.2.2.2.1,t.2.2.2.2.1,t.2.2.2.2.2,true,q,e)) (h0:bC w r=none) (h1:tmod w r=(t,e)) :
   Does (w :: r) (u,n,B,L,R,S,X0++[b],6) (mst w r (u,n,B,L,R,S,X0++[b],6)):=by
 have hms:mst w r (u,n,B,L,R,S,X0++[b],6)=(e,(u,n,B,L,R,S,X0++[(b.1,t)],7)):=by
   unfold mst
   simp (decide:=true) only [if_false,if_true,h0,h1,gf]
 rw [hms]
 refine ⟨_,iV hm hal b1 b2 rfl (B':=B) (L':=L) (R':=R) (S':=S) (X':=X0++[(b.1,t)]) (a':=7) (q:=q) (e:=e) ?_,fun _=>rfl⟩
 unfold c7
 simp only [cL X0 b hX,cM,cH,Option.bind_some,az,ht,cond_true,Int.toNat_natCast,cK]
theorem gL (hb:b.1.length≤1000000) {s:bJ} {q:List Wd} {e:Int} (hn:w=bx∨w=ba∨w=aP∨w=aU∨w=bz∨w=bv) (hs:b6 (w :: r) r 0=some (s.1,s.2.1,s.2.2.1,s.2.2.2.1,s.2.2.2.2,q,e)) (h0:bC w r=some (s,e)) :
   Does (w :: r) (u,n,B,L,R,S,X0++[b],6) (mst w r (u,n,B,L,R,S,X0++[b],6)):=by
 have hms:mst w r (u,n,B,L,R,S,X0++[b],6)=(e,(u,n,B,L,R,S,X0++[(b.1++[s],b.2)],6)):=by
   unfold mst
   simp (decide:=true) only [if_false,if_true,h0,gf]
 rw [hms]
 refine ⟨_,iV hm hal b1 b2 rfl (B':=B) (L':=L) (R':=R) (S':=S) (X':=X0++[(b.1++[s],b.2)]) (a':=6) (q:=q) (e:=e) ?_,fun _=>rfl⟩
 unfold c7
 have ha:app b.1 [(s.1,s.2.1,s.2.2.1,s.2.2.2.1,s.2.2.2.2)]=some (b.1++[s]):=aI (by simp; omega)
 simp only [cL X0 b hX,cM,cH,Option.bind_some,az,sD hn,hs,cond_false,ha,Int.toNat_natCast,cK,fp]
end
theorem bf {w:Wd} {r:List Wd} {u n:Int} {B:List (Int×Int)} {L:List (List St)} {R:List St} {S:List aA} {X:List aC}:(mst w r (u,n,B,L,R,S,X,6)).1=(match bC w r with | some x=>x.2 | none=>(tmod w r).2):=by
 unfold mst
 simp (decide:=true) only [if_false,if_true]
 cases bC w r <;> rfl
section
variable {u n:Int} {B:List (Int×Int)} {L:List (List St)} {R:List St} {S:List aA} {X:List aC} {w:Wd} {r:List Wd}
 (hw:∀ x∈r,x.length≤1000000) (hl:r.length≤1000) (hX:X≠[]) (hn:X.length≤1000000) (hB:∀ x∈X,x.1.length≤1000000)
include hw hl hX hn hB
theorem xR:Does (bx :: r) (u,n,B,L,R,S,X,6) (mst bx r (u,n,B,L,R,S,X,6)):=by
 have hm:aN bx=some (1,1):=rfl
 obtain ⟨X0,b,rfl⟩:=bT hX
 rw [List.length_append,List.length_singleton] at hn
 match r,hw,hl with
 | [],hw,hl=>exact gL (by omega) hm (by decide) (by simp) (by simp) (hB b (by simp)) (.inl rfl) (s:=zS) (q:=[]) (e:=0) (by unfold b6; simp (decide:=true) only [az,Option.bind_some,bx,decide_true,decide_false,cond_true,cond_false]; rfl) rfl
 | _ :: _,_,_=>exact Does.bad3 (aD hm (.inr (.inr (by simp; omega)))) (by rw [bf]; rfl)
theorem xQ:Does (ba :: r) (u,n,B,L,R,S,X,6) (mst ba r (u,n,B,L,R,S,X,6)):=by
 have hm:aN ba=some (3,3):=rfl
 obtain ⟨X0,b,rfl⟩:=bT hX
 rw [List.length_append,List.length_singleton] at hn
 match r,hw,hl with
 | [x,y],hw,hl =>
   obtain ⟨q1,e1,i1⟩:=cu (q:=[x,y]) (w:=x) (ws:=[y]) (e:=0) (.inr rfl) (hw x (by simp)) (by simp)
   obtain ⟨q2,e2,i2⟩:=cu i1 (hw y (by simp)) (by simp)
   exact gL (by omega) hm (by decide) (by simp) (by simp) (hB b (by simp)) (by simp) (s:=(1,(rn x 0).1,(rn y (rn x 0).2).1,0,false)) (q:=q2) (e:=(rn y (rn x 0).2).2) (by unfold b6; simp (decide:=true) only [az,Option.bind_some,ba,decide_true,decide_false,cond_true,cond_false,e1,e2]) rfl
 | [],_,_=>exact Does.bad3 (aD hm (.inr (.inl (by simp)))) (by rw [bf]; rfl)
 | [_],_,_=>exact Does.bad3 (aD hm (.inr (.inl (by simp)))) (by rw [bf]; rfl)
 | _ :: _ :: _ :: _,_,_=>exact Does.bad3 (aD hm (.inr (.inr (by simp; omega)))) (by rw [bf]; rfl)
theorem xF:Does (bz :: r) (u,n,B,L,R,S,X,6) (mst bz r (u,n,B,L,R,S,X,6)):=by
 have hm:aN bz=some (2,2):=rfl
 obtain ⟨X0,b,rfl⟩:=bT hX
 rw [List.length_append,List.length_singleton] at hn
 match r,hw,hl with
 | [x],hw,hl =>
   obtain ⟨q1,e1,i1⟩:=cu (q:=[x]) (w:=x) (ws:=[]) (e:=0) (.inr rfl) (hw x (by simp)) (by simp)
   exact gL (by omega) hm (by decide) (by simp) (by simp) (hB b (by simp)) (by simp) (s:=(4,0,(rn x 0).1,0,false)) (q:=q1) (e:=(rn x 0).2) (by unfold b6; simp (decide:=true) only [az,Option.bind_some,bz,decide_true,decide_false,cond_true,cond_false,e1]) rfl
 | [],_,_=>exact Does.bad3 (aD hm (.inr (.inl (by simp)))) (by rw [bf]; rfl)
 | _ :: _ :: _,_,_=>exact Does.bad3 (aD hm (.inr (.inr (by simp; omega)))) (by rw [bf]; rfl)
theorem wY:Does (bv :: r) (u,n,B,L,R,S,X,6) (mst bv r (u,n,B,L,R,S,X,6)):=by
 have hm:aN bv=some (2,2):=rfl
 obtain ⟨X0,b,rfl⟩:=bT hX
 rw [List.length_append,List.length_singleton] at hn
 match r,hw,hl with
 | [x],hw,hl =>
   obtain ⟨q1,e1,i1⟩:=cu (q:=[x]) (w:=x) (ws:=[]) (e:=0) (.inr rfl) (hw x (by simp)) (by simp)
   exact gL (by omega) hm (by decide) (by simp) (by simp) (hB b (by simp)) (by simp) (s:=(5,(rn x 0).1,0,0,false)) (q:=q1) (e:=(rn x 0).2) (by unfold b6; simp (decide:=true) only [az,Option.bind_some,bv,decide_true,decide_false,cond_true,cond_false,e1]) rfl
 | [],_,_=>exact Does.bad3 (aD hm (.inr (.inl (by simp)))) (by rw [bf]; rfl)
 | _ :: _ :: _,_,_=>exact Does.bad3 (aD hm (.inr (.inr (by simp; omega)))) (by rw [bf]; rfl)
theorem rE (k:Int) (hk:w=aP∧k=2∨w=aU∧k=3):Does (w :: r) (u,n,B,L,R,S,X,6) (mst w r (u,n,B,L,R,S,X,6)):=by
 have hm:aN w=some (4,5):=by rcases hk with ⟨rfl,_⟩ | ⟨rfl,_⟩ <;> rfl
 have hal:decide (w∈b8 6)=true:=by rcases hk with ⟨rfl,_⟩ | ⟨rfl,_⟩ <;> decide
 have hns:w=bx∨w=ba∨w=aP∨w=aU∨w=bz∨w=bv:=by rcases hk with ⟨rfl,_⟩ | ⟨rfl,_⟩ <;> simp
 obtain ⟨X0,b,rfl⟩:=bT hX
 rw [List.length_append,List.length_singleton] at hn
 have bad:∀ r:List Wd,((((w :: r).length:Nat):Int) < 4∨5 < (((w :: r).length:Nat):Int))→bC w r=some (zS,3)→Does (w :: r) (u,n,B,L,R,S,X0++[b],6) (mst w r (u,n,B,L,R,S,X0++[b],6)):=fun r h1 h2=>Does.bad3 (aD hm (.inr h1)) (by rw [bf,h2])
 match r,hw,hl with
 | [x,y,z],hw,hl =>
   obtain ⟨q1,e1,i1⟩:=cu (q:=[x,y,z]) (w:=x) (ws:=[y,z]) (e:=0) (.inr rfl) (hw x (by simp)) (by simp)
   obtain ⟨q2,e2,i2⟩:=cu i1 (hw y (by simp)) (by simp)
   obtain ⟨q3,e3,i3⟩:=cu i2 (hw z (by simp)) (by simp)
   refine gL (by omega) hm hal (by simp) (by simp) (hB b (by simp)) hns (s:=(bD k false x y z).1) (q:=q3) (e:=(bD k false x y z).2) ?_ ?_
   . rcases hk with ⟨rfl,rfl⟩ | ⟨rfl,rfl⟩ <;> (unfold b6; simp (decide:=true) only [az,Option.bind_some,aP,aU,decide_true,decide_false,cond_true,cond_false,Bool.not_true,List.length_cons,List.length_nil,e1,e2,e3]; rfl)
   . rcases hk with ⟨rfl,rfl⟩ | ⟨rfl,rfl⟩ <;> rfl
 | [x, y, z, m], hw, hl =>
   have g4:aa (w :: [x,y,z,m]) 4=some m:=rfl
   by_cases hmm:m=be
   . subst hmm
     obtain ⟨q1,e1,i1⟩:=cu (q:=[x,y,z,be]) (w:=x) (ws:=[y,z,be]) (e:=0) (.inr rfl) (hw x (by simp)) (by simp)
     obtain ⟨q2,e2,i2⟩:=cu i1 (hw y (by simp)) (by simp)
     obtain ⟨q3,e3,i3⟩:=cu i2 (hw z (by simp)) (by simp)
     refine gL (by omega) hm hal (by simp) (by simp) (hB b (by simp)) hns (s:=(bD k true x y z).1) (q:=q3) (e:=(bD k true x y z).2) ?_ ?_
     . have g5:(([109,117,116]:List UInt8))=be:=rfl
       rcases hk with ⟨rfl,rfl⟩ | ⟨rfl,rfl⟩ <;> (unfold b6; rw [g4,g5]; simp (decide:=true) only [az,Option.bind_some,decide_true,decide_false,cond_true,cond_false,Bool.not_true,List.length_cons,List.length_nil,e1,e2,e3]; rfl)
     . rcases hk with ⟨rfl,rfl⟩ | ⟨rfl,rfl⟩ <;> rfl
   . have z1:∀ q:List Wd,bq q 3=some (0,q,3):=fun q=>rfl
     have hs:b6 (w :: [x,y,z,m]) [x,y,z,m] 0=some (k,0,0,0,true,[x,y,z,m],3):=by
       rcases hk with ⟨rfl,rfl⟩ | ⟨rfl,rfl⟩ <;> (unfold b6; rw [g4]; simp (decide:=true) only [az,Option.bind_some,aP,aU,decide_true,decide_false,cond_true,cond_false,Bool.not_true,List.length_cons,List.length_nil]; rw [show decide (m=([109,117,116]:List UInt8))=false from decide_eq_false hmm]; rfl)
     have h3:(mst w [x,y,z,m] (u,n,B,L,R,S,X0++[b],6)).1=3:=by
       rw [bf]
       rcases hk with ⟨rfl,rfl⟩ | ⟨rfl,rfl⟩
       . rw [show bC aP [x,y,z,m]=some (if m=be then bD 2 true x y z else (zS,3)) from rfl,if_neg hmm]
       . rw [show bC aU [x,y,z,m]=some (if m=be then bD 3 true x y z else (zS,3)) from rfl,if_neg hmm]
     have hb:=hB b (by simp)
     have ha:app b.1 [(k,(0:Int),(0:Int),(0:Int),true)]=some (b.1++[(k,0,0,0,true)]):=aI (by simp; omega)
     have hc:c7 (w :: [x,y,z,m]) u n B L R S (X0++[b]) 6 [x,y,z,m] 0=some (B,L,R,S,X0++[(b.1++[(k,0,0,0,true)],b.2)],6,[x,y,z,m],3):=by
       unfold c7
       simp only [cL X0 b (by omega),cM,cH,Option.bind_some,az,sD hns,hs,cond_false,ha,Int.toNat_natCast,cK,fp]
     exact ⟨_,by rw [h3]; exact iV hm hal (by simp) (by simp) rfl hc,fun h=>by rw [h3] at h; cases h⟩
 | [],_,_=>exact bad [] (.inl (by simp)) (by rcases hk with ⟨rfl,_⟩ | ⟨rfl,_⟩ <;> rfl)
 | [a],_,_=>exact bad [a] (.inl (by simp)) (by rcases hk with ⟨rfl,_⟩ | ⟨rfl,_⟩ <;> rfl)
 | [a,c],_,_=>exact bad [a,c] (.inl (by simp)) (by rcases hk with ⟨rfl,_⟩ | ⟨rfl,_⟩ <;> rfl)
 | a :: c :: d :: f :: g :: l,_,_=>exact bad (a :: c :: d :: f :: g :: l) (.inr (by simp; omega)) (by rcases hk with ⟨rfl,_⟩ | ⟨rfl,_⟩ <;> rfl)
theorem wX:Does (ca :: r) (u,n,B,L,R,S,X,6) (mst ca r (u,n,B,L,R,S,X,6)):=by
 have hm:aN ca=some (2,2):=rfl
 obtain ⟨X0,b,rfl⟩:=bT hX
 rw [List.length_append,List.length_singleton] at hn
 match r,hw,hl with
 | [x],hw,hl =>
   obtain ⟨q1,e1,i1⟩:=gP (q:=[x]) (w:=x) (ws:=[]) (e:=0) (.inr rfl) (hw x (by simp)) (by simp)
   exact kN (by omega) hm (by decide) (by simp) (by simp) (t:=(1,0,0,(rl x 0).1,[],[])) (q:=q1) (e:=(rl x 0).2) (by unfold cx; simp (decide:=true) only [Option.bind_some,ca,decide_true,decide_false,cond_true,cond_false,e1]) rfl rfl
 | [],_,_=>exact Does.bad3 (aD hm (.inr (.inl (by simp)))) (by rw [bf]; rfl)
 | _ :: _ :: _,_,_=>exact Does.bad3 (aD hm (.inr (.inr (by simp; omega)))) (by rw [bf]; rfl)
theorem yi:Does (kSw :: r) (u,n,B,L,R,S,X,6) (mst kSw r (u,n,B,L,R,S,X,6)):=by
 have hm:aN kSw=some (3,3):=rfl
 obtain ⟨X0,b,rfl⟩:=bT hX
 rw [List.length_append,List.length_singleton] at hn
 match r,hw,hl with
 | [x,y],hw,hl =>
   obtain ⟨q1,e1,i1⟩:=gP (q:=[x,y]) (w:=x) (ws:=[y]) (e:=0) (.inr rfl) (hw x (by simp)) (by simp)
   obtain ⟨q2,e2,i2⟩:=gP i1 (hw y (by simp)) (by simp)
   exact kN (by omega) hm (by decide) (by simp) (by simp) (t:=(2,0,0,(rl x 0).1,(rl y (rl x 0).2).1,[])) (q:=q2) (e:=(rl y (rl x 0).2).2) (by unfold cx; simp (decide:=true) only [Option.bind_some,kSw,decide_true,decide_false,cond_true,cond_false,e1,e2]) rfl rfl
 | [],_,_=>exact Does.bad3 (aD hm (.inr (.inl (by simp)))) (by rw [bf]; rfl)
 | [_],_,_=>exact Does.bad3 (aD hm (.inr (.inl (by simp)))) (by rw [bf]; rfl)
 | _ :: _ :: _ :: _,_,_=>exact Does.bad3 (aD hm (.inr (.inr (by simp; omega)))) (by rw [bf]; rfl)
theorem xL:Does (bZ :: r) (u,n,B,L,R,S,X,6) (mst bZ r (u,n,B,L,R,S,X,6)):=by
 have hm:aN bZ=some (1,1):=rfl
 obtain ⟨X0,b,rfl⟩:=bT hX
 rw [List.length_append,List.length_singleton] at hn
 match r,hw,hl with
 | [],hw,hl=>exact kN (by omega) hm (by decide) (by simp) (by simp) (t:=(3,0,0,[],[],[])) (q:=[]) (e:=0) (by unfold cx; simp (decide:=true) only [Option.bind_some,bZ,decide_true,decide_false,cond_true,cond_false]) rfl rfl
 | _ :: _,_,_=>exact Does.bad3 (aD hm (.inr (.inr (by simp; omega)))) (by rw [bf]; rfl)
theorem xm:Does (bn :: r) (u,n,B,L,R,S,X,6) (mst bn r (u,n,B,L,R,S,X,6)):=by
 have hm:aN bn=some (6,6):=rfl
 obtain ⟨X0,b,rfl⟩:=bT hX
 rw [List.length_append,List.length_singleton] at hn
 match r,hw,hl with
 | [a,c,d,f,g],hw,hl =>
   obtain ⟨q1,e1,i1⟩:=cu (q:=[a,c,d,f,g]) (w:=a) (ws:=[c,d,f,g]) (e:=0) (.inr rfl) (hw a (by simp)) (by simp)
   obtain ⟨q2,e2,i2⟩:=cu i1 (hw c (by simp)) (by simp)
   obtain ⟨q3,e3,i3⟩:=gP i2 (hw d (by simp)) (by simp)
   obtain ⟨q4,e4,i4⟩:=gP i3 (hw f (by simp)) (by simp)
   obtain ⟨q5,e5,i5⟩:=gP i4 (hw g (by simp)) (by simp)
   exact kN (by omega) hm (by decide) (by simp) (by simp) (t:=(nK a c d f g).1) (q:=q5) (e:=(nK a c d f g).2) (by unfold cx; simp (decide:=true) only [Option.bind_some,bn,decide_true,decide_false,cond_true,cond_false,e1,e2,e3,e4,e5]; rfl) rfl rfl
 | [],_,_=>exact Does.bad3 (aD hm (.inr (.inl (by simp)))) (by rw [bf]; rfl)
 | [_],_,_=>exact Does.bad3 (aD hm (.inr (.inl (by simp)))) (by rw [bf]; rfl)
 | [_,_],_,_=>exact Does.bad3 (aD hm (.inr (.inl (by simp)))) (by rw [bf]; rfl)
 | [_,_,_],_,_=>exact Does.bad3 (aD hm (.inr (.inl (by simp)))) (by rw [bf]; rfl)
 | [_,_,_,_],_,_=>exact Does.bad3 (aD hm (.inr (.inl (by simp)))) (by rw [bf]; rfl)
 | _ :: _ :: _ :: _ :: _ :: _ :: _,_,_=>exact Does.bad3 (aD hm (.inr (.inr (by simp; omega)))) (by rw [bf]; rfl)
end
end
section
open Go.RowKit Nu
theorem eT {w:Wd} {ws l:List Wd} {a:Int} {u n:Int} {B:List (Int×Int)} {L:List (List St)} {R:List St} {S:List aA} {X:List aC} (e:b8 a=l) (h:w∉l) (h3:(mst w ws (u,n,B,L,R,S,X,a)).1=3):Does (w :: ws) (u,n,B,L,R,S,X,a) (mst w ws (u,n,B,L,R,S,X,a)) :=
 Does.bad3 (v6 (decide_eq_false (by show ¬ w∈b8 a; rw [e]; exact h))) h3
theorem xJ {w:Wd} {r:List Wd} {p:PS} {k:Nat} (hi:Iv p k) (hk:k≤100000) (hw:∀ x∈r,x.length≤1000000) (hl:r.length≤1000):Does (w :: r) p (mst w r p):=by
 obtain ⟨u,n,B,L,R,S,X,a⟩:=p
 obtain ⟨⟨a0,a1⟩,hs0,hx0,hs1,hx1,nb,nl,hloc,hret,ns,hsig,nx,hblk⟩:=hi
 dsimp only at *
 have ha:a=0∨a=1∨a=2∨a=3∨a=4∨a=5∨a=6∨a=7:=by omega
 have hB:∀ x∈X,x.1.length≤1000000:=fun x hx=>by have:=(hblk x hx).1; omega
 have hA:∀ s∈S,s.2.2.1.length≤1000000:=fun s hs=>by have:=(hsig s hs).2.1; omega
 rcases ha with rfl | rfl | rfl | rfl | rfl | rfl | rfl | rfl
 . by_cases h1:w=bX
   . subst h1; exact xZ hw hl
   . exact eT (l:=[bX]) rfl (by simpa using h1) (by unfold mst; simp only [if_true,if_neg h1])
 . by_cases h1:w=cN
   . subst h1; exact yb hw hl
   . exact eT (l:=[cN]) rfl (by simpa using h1) (by unfold mst; simp (decide:=true) only [if_true,if_false,if_neg h1])
 . by_cases h1:w=ce
   . subst h1; exact xO hw hl (by omega)
   . by_cases h2:w=cv
     . subst h2; exact xB hw hl
     . exact eT (l:=[ce,cv]) rfl (by simpa using ⟨h1,h2⟩) (by unfold mst; simp (decide:=true) only [if_true,if_false,if_neg h1,if_neg h2])
 . by_cases h1:w=aK
   . subst h1; exact rX hw hl (by omega) (by omega)
   . by_cases h2:w=aB
     . subst h2; exact np hw hl (by omega) (by omega)
     . exact eT (l:=[aK,aB]) rfl (by simpa using ⟨h1,h2⟩) (by unfold mst; simp (decide:=true) only [if_true,if_false,if_neg h1,if_neg h2,and_false,true_or])
 . by_cases h1:w=cE
   . subst h1; exact xo hw hl (hs1 (by omega)) (by omega)
   . exact eT (l:=[cE]) rfl (by simpa using h1) (by unfold mst; simp (decide:=true) only [if_true,if_false,if_neg h1,or_self])
 . by_cases h1:w=aK
   . subst h1; exact rX hw hl (by omega) (by omega)
   . by_cases h2:w=aB
     . subst h2; exact np hw hl (by omega) (by omega)
     . by_cases h3:w=bY
       . subst h3; exact yc hw hl (hs1 (by omega)) (by omega) hA
       . exact eT (l:=[bY,aK,aB]) rfl (by simpa using ⟨h3,h1,h2⟩) (by unfold mst; simp (decide:=true) only [if_true,if_false,if_neg h1,if_neg h2,h3,false_and,or_true])
 . have hX:=hx1 (.inl rfl)
   by_cases h1:w=bx
   . subst h1; exact xR hw hl hX (by omega) hB
   by_cases h2:w=ba
   . subst h2; exact xQ hw hl hX (by omega) hB
   by_cases h3:w=aP
   . exact rE hw hl hX (by omega) hB 2 (.inl ⟨h3,rfl⟩)
   by_cases h4:w=aU
   . exact rE hw hl hX (by omega) hB 3 (.inr ⟨h4,rfl⟩)
   by_cases h5:w=bz
   . subst h5; exact xF hw hl hX (by omega) hB
   by_cases h6:w=bv
   . subst h6; exact wY hw hl hX (by omega) hB
   by_cases h7:w=ca
   . subst h7; exact wX hw hl hX (by omega) hB
   by_cases h8:w=kSw
   . subst h8; exact yi hw hl hX (by omega) hB
   by_cases h9:w=bZ
   . subst h9; exact xL hw hl hX (by omega) hB
   by_cases h10:w=bn
   . subst h10; exact xm hw hl hX (by omega) hB
   . exact eT (l:=[bx,ba,aP,aU,bz,bv,ca,kSw,bZ,bn]) rfl (by simpa using ⟨h1,h2,h3,h4,h5,h6,h7,h8,h9,h10⟩) (by
       rw [bf]
       have e1:bC w r=none:=by unfold bC; simp only [h1,h2,h3,h4,h5,h6,if_false]
       rw [e1]
       unfold tmod; simp only [h7,h8,h9,h10,if_false])
 . by_cases h1:w=aB
   . subst h1; exact np hw hl (by omega) (by omega)
   . exact eT (l:=[aB]) rfl (by simpa using h1) (by unfold mst; simp (decide:=true) only [if_true,if_false,if_neg h1,or_self])
theorem qZ:∀ (ws:List Wd) (acc:List (Int×Int)),(rps ws acc).1.length≤acc.length + ws.length
 | [],acc=>by simp [rps]
 | w :: ws,acc=>by
   unfold rps
   split
   . have:=qZ ws (acc++[((aW w 1048576).1,(aW w 1048576).2.1)])
     rw [List.length_append,List.length_singleton] at this
     rw [List.length_cons]; omega
   . simp
theorem wW (w:Wd) (e:Int):(rt w e).1.length≤w.length + 1:=by
 unfold rt; split
 . exact qI w
 . simp
theorem xw (w:Wd) (e:Int):(rl w e).1.length≤w.length + 1:=by
 unfold rl; split
 . unfold rdL; split
   . simp
   . exact tI
 . simp
theorem vd {w:Wd} {r:List Wd} (hw:∀ x∈r,x.length≤900):(tmod w r).1.2.2.2.1.length≤1000∧(tmod w r).1.2.2.2.2.1.length≤1000∧(tmod w r).1.2.2.2.2.2.length≤1000:=by
 have key:∀ x∈r,∀ e,(rl x e).1.length≤1000:=fun x hx e=>by have:=xw x e; have:=hw x hx; omega
 unfold tmod
 split
 . split
   . exact ⟨key _ (by simp) _,by simp,by simp⟩
   . simp [zT]
 split
 . split
   . exact ⟨key _ (by simp) _,key _ (by simp) _,by simp⟩
   . simp [zT]
 split
 . split <;> simp [zT]
 split
 . split
   . exact ⟨key _ (by simp) _,key _ (by simp) _,key _ (by simp) _⟩
   . simp [zT]
 . simp [zT]
theorem Iv.up {p:PS} {k:Nat} (h:Iv p k):Iv p (k + 1):=⟨h.a0,h.s0,h.x0,h.s1,h.x1,h.nb,by have:=h.nl; omega,h.loc,h.ret,by have:=h.ns; omega,fun s hs=>by obtain ⟨q1,q2,q3,q4⟩:=h.sig s hs; exact ⟨q1,by omega,q3,q4⟩,by have:=h.nx; omega,fun x hx=>by obtain ⟨q1,q2,q3,q4⟩:=h.blk x hx; exact ⟨by omega,q2,q3,q4⟩⟩
theorem Iv.next {w:Wd} {r:List Wd} {p:PS} {k:Nat} (hi:Iv p k) (hw:∀ x∈r,x.length≤900) (hl:r.length≤900) (h0:(mst w r p).1=0):Iv (mst w r p).2 (k + 1):=by
 have hu:=hi.up
 obtain ⟨u,n,B,L,R,S,X,a⟩:=p
 obtain ⟨⟨a0,a1⟩,hs0,hx0,hs1,hx1,nb,nl,hloc,hret,ns,hsig,nx,hblk⟩:=hu
 have ns':=hi.ns
 have nl':=hi.nl
 have nx':=hi.nx
 have hsig':=hi.sig
 have hblk':=hi.blk
 dsimp only at *
 have no:∀ {p:PS} {c:Prop},((3:Int),p).1=0→c:=fun h=>by cases h
 have ha:a=0∨a=1∨a=2∨a=3∨a=4∨a=5∨a=6∨a=7:=by omega
 have hr:=qZ r []
 rw [List.length_nil] at hr
 have ty:∀ x∈r,(pTy x).1.length≤1000:=fun x hx=>by have:=qI x; have:=hw x hx; omega
 have rty:∀ x∈r,∀ e,(rt x e).1.length≤1000:=fun x hx e=>by have:=wW x e; have:=hw x hx; omega
 have sgs:∀ (S0:List aA) (s:aA) (g:aA),S=S0++[s]→(g.2.1.length≤1000∧g.2.2.1.length≤k + 1∧(∀ t∈g.2.2.1,t.length≤1000)∧g.2.2.2.length≤1000)→∀ q∈S0++[g],q.2.1.length≤1000∧q.2.2.1.length≤k + 1∧(∀ t∈q.2.2.1,t.length≤1000)∧q.2.2.2.length≤1000:=by
   intro S0 s g e hg q hq
   rcases List.mem_append.1 hq with hq | hq
   . exact hsig q (by rw [e]; simp [hq])
   . rw [List.mem_singleton.1 hq]; exact hg
 have bks:∀ (X0:List aC) (x:aC) (g:aC),X=X0++[x]→(g.1.length≤k + 1∧g.2.2.2.2.1.length≤1000∧g.2.2.2.2.2.1.length≤1000∧g.2.2.2.2.2.2.length≤1000)→∀ q∈X0++[g],q.1.length≤k + 1∧q.2.2.2.2.1.length≤1000∧q.2.2.2.2.2.1.length≤1000∧q.2.2.2.2.2.2.length≤1000:=by
   intro X0 x g e hg q hq
   rcases List.mem_append.1 hq with hq | hq
   . exact hblk q (by rw [e]; simp [hq])
   . rw [List.mem_singleton.1 hq]; exact hg
 have blkNew:(a=3∨a=5∨a=7)→Iv (u,n,B,L,R,S,X++[([],zT)],6) (k + 1):=fun _ =>
   ⟨by dsimp only; omega,fun h=>by dsimp only at h; omega,fun h=>by dsimp only at h; omega,fun h=>by dsimp only at h; omega,fun _=>by simp,nb,nl,hloc,hret,ns,hsig,by simp; omega,fun q hq=>by
     rcases List.mem_append.1 hq with hq | hq
     . exact hblk q hq
     . rw [List.mem_singleton.1 hq]; simp [zT]⟩
 have sigNew:∀ g:aA,(a=3∨a=5)→(g.2.1.length≤1000∧g.2.2.1.length≤k + 1∧(∀ t∈g.2.2.1,t.length≤1000)∧g.2.2.2.length≤1000)→Iv (u,n,B,L,R,S++[g],X,4) (k + 1):=fun g hg hgg =>
   ⟨by dsimp only; omega,fun h=>by dsimp only at h; omega,fun _=>hx0 (by omega),fun _=>by simp,fun h=>by dsimp only at h; omega,nb,nl,hloc,hret,by simp; omega,fun q hq=>by
     rcases List.mem_append.1 hq with hq | hq
     . exact hsig q hq
     . rw [List.mem_singleton.1 hq]; exact hgg,nx,hblk⟩
 unfold mst at h0 ⊢
 rcases ha with rfl | rfl | rfl | rfl | rfl | rfl | rfl | rfl
 . simp only [if_true] at h0 ⊢
   split at h0
   . split at h0
     . rename_i h1 _ x y; rw [if_pos h1]
       exact ⟨by dsimp only; omega,fun _=>hs0 (by omega),fun _=>hx0 (by omega),fun h=>by dsimp only at h; omega,fun h=>by dsimp only at h; omega,nb,nl,hloc,hret,ns,hsig,nx,hblk⟩
     . exact no h0
   . exact no h0
 . simp (decide:=true) only [if_true,if_false] at h0 ⊢
   split at h0
   . rename_i h1; rw [if_pos h1]
     exact ⟨by dsimp only; omega,fun _=>hs0 (by omega),fun _=>hx0 (by omega),fun h=>by dsimp only at h; omega,fun h=>by dsimp only at h; omega,by dsimp only; omega,nl,hloc,hret,ns,hsig,nx,hblk⟩
   . exact no h0
 . simp (decide:=true) only [if_true,if_false] at h0 ⊢
   split at h0
   . split at h0
     . rename_i h1 _ x; rw [if_pos h1]
       exact ⟨by dsimp only; omega,fun _=>hs0 (by omega),fun _=>hx0 (by omega),fun h=>by dsimp only at h; omega,fun h=>by dsimp only at h; omega,nb,by simp; omega,fun t ht=>by
         rcases List.mem_append.1 ht with ht | ht
         . exact hloc t ht
         . rw [List.mem_singleton.1 ht]; exact ty x (by simp),hret,ns,hsig,nx,hblk⟩
     . exact no h0
   . rename_i h1
     split at h0
     . split at h0
       . rename_i h2 _ x; rw [if_neg h1,if_pos h2]
         exact ⟨by dsimp only; omega,fun _=>hs0 (by omega),fun _=>hx0 (by omega),fun h=>by dsimp only at h; omega,fun h=>by dsimp only at h; omega,nb,nl,hloc,ty x (by simp),ns,hsig,nx,hblk⟩
       . exact no h0
     . exact no h0
 . simp (decide:=true) only [if_true,if_false,true_or,and_false] at h0 ⊢
   split at h0
   . split at h0
     . rename_i h1 _ x y; rw [if_pos h1]
       exact sigNew _ (by omega) ⟨by simp,by simp,by simp,rty y (by simp) _⟩
     . exact no h0
   . rename_i h1
     split at h0
     . split at h0
       . rename_i h2 _; rw [if_neg h1,if_pos h2]; exact blkNew (by omega)
       . exact no h0
     . exact no h0
 . simp (decide:=true) only [if_true,if_false,or_self] at h0 ⊢
   split at h0
   . rename_i h1; rw [if_pos h1]
     obtain ⟨S0,s,hS⟩:=bT (hs1 (by omega))
     have hs:=hsig s (by rw [hS]; simp)
     have hl0:S0.length + 1≤k + 1:=by have:=congrArg List.length hS; simp at this; omega
     rw [hS,f7]
     refine ⟨by dsimp only; omega,fun h=>by dsimp only at h; omega,fun _=>hx0 (by omega),fun _=>by simp,fun h=>by dsimp only at h; omega,nb,nl,hloc,hret,by simp; omega,sgs S0 s _ hS ⟨by dsimp only; omega,hs.2.1,hs.2.2.1,hs.2.2.2⟩,nx,hblk⟩
   . exact no h0
 . simp (decide:=true) only [if_true,if_false,or_true,and_true] at h0 ⊢
   split at h0
   . split at h0
     . rename_i h1 _ x y; rw [if_pos h1]
       exact sigNew _ (by omega) ⟨by simp,by simp,by simp,rty y (by simp) _⟩
     . exact no h0
   . rename_i h1
     split at h0
     . split at h0
       . rename_i h2 _; rw [if_neg h1,if_pos h2]; exact blkNew (by omega)
       . exact no h0
     . rename_i h2
       split at h0
       . split at h0
         . rename_i h3 _ x; rw [if_neg h1,if_neg h2,if_pos h3]
           obtain ⟨S0,s,hS⟩:=bT (hs1 (by omega))
           have hs:=hsig' s (by rw [hS]; simp)
           have hl0:S0.length + 1≤k + 1:=by have:=congrArg List.length hS; simp at this; omega
           rw [hS,f7]
           refine ⟨by dsimp only; omega,fun h=>by dsimp only at h; omega,fun _=>hx0 (by omega),fun _=>by simp,fun h=>by dsimp only at h; omega,nb,nl,hloc,hret,by simp; omega,sgs S0 s _ hS ⟨hs.1,by simp; omega,fun t ht=>by
             rcases List.mem_append.1 ht with ht | ht
             . exact hs.2.2.1 t ht
             . rw [List.mem_singleton.1 ht]; exact ty x (by simp),hs.2.2.2⟩,nx,hblk⟩
         . exact no h0
       . exact no h0
 . simp (decide:=true) only [if_true,if_false,or_self] at h0 ⊢
   obtain ⟨X0,x,hX⟩:=bT (hx1 (by omega))
   have hx:=hblk' x (by rw [hX]; simp)
   have hl0:X0.length + 1≤k + 1:=by have:=congrArg List.length hX; simp at this; omega
   cases hs:bC w r with
   | some q =>
     simp only [hX,gf]
     refine ⟨by dsimp only; omega,fun h=>by dsimp only at h; omega,fun h=>by dsimp only at h; omega,fun h=>by dsimp only at h; omega,fun _=>by simp,nb,nl,hloc,hret,ns,hsig,by simp; omega,bks X0 x _ hX ⟨by simp; omega,hx.2.1,hx.2.2.1,hx.2.2.2⟩⟩
   | none =>
     simp only [hX,gf]
     have ht:=vd (w:=w) hw
     refine ⟨by dsimp only; omega,fun h=>by dsimp only at h; omega,fun h=>by dsimp only at h; omega,fun h=>by dsimp only at h; omega,fun _=>by simp,nb,nl,hloc,hret,ns,hsig,by simp; omega,bks X0 x _ hX ⟨by dsimp only; omega,ht.1,ht.2.1,ht.2.2⟩⟩
 . simp (decide:=true) only [if_true,if_false,or_self] at h0 ⊢
   split at h0
   . split at h0
     . rename_i h1 _; rw [if_pos h1]; exact blkNew (by omega)
     . exact no h0
   . exact no h0
theorem Iv.zero:Iv (0,0,[],[],[],[],[],0) 0:=⟨by decide,fun _=>rfl,fun _=>rfl,fun h=>by dsimp only at h; omega,fun h=>by dsimp only at h; omega,by simp,by simp,by simp,by simp,by simp,by simp,by simp,by simp⟩
theorem mJ {l:Wd} (h:l.length≤800):(wds l).length≤801∧∀ w∈wds l,w.length≤800:=by
 refine ⟨?_,fun w hw=>fY 32 800 l h w (List.mem_filter.1 hw).1⟩
 have h1:=cP 32 l
 have h2:(wds l).length≤(ae 32 l).length:=List.length_filter_le _ _
 omega
theorem lZ {ws:List Wd} (h:¬ bP ws=true):∃ w r,ws=w :: r:=by
 cases ws with
 | nil=>exact absurd rfl h
 | cons w r=>exact ⟨w,r,rfl⟩
theorem ma:∀ (ls:List Wd) (p:PS) (k:Nat) (n:Int),Iv p k→k + ls.length≤100000→(∀ l∈ls,l.length≤800)→eK ls p n=some (cC ls p n)
 | [],p,k,n,_,_,_=>rfl
 | l :: ls,p,k,n,hi,hk,hl=>by
   rw [List.length_cons] at hk
   have hls:=fun x hx=>hl x (List.mem_cons_of_mem l hx)
   obtain ⟨w1,w2⟩:=mJ (hl l (by simp))
   unfold eK cC cV
   by_cases hs:bP (wds l)=true
   . rw [if_pos hs,if_pos hs]
     simp only [Option.bind_some,if_true]
     exact ma ls p (k + 1) (n + 1) hi.up (by omega) hls
   . rw [if_neg hs,if_neg hs]
     obtain ⟨w,r,e⟩:=lZ hs
     rw [e] at w1 w2 ⊢
     rw [List.length_cons] at w1
     obtain ⟨p1,h1,h2⟩:=xJ (w:=w) (r:=r) hi (by omega) (fun x hx=>by have:=w2 x (by simp [hx]); omega) (by omega)
     rw [h1,Option.bind_some]
     show (if (mst w r p).1=0 then _ else _)=some (if (mst w r p).1=0 then _ else _)
     by_cases h0:(mst w r p).1=0
     . rw [if_pos h0,if_pos h0,h2 h0]
       exact ma ls _ (k + 1) (n + 1) (hi.next (fun x hx=>by have:=w2 x (by simp [hx]); omega) (by omega) h0) (by omega) hls
     . rw [if_neg h0,if_neg h0]; rfl
def bdy (r:R38):dm:=(r.1,r.2.1,r.2.2.1,r.2.2.2.1,r.2.2.2.2.1,r.2.2.2.2.2.1,r.2.2.2.2.2.2.1)
end
section
open Go.RowKit Nu
theorem xd (l:Wd) (hn:l.length≤1000000):jJ l=some (wds l):=by
 unfold jJ
 rw [show dP l 32=_ from mW l 32 hn,Option.bind_some]
 have hp:=cP 32 l
 have hc:=oU (body:=ia (ae 32 l)) (ae 32 l) (fun k=>((ae 32 l).take k).filter (fun w=>!decide (w=[]))) (wds l) (fun k hk=>by
   unfold ia
   have hf:(((ae 32 l).take k).filter (fun w=>!decide (w=[]))).length≤1000001:=by
     refine Nat.le_trans (List.length_filter_le _ _) ?_
     rw [List.length_take]; omega
   simp only [dlt hk,cond_true,aw hk,Option.bind_some,aH hk (by omega)]
   rw [et hk,List.filter_append]
   generalize ((ae 32 l).take k).filter (fun w=>!decide (w=[]))=G at hf
   by_cases h:(ae 32 l)[k]=[]
   . simp [h]
   . rw [decide_eq_false h,aI (by simp only [List.length_cons,List.length_nil]; omega)]
     simp [h]) (by unfold ia; simp only [dge (show ¬ (ae 32 l).length < (ae 32 l).length by omega),cond_false,List.take_length]; rfl)
 rw [show loop (ia (ae 32 l)) ([],0)=some (wds l) from hc]; rfl
theorem cT (w:Wd) (e:Int) (hn:w.length≤1000000):cy w e=some (rn w e):=by
 unfold cy rn
 rw [fg w _ hn (by omega),Option.bind_some]
 by_cases h:e=0
 . rw [decide_eq_true h,if_pos h]; rfl
 . rw [decide_eq_false h,if_neg h]; rfl
theorem gh (w:Wd) (e:Int) (hn:w.length≤1000000):er w e=some (rl w e):=by
 unfold er rl rdL
 rw [tZ w _ hn (by omega),Option.bind_some]
 by_cases h:e=0
 . rw [decide_eq_true h,if_pos h]
   by_cases h2:w=[45]
   . rw [decide_eq_true h2,if_pos h2,h]; rfl
   . rw [decide_eq_false h2,if_neg h2]; rfl
 . rw [decide_eq_false h,if_neg h]; rfl
theorem qj (w:Wd) (r:List Wd) (hw:∀ x∈r,x.length≤1000000) (hl:r.length≤1000):ij (w :: r)=some (rps r []):=by
 unfold ij
 have key:∀ (m k:Nat) (acc:List (Int×Int)),k + m=r.length→acc.length≤k→loop (fQ (w :: r)) (acc,((k + 1:Nat):Int))=some (if (rps (r.drop k) acc).2=0 then .inl (rps (r.drop k) acc).1 else .inr (rps (r.drop k) acc)):=by
   intro m
   induction m with
   | zero =>
     intro k acc hk ha
     rw [List.drop_eq_nil_of_le (by omega)]
     refine aR ?_
     unfold fQ
     dsimp only
     rw [dge (show ¬ k + 1 < (w :: r).length by rw [List.length_cons]; omega)]
     simp [rps]
   | succ m ih =>
     intro k acc hk ha
     have hk':k < r.length:=by omega
     have hk2:k + 1 < (w :: r).length:=by rw [List.length_cons]; omega
     have hp:=t8 r[k] 1048576 (hw _ (List.getElem_mem hk')) (by omega)
     have hg:aa (w :: r) ((k + 1:Nat):Int)=some r[k]:=by rw [aw hk2]; rfl
     rw [List.drop_eq_getElem_cons hk']
     unfold rps
     by_cases h0:(aW r[k] 1048576).2.2=0
     . rw [if_pos h0,bM (s':=(acc++[((aW r[k] 1048576).1,(aW r[k] 1048576).2.1)],((k + 1 + 1:Nat):Int)))]
       . exact ih (k + 1) _ (by omega) (by rw [List.length_append,List.length_singleton]; omega)
       . unfold fQ
         simp only [dlt hk2,cond_true,hg,Option.bind_some,hp,h0,decide_true,Bool.not_true,cond_false,aH hk2 (by rw [List.length_cons]; omega)]
         rw [aI (by simp; omega)]; rfl
     . rw [if_neg h0]
       simp only [h0,if_false]
       refine aR ?_
       unfold fQ
       simp only [dlt hk2,cond_true,hg,Option.bind_some,hp,h0,decide_false,Bool.not_false]
 have:=key r.length 0 [] (by omega) (by simp)
 rw [List.drop_zero] at this
 rw [show loop (fQ (w :: r)) ([],1)=_ from this]
 by_cases h1:(rps r []).2=0
 . simp only [h1,if_true,Option.bind_some]; rw [← h1]
 . simp only [h1,if_false,Option.bind_some]
theorem nj (w:Wd) (r:List Wd) (hw:∀ x∈r,x.length≤1000000):dQ (w :: r)=some (match r with | [x]=>pTy x | _=>([],3)):=by
 unfold dQ
 match r,hw with
 | [x],hw =>
   have h1:aa [w,x] 1=some x:=rfl
   simp only [List.length_cons,List.length_nil,h1,Option.bind_some,qg x (hw x (by simp))]; rfl
 | [],_=>rfl
 | a :: b :: l,_ =>
   rw [decide_eq_false (by simp; omega)]; rfl
def nmS:List Wd:=[bx,ba,aP,aU,bz,bv]
def nmT:List Wd:=[[],ca,kSw,bZ,bn]
def kdS (w:Wd):Nat→Int
 | 0=>-1
 | k + 1=>if nmS.getD k []=w then (k:Int) else kdS w k
def kdT (w:Wd):Nat→Int
 | 0=>0
 | k + 1=>if nmT.getD (k + 1) []=w then ((k + 1:Nat):Int) else kdT w k
theorem xE (w:Wd) (r:List Wd):loop (jH (w :: r)) (-1,0)=some (kdS w 6):=by
 refine dx (body:=jH (w :: r)) (fun k:Nat=>(kdS w k,(k:Int))) 6 (fun k hk=>?_) rfl
 unfold jH
 have hg:aa nmS (k:Int)=some (nmS.getD k []):=by rw [aw (show k < nmS.length from hk)]; simp [List.getD,show k < nmS.length from hk]
 have d6:decide ((k:Int) < 6)=true:=decide_eq_true (by omega)
 simp only [d6,cond_true]
 refine (congrArg (Option.bind · _) hg).trans ?_
 rw [Option.bind_some,az,Option.bind_some,aH hk (by omega)]
 by_cases h:nmS.getD k []=w
 . rw [decide_eq_true h,show kdS w (k + 1)=if nmS.getD k []=w then (k:Int) else kdS w k from rfl,if_pos h]; rfl
 . rw [decide_eq_false h,show kdS w (k + 1)=if nmS.getD k []=w then (k:Int) else kdS w k from rfl,if_neg h]; rfl
theorem gF (w:Wd) (r:List Wd):loop (jG (w :: r)) (0,1)=some (kdT w 4):=by
 refine dx (body:=jG (w :: r)) (fun k:Nat=>(kdT w k,((k + 1:Nat):Int))) 4 (fun k hk=>?_) rfl
 unfold jG
 have hg:aa nmT ((k + 1:Nat):Int)=some (nmT.getD (k + 1) []):=by rw [aw (show k + 1 < nmT.length by show k + 1 < 5; omega)]; simp [List.getD,show k + 1 < nmT.length by show k + 1 < 5; omega]
 have d6:decide (((k + 1:Nat):Int) < 5)=true:=decide_eq_true (by omega)
 simp only [d6,cond_true]
 refine (congrArg (Option.bind · _) hg).trans ?_
 rw [Option.bind_some,az,Option.bind_some,aH (show k + 1 < 5 by omega) (by omega)]
 by_cases h:nmT.getD (k + 1) []=w
 . rw [decide_eq_true h,show kdT w (k + 1)=if nmT.getD (k + 1) []=w then ((k + 1:Nat):Int) else kdT w k from rfl,if_pos h]; rfl
 . rw [decide_eq_false h,show kdT w (k + 1)=if nmT.getD (k + 1) []=w then ((k + 1:Nat):Int) else kdT w k from rfl,if_neg h]; rfl
theorem xu (w:Wd) (r:List Wd) (hw:∀ x∈r,x.length≤1000000) (hl:r.length≤1000):jM (w :: r)=some (match bC w r with | some (s,e)=>(s.1,s.2.1,s.2.2.1,s.2.2.2.1,s.2.2.2.2,true,e) | none=>(0,0,0,0,false,false,0)):=by
 unfold jM
 rw [xE,Option.bind_some]
 have badL:∀ (k:Nat) (a:Int),(((w :: r).length:Nat):Int)≠a→decide ((((w :: r).length:Nat):Int)=a)=false:=fun k a h=>decide_eq_false h
 by_cases h1:w=bx
 . subst h1
   rw [show kdS bx 6=0 from by decide]
   match r,hw with
   | [],hw=>rfl
   | a :: l,_ =>
     have e1:decide ((((bx :: a :: l).length:Nat):Int)=1)=false:=decide_eq_false (by simp; omega)
     simp (decide:=true) only [decide_true,decide_false,Bool.or_self,Bool.false_and,cond_false,Option.bind_some,show aa ([1,3,4,4,2,2]:List Int) 0=some 1 from rfl,e1,Bool.not_false,cond_true]; rfl
 by_cases h2:w=ba
 . subst h2
   rw [show kdS ba 6=1 from by decide]
   have bad:∀ r:List Wd,(((ba :: r).length:Nat):Int)≠3→bC ba r=some (zS,3)→_:=fun r h h'=>h'
   match r,hw with
   | [x,y],hw =>
     have g1:aa [ba,x,y] 1=some x:=rfl
     have g2:aa [ba,x,y] 2=some y:=rfl
     simp (decide:=true) only [decide_true,decide_false,Bool.or_self,Bool.or_true,Bool.true_or,Bool.false_and,Bool.and_self,Bool.false_or,cond_false,cond_true,Option.bind_some,show aa ([1,3,4,4,2,2]:List Int) 1=some 3 from rfl,List.length_cons,List.length_nil,g1,cT x _ (hw x (by simp)),show IntKind.wrap .i64 (1 + 1)=2 from rfl,g2,cT y _ (hw y (by simp))]; rfl
   | [],_=>rfl
   | [a],_=>rfl
   | a :: b :: c :: l,_ =>
     have e1:decide ((((ba :: a :: b :: c :: l).length:Nat):Int)=3)=false:=decide_eq_false (by simp; omega)
     simp (decide:=true) only [decide_true,decide_false,Bool.or_self,Bool.false_and,cond_false,Option.bind_some,show aa ([1,3,4,4,2,2]:List Int) 1=some 3 from rfl,e1,Bool.not_false,cond_true]; rfl
 by_cases h5:w=bz
 . subst h5
   rw [show kdS bz 6=4 from by decide]
   match r,hw with
   | [x],hw =>
     have g1:aa [bz,x] 1=some x:=rfl
     simp (decide:=true) only [decide_true,decide_false,Bool.or_self,Bool.or_true,Bool.true_or,Bool.false_and,Bool.and_self,Bool.false_or,cond_false,cond_true,Option.bind_some,show aa ([1,3,4,4,2,2]:List Int) 4=some 2 from rfl,List.length_cons,List.length_nil,g1,cT x _ (hw x (by simp))]; rfl
   | [],_=>rfl
   | a :: b :: l,_ =>
     have e1:decide ((((bz :: a :: b :: l).length:Nat):Int)=2)=false:=decide_eq_false (by simp; omega)
     simp (decide:=true) only [decide_true,decide_false,Bool.or_self,Bool.false_and,cond_false,Option.bind_some,show aa ([1,3,4,4,2,2]:List Int) 4=some 2 from rfl,e1,Bool.not_false,cond_true]; rfl
 by_cases h6:w=bv
 . subst h6
   rw [show kdS bv 6=5 from by decide]
   match r,hw with
   | [x],hw =>
     have g1:aa [bv,x] 1=some x:=rfl
     simp (decide:=true) only [decide_true,decide_false,Bool.or_self,Bool.or_true,Bool.true_or,Bool.false_and,Bool.and_self,Bool.and_false,Bool.false_or,cond_false,cond_true,Option.bind_some,show aa ([1,3,4,4,2,2]:List Int) 5=some 2 from rfl,List.length_cons,List.length_nil,g1,cT x _ (hw x (by simp))]; rfl
   | [],_=>rfl
   | a :: b :: l,_ =>
     have e1:decide ((((bv :: a :: b :: l).length:Nat):Int)=2)=false:=decide_eq_false (by simp; omega)
     simp (decide:=true) only [decide_true,decide_false,Bool.or_self,Bool.false_and,cond_false,Option.bind_some,show aa ([1,3,4,4,2,2]:List Int) 5=some 2 from rfl,e1,Bool.not_false,cond_true]; rfl
 by_cases h34:w=aP∨w=aU
 . obtain ⟨k,hk,hkd,h23,hg⟩:∃ k:Int,(w=aP∧k=2∨w=aU∧k=3)∧kdS w 6=k∧(k=2∨k=3)∧aa ([1,3,4,4,2,2]:List Int) k=some 4:=by
     rcases h34 with rfl | rfl
     . exact ⟨2,.inl ⟨rfl,rfl⟩,by decide,.inl rfl,rfl⟩
     . exact ⟨3,.inr ⟨rfl,rfl⟩,by decide,.inr rfl,rfl⟩
   rw [hkd]
   have c0:decide (k < 0)=false:=decide_eq_false (by omega)
   have c1:(decide (k=2)||decide (k=3))=true:=by rcases h23 with rfl | rfl <;> rfl
   have c2:(decide (k=1)||decide (k=2)||decide (k=3)||decide (k=5))=true:=by rcases h23 with rfl | rfl <;> rfl
   have c3:(decide (1≤k)&&decide (k≤4))=true:=by rcases h23 with rfl | rfl <;> rfl
   simp only [c0,cond_false,c1,Bool.true_and]
   have tail:∀ (x y z:Wd) (l:List Wd) (m:Bool),x.length≤1000000→y.length≤1000000→z.length≤1000000→l=[w,x,y,z] →
       (aa ([1,3,4,4,2,2]:List Int) k).bind (fun x1473=>cond (!decide ((((l.length:Nat):Int))=x1473)) (some ((0,0,0,0,false,true,3):Int×Int×Int×Int×Bool×Bool×Int)) ((cond (decide (k=1)||decide (k=2)||decide (k=3)||decide (k=5)) ((aa l 1).bind fun x1520=>(cy x1520 0).bind fun (i1531,i1532)=>some ((i1532,IntKind.wrap .i64 (1 + 1),i1531))) (some ((0,1,0))):Option (Int×Int×Int)).bind fun (i1507,i1508,i1509)=>(cond (decide (1≤k)&&decide (k≤4)) ((aa l i1508).bind fun x1563=>(cy x1563 i1507).bind fun (i1574,i1575)=>some ((i1575,IntKind.wrap .i64 (i1508 + 1),i1574))) (some ((i1507,i1508,0))):Option (Int×Int×Int)).bind fun (i1556,i1557,i1558)=>(cond true ((aa l i1557).bind fun x1605=>(cy x1605 i1556).bind fun (i1616,i1617)=>some ((i1617,i1616))) (some ((i1556,0))):Option (Int×Int)).bind fun (i1599,i1600)=>some ((k,i1509,i1558,i1600,m,true,i1599))))=some ((bD k m x y z).1.1,(bD k m x y z).1.2.1,(bD k m x y z).1.2.2.1,(bD k m x y z).1.2.2.2.1,(bD k m x y z).1.2.2.2.2,true,(bD k m x y z).2):=by
     intro x y z l m hx hy hz e
     subst e
     have g1:aa [w,x,y,z] 1=some x:=rfl
     have g2:aa [w,x,y,z] 2=some y:=rfl
     have g3:aa [w,x,y,z] 3=some z:=rfl
     have gl:(!decide (((([w,x,y,z]:List Wd).length:Nat):Int)=4))=false:=rfl
     simp only [hg,Option.bind_some,gl,cond_false,c2,c3,cond_true,g1,cT x _ hx,show IntKind.wrap .i64 (1 + 1)=2 from rfl,g2,cT y _ hy,show IntKind.wrap .i64 (2 + 1)=3 from rfl,g3,cT z _ hz]; rfl
   have bad:∀ (l:List Wd) (m:Bool) (f:Option (Int×Int×Int×Int×Bool×Bool×Int)),l.length≠4→(aa ([1,3,4,4,2,2]:List Int) k).bind (fun x1473=>cond (!decide ((((l.length:Nat):Int))=x1473)) (some ((0,0,0,0,false,true,3))) f)=some (0,0,0,0,false,true,3):=by
     intro l m f h
     rw [hg,Option.bind_some,decide_eq_false (by omega)]; rfl
   have hsm:∀ x,bC w r=some x→(match bC w r with | some (s,e)=>(s.1,s.2.1,s.2.2.1,s.2.2.2.1,s.2.2.2.2,true,e) | none=>((0,0,0,0,false,false,0):Int×Int×Int×Int×Bool×Bool×Int))=(x.1.1,x.1.2.1,x.1.2.2.1,x.1.2.2.2.1,x.1.2.2.2.2,true,x.2):=fun x hx=>by rw [hx]
   match r,hw,hsm with
   | [x,y,z],hw,hsm =>
     rw [hsm (bD k false x y z) (by rcases hk with ⟨rfl,rfl⟩ | ⟨rfl,rfl⟩ <;> rfl)]
     exact tail x y z _ false (hw x (by simp)) (hw y (by simp)) (hw z (by simp)) rfl
   | [x, y, z, m], hw, hsm =>
     have g4:aa [w,x,y,z,m] 4=some m:=rfl
     have hl5:decide (((([w,x,y,z,m]:List Wd).length:Nat):Int)=5)=true:=rfl
     rw [hl5,cond_true,g4,Option.bind_some]
     by_cases hm:m=be
     . rw [hsm (bD k true x y z) (by subst hm; rcases hk with ⟨rfl,rfl⟩ | ⟨rfl,rfl⟩ <;> rfl),show decide (m=[109,117,116])=true from decide_eq_true hm]
       exact tail x y z _ true (hw x (by simp)) (hw y (by simp)) (hw z (by simp)) rfl
     . rw [hsm (zS,3) (by
         rcases hk with ⟨rfl,rfl⟩ | ⟨rfl,rfl⟩
         . rw [show bC aP [x,y,z,m]=some (if m=be then bD 2 true x y z else (zS,3)) from rfl,if_neg hm]
         . rw [show bC aU [x,y,z,m]=some (if m=be then bD 3 true x y z else (zS,3)) from rfl,if_neg hm]),show decide (m=[109,117,116])=false from decide_eq_false hm]
       exact bad _ false _ (by simp)
   | [],_,hsm =>
     rw [hsm (zS,3) (by rcases hk with ⟨rfl,rfl⟩ | ⟨rfl,rfl⟩ <;> rfl)]; exact bad _ false _ (by simp)
   | [a],_,hsm =>
     rw [hsm (zS,3) (by rcases hk with ⟨rfl,rfl⟩ | ⟨rfl,rfl⟩ <;> rfl)]; exact bad _ false _ (by simp)
   | [a,b],_,hsm =>
     rw [hsm (zS,3) (by rcases hk with ⟨rfl,rfl⟩ | ⟨rfl,rfl⟩ <;> rfl)]; exact bad _ false _ (by simp)
   | a :: b :: c :: d :: f :: l,_,hsm =>
     rw [hsm (zS,3) (by rcases hk with ⟨rfl,rfl⟩ | ⟨rfl,rfl⟩ <;> rfl),decide_eq_false (by simp; omega)]; exact bad _ false _ (by simp)
 . have h3:w≠aP:=fun h=>h34 (.inl h)
   have h4:w≠aU:=fun h=>h34 (.inr h)
   have e0:bC w r=none:=by unfold bC; simp only [h1,h2,h3,h4,h5,h6,if_false]
   have e1:kdS w 6 = -1:=by
     simp only [kdS,nmS,List.getD_cons_succ,List.getD_cons_zero,if_neg (Ne.symm h1),if_neg (Ne.symm h2),if_neg (Ne.symm h3),if_neg (Ne.symm h4),if_neg (Ne.symm h5),if_neg (Ne.symm h6)]
   rw [e0,e1]; rfl
theorem xn (w:Wd) (r:List Wd) (hw:∀ x∈r,x.length≤1000000) (hl:r.length≤1000):∃ t b,dq (w :: r)=some (t.1,t.2.1,t.2.2.1,t.2.2.2.1,t.2.2.2.2.1,t.2.2.2.2.2,b,(tmod w r).2)∧((tmod w r).2=0→t=(tmod w r).1):=by
 have bad:∀ (k:Nat) (a:Int),kdT w 4=((k + 1:Nat):Int)→aa ([0,2,3,1,6]:List Int) ((k + 1:Nat):Int)=some a→(((w :: r).length:Nat):Int)≠a→(tmod w r).2=3→∃ t b,dq (w :: r)=some (t.1,t.2.1,t.2.2.1,t.2.2.2.1,t.2.2.2.2.1,t.2.2.2.2.2,b,(tmod w r).2)∧((tmod w r).2=0→t=(tmod w r).1):=by
   intro k a h1 h2 h3 h4
   refine ⟨zT,true,?_,fun h=>by rw [h4] at h; cases h⟩
   unfold dq
   rw [gF,Option.bind_some,h1,h4,decide_eq_false (show ¬ ((k + 1:Nat):Int)=0 by omega),cond_false,h2,Option.bind_some,decide_eq_false h3,show decide (0 < ((k + 1:Nat):Int))=true from decide_eq_true (by omega)]; rfl
 by_cases h1:w=ca
 . subst h1
   have hk:kdT ca 4=((0 + 1:Nat):Int):=by decide
   match r,hw,hl,bad with
   | [x],hw,hl,_ =>
     refine ⟨(tmod ca [x]).1,true,?_,fun _=>rfl⟩
     unfold dq
     rw [gF,Option.bind_some,hk]
     have g1:aa [ca,x] 1=some x:=rfl
     simp (decide:=true) only [decide_true,decide_false,Bool.or_self,Bool.or_true,Bool.true_or,cond_false,cond_true,Option.bind_some,show ((0 + 1:Nat):Int)=1 from rfl,show aa ([0,2,3,1,6]:List Int) 1=some 2 from rfl,List.length_cons,List.length_nil,Bool.not_true,g1,gh x _ (hw x (by simp))]; rfl
   | [],_,_,bad=>exact bad 0 2 hk rfl (by simp) rfl
   | a :: b :: l,_,_,bad=>exact bad 0 2 hk rfl (by simp; omega) rfl
 by_cases h2:w=kSw
 . subst h2
   have hk:kdT kSw 4=((1 + 1:Nat):Int):=by decide
   match r,hw,hl,bad with
   | [x,y],hw,hl,_ =>
     refine ⟨(tmod kSw [x,y]).1,true,?_,fun _=>rfl⟩
     unfold dq
     rw [gF,Option.bind_some,hk]
     have g1:aa [kSw,x,y] 1=some x:=rfl
     have g2:aa [kSw,x,y] 2=some y:=rfl
     simp (decide:=true) only [decide_true,decide_false,Bool.or_self,Bool.or_true,Bool.true_or,cond_false,cond_true,Option.bind_some,show ((1 + 1:Nat):Int)=2 from rfl,show aa ([0,2,3,1,6]:List Int) 2=some 3 from rfl,List.length_cons,List.length_nil,Bool.not_true,g1,g2,gh x _ (hw x (by simp)),gh y _ (hw y (by simp))]; rfl
   | [],_,_,bad=>exact bad 1 3 hk rfl (by simp) rfl
   | [a],_,_,bad=>exact bad 1 3 hk rfl (by simp) rfl
   | a :: b :: c :: l,_,_,bad=>exact bad 1 3 hk rfl (by simp; omega) rfl
 by_cases h3:w=bZ
 . subst h3
   have hk:kdT bZ 4=((2 + 1:Nat):Int):=by decide
   match r,hw,hl,bad with
   | [],hw,hl,_ =>
     refine ⟨(tmod bZ []).1,true,?_,fun _=>rfl⟩
     unfold dq
     rw [gF,Option.bind_some,hk]; rfl
   | a :: l,_,_,bad=>exact bad 2 1 hk rfl (by simp; omega) rfl
 by_cases h4:w=bn
 . subst h4
   have hk:kdT bn 4=((3 + 1:Nat):Int):=by decide
   match r,hw,hl,bad with
   | [a,b,c,d,f],hw,hl,_ =>
     refine ⟨(tmod bn [a,b,c,d,f]).1,true,?_,fun _=>rfl⟩
     unfold dq
     rw [gF,Option.bind_some,hk]
     have g1:aa [bn,a,b,c,d,f] 1=some a:=rfl
     have g2:aa [bn,a,b,c,d,f] 2=some b:=rfl
     have g3:aa [bn,a,b,c,d,f] 3=some c:=rfl
     have g4:aa [bn,a,b,c,d,f] 4=some d:=rfl
     have g5:aa [bn,a,b,c,d,f] 5=some f:=rfl
     simp (decide:=true) only [decide_true,decide_false,Bool.or_self,Bool.or_true,Bool.true_or,cond_false,cond_true,Option.bind_some,show ((3 + 1:Nat):Int)=4 from rfl,show aa ([0,2,3,1,6]:List Int) 4=some 6 from rfl,List.length_cons,List.length_nil,Bool.not_true,g1,g2,g3,g4,g5,cT a _ (hw a (by simp)),cT b _ (hw b (by simp)),gh c _ (hw c (by simp)),gh d _ (hw d (by simp)),gh f _ (hw f (by simp))]; rfl
   | [],_,_,bad=>exact bad 3 6 hk rfl (by simp) rfl
   | [_],_,_,bad=>exact bad 3 6 hk rfl (by simp) rfl
   | [_,_],_,_,bad=>exact bad 3 6 hk rfl (by simp) rfl
   | [_,_,_],_,_,bad=>exact bad 3 6 hk rfl (by simp) rfl
   | [_,_,_,_],_,_,bad=>exact bad 3 6 hk rfl (by simp) rfl
   | _ :: _ :: _ :: _ :: _ :: _ :: _,_,_,bad=>exact bad 3 6 hk rfl (by simp; omega) rfl
 . have e1:kdT w 4=0:=by
     simp only [kdT,nmT,List.getD_cons_succ,List.getD_cons_zero,if_neg (Ne.symm h1),if_neg (Ne.symm h2),if_neg (Ne.symm h3),if_neg (Ne.symm h4)]
   have e2:tmod w r=(zT,3):=by unfold tmod; simp only [h1,h2,h3,h4,if_false]
   refine ⟨zT,false,?_,fun h=>by rw [e2] at h; cases h⟩
   unfold dq
   rw [gF,Option.bind_some,e1,e2]; rfl
end
section
open Go.RowKit Nu
theorem iu {β:Type} {n:Nat} {body:Int→Option (Int⊕β)} {e:β} (hb:∀ k,k < n→body (k:Int)=some (.inl ((k + 1:Nat):Int))) (he:body (n:Int)=some (.inr e)):loop body 0=some e:=dx (body:=body) (fun k=>(k:Int)) n hb he
theorem o5 (l:List (Int×Int)) (hn:l.length≤1000000000):ic l l=some true:=by
 unfold ic
 rw [gO rfl,cond_false,iu (n:=l.length) (e := .inl ()) (fun k hk=>by unfold lz; simp [aw hk,hk,aH hk (by omega)]) (by simp [lz])]; rfl
theorem pd (l:List (List St)) (hn:l.length≤1000000000) (h:∀ t∈l,t.length≤1000000000):ik l l=some true:=by
 unfold ik
 rw [gO rfl,cond_false,iu (n:=l.length) (e := .inl ()) (fun k hk=>by
   unfold lC
   simp [aw hk,hk,aH hk (by omega),m8 l[k] (by have:=h l[k] (List.getElem_mem hk); omega)]) (by simp [lC])]; rfl
theorem mD (l:List Int) (hn:l.length≤1000000000):eX l l=some true:=by rw [ux l l (by omega)]; simp
structure Fin38 (b:dm):Prop where
 nb:b.2.2.1.length≤1000000
 nl:b.2.2.2.1.length≤1000000
 loc:∀ t∈b.2.2.2.1,t.length≤1000000
 ret:b.2.2.2.2.1.length≤1000000
 ns:b.2.2.2.2.2.1.length≤1000000
 sig:∀ s∈b.2.2.2.2.2.1,s.2.1.length≤1000000∧s.2.2.1.length≤1000000∧(∀ t∈s.2.2.1,t.length≤1000000)∧s.2.2.2.length≤1000000
 nx:b.2.2.2.2.2.2.length≤1000000
 blk:∀ x∈b.2.2.2.2.2.2,x.1.length≤1000000∧x.2.2.2.2.1.length≤1000000∧x.2.2.2.2.2.1.length≤1000000∧x.2.2.2.2.2.2.length≤1000000
theorem vy (b:dm) (h:Fin38 b):il b b=some true:=by
 unfold il
 have h1:=h.nb; have h2:=h.nl; have h3:=h.ret; have h4:=h.ns; have h5:=h.nx
 rw [o5 _ (by omega),pd _ (by omega) (fun t ht=>by have:=h.loc t ht; omega),m8 _ (by omega),gO rfl,gO rfl]
 simp only [decide_true,Bool.not_true,Bool.or_self,cond_false,Option.bind_some]
 rw [iu (n:=b.2.2.2.2.2.1.length) (e := .inl ()) (fun k hk=>by
   have hs:=h.sig b.2.2.2.2.2.1[k] (List.getElem_mem hk)
   unfold lF lI
   simp only [dlt hk,cond_true,aw hk,Option.bind_some,aH hk (by omega)]
   generalize b.2.2.2.2.2.1[k]=s at hs
   simp only [decide_true,cond_true,o5 s.2.1 (by omega),pd s.2.2.1 (by omega) (fun t ht=>by have:=hs.2.2.1 t ht; omega),m8 s.2.2.2 (by omega),Option.bind_some,Bool.not_true,cond_false]) (by simp [lF])]
 simp only [Option.bind_some]
 rw [iu (n:=b.2.2.2.2.2.2.length) (e := .inl ()) (fun k hk=>by
   have hx:=h.blk b.2.2.2.2.2.2[k] (List.getElem_mem hk)
   unfold lE lJ
   simp only [dlt hk,cond_true,aw hk,Option.bind_some,aH hk (by omega)]
   generalize b.2.2.2.2.2.2[k]=x at hx
   simp only [decide_true,cond_true,Bool.and_self,mD x.2.2.2.2.1 (by omega),mD x.2.2.2.2.2.1 (by omega),mD x.2.2.2.2.2.2 (by omega),Option.bind_some,Bool.not_true,cond_false]
   rw [iu (n:=x.1.length) (e := .inl ()) (fun j hj=>by unfold lD; simp [aw hj,hj,aH hj (by omega)]) (by simp [lD])]; rfl) (by simp [lE])]
 rfl
end
section
open Go.RowKit Nu
abbrev la:=Int×Int×List (Int×Int)×List (List St)×List St×List aA×List aC×Int×Bool
def nJ (a:Int):Int:=if a=0 then 0 else if a=1 then 1 else if a=2 then 2 else if a=4 then 4 else 3
def rst (p:PS):la:=(p.1,p.2.1,p.2.2.1,p.2.2.2.1,p.2.2.2.2.1,p.2.2.2.2.2.1,p.2.2.2.2.2.2.1,nJ p.2.2.2.2.2.2.2,decide (p.2.2.2.2.2.2.2=6))
def cw (ws:List Wd) (s:la):Option (Int×la) :=
 match s with
 | (u, n, B, L, R, S, X, got, op) =>
   cond op ((ig ws u n B L R S X got op).bind fun (i6695,i6696,l6697,l6698,l6699,l6700,l6701,i6702,t6703,i6704)=>some ((i6704,i6695,i6696,l6697,l6698,l6699,l6700,l6701,i6702,t6703)))
     ((cond (decide ((((ws.length:Nat):Int))=1)) ((aa ws 0).bind fun x6761=>some (decide (x6761=([98,108,111,99,107]:List UInt8)))) (some (false))).bind fun t6759=>cond (t6759&&(decide (got=3))) ((app X [([],(0,0,0,[],[],[]))]).bind fun z6778=>some ((0,u,n,B,L,R,S,z6778,got,true)))
       (cond (decide (0 < (((X.length:Nat):Int)))) (some ((3,u,n,B,L,R,S,X,got,op))) ((bF ws u n B L R S X got op).bind fun (i6815,i6816,l6817,l6818,l6819,l6820,l6821,i6822,t6823,i6824)=>some ((i6824,i6815,i6816,l6817,l6818,l6819,l6820,l6821,i6822,t6823)))))
def RD (w:Wd) (r:List Wd) (p:PS):Prop:=∃ s1,cw (w :: r) (rst p)=some ((mst w r p).1,s1)∧((mst w r p).1=0→s1=rst (mst w r p).2)
theorem RD.mk' {w:Wd} {r:List Wd} {p:PS} {e:Int} {q:PS} {s1:la} (hm:mst w r p=(e,q)) (hz:cw (w :: r) (rst p)=some (e,s1)) (h:e=0→s1=rst q):RD w r p:=by
 unfold RD; rw [hm]; exact ⟨s1,hz,h⟩
theorem RD.bad {w:Wd} {r:List Wd} {p:PS} (h3:(mst w r p).1=3) (hz:∃ s1,cw (w :: r) (rst p)=some (3,s1)):RD w r p:=by
 obtain ⟨s1,hz⟩:=hz
 exact ⟨s1,by rw [h3]; exact hz,fun h=>by rw [h3] at h; cases h⟩
section
variable {w:Wd} {r:List Wd} {u n:Int} {B:List (Int×Int)} {L:List (List St)} {R:List St} {S:List aA} {X:List aC} {a:Int}
theorem oc:(cond (decide (((((w :: r).length:Nat):Int))=1)) ((aa (w :: r) 0).bind fun x6761=>some (decide (x6761=([98,108,111,99,107]:List UInt8)))) (some (false)))=some (decide (r=[]∧w=aB)):=by
 cases r with
 | nil =>
   by_cases h:w=aB
   . subst h; rfl
   . rw [az,Option.bind_some,show decide (w=([98,108,111,99,107]:List UInt8))=false from decide_eq_false h,decide_eq_false (show ¬ (([]:List Wd)=[]∧w=aB) from fun q=>h q.2)]; rfl
 | cons b l=>rw [decide_eq_false (by simp; omega),decide_eq_false (show ¬ ((b :: l)=[]∧w=aB) from fun q=>by cases q.1)]; rfl
theorem zpH {got:Int} (h:¬ (r=[]∧w=aB)∨got≠3) {u' n' g' e:Int} {B':List (Int×Int)} {L':List (List St)} {R':List St} {S':List aA} {X':List aC} {o':Bool}
   (hh:bF (w :: r) u n B L R S [] got false=some (u',n',B',L',R',S',X',g',o',e)):cw (w :: r) (u,n,B,L,R,S,[],got,false)=some (e,u',n',B',L',R',S',X',g',o'):=by
 unfold cw
 have hc:(decide (r=[]∧w=aB)&&decide (got=3))=false:=by
   rcases h with h | h
   . rw [decide_eq_false h]; rfl
   . rw [decide_eq_false h,Bool.and_false]
 simp only [cond_false,oc,Option.bind_some,hc,hh]; rfl
theorem zpB (hr:r=[]∧w=aB) (hX:X.length≤1000000):cw (w :: r) (u,n,B,L,R,S,X,3,false)=some (0,u,n,B,L,R,S,X++[([],zT)],3,true):=by
 unfold cw
 have ha:app X [(([]:List bJ),((0,0,0,[],[],[]):cg))]=some (X++[([],(0,0,0,[],[],[]))]):=aI (by simp; omega)
 simp only [cond_false,oc,Option.bind_some,decide_eq_true hr,decide_true,Bool.and_self,cond_true,ha]; rfl
variable (hw:∀ x∈r,x.length≤1000000) (hl:r.length≤1000)
include hw hl
theorem rd0:RD w r (u,n,B,L,R,S,[],0):=by
 have hrs:rst (u,n,B,L,R,S,[],0)=(u,n,B,L,R,S,[],0,false):=rfl
 by_cases h1:w=bX
 . subst h1
   have bad:∀ r:List Wd,r.length≠2→(mst bX r (u,n,B,L,R,S,[],0)).1=3→RD bX r (u,n,B,L,R,S,[],0):=fun r h1 h2=>by
     refine RD.bad h2 ⟨(u,n,B,L,R,S,[],0,false),?_⟩
     rw [hrs]
     refine zpH (.inr (by decide)) ?_
     unfold bF
     have e1:decide ((((bX :: r).length:Nat):Int)=3)=false:=decide_eq_false (by rw [List.length_cons]; omega)
     simp (decide:=true) only [az,Option.bind_some,e1,decide_true,decide_false,Bool.and_false,Bool.false_and,cond_false]
   match r,hw,hl with
   | [x,y],hw,hl =>
     refine RD.mk' (e:=(rn y (rn x 0).2).2) rfl (by
       rw [hrs]
       refine zpH (.inr (by decide)) (u':=(rn x 0).1) (n':=(rn y (rn x 0).2).1) (B':=B) (L':=L) (R':=R) (S':=S) (X':=[]) (g':=1) (o':=false) ?_
       unfold bF
       have g1:aa [bX,x,y] 1=some x:=rfl
       have g2:aa [bX,x,y] 2=some y:=rfl
       simp (decide:=true) only [az,Option.bind_some,decide_true,Bool.and_self,List.length_cons,List.length_nil,cond_true,g1,g2,cT x _ (hw x (by simp)),cT y _ (hw y (by simp))]) (fun _=>rfl)
   | [],_,_=>exact bad [] (by simp) rfl
   | [z],_,_=>exact bad [z] (by simp) rfl
   | a :: b :: c :: l,_,_=>exact bad (a :: b :: c :: l) (by simp) rfl
 . refine RD.bad (by unfold mst; simp only [if_true,if_neg h1]) ⟨(u,n,B,L,R,S,[],0,false),?_⟩
   rw [hrs]
   refine zpH (.inr (by decide)) ?_
   unfold bF
   have e1:decide (w=([114,101,103,105,111,110,115]:List UInt8))=false:=decide_eq_false h1
   simp (decide:=true) only [az,Option.bind_some,e1,decide_true,decide_false,Bool.and_false,Bool.false_and,cond_false]
theorem rd1:RD w r (u,n,B,L,R,S,[],1):=by
 have hrs:rst (u,n,B,L,R,S,[],1)=(u,n,B,L,R,S,[],1,false):=rfl
 by_cases h1:w=cN
 . subst h1
   refine RD.mk' (e:=(rps r []).2) rfl (by
     rw [hrs]
     refine zpH (.inr (by decide)) (u':=u) (n':=n) (B':=(rps r []).1) (L':=L) (R':=R) (S':=S) (X':=[]) (g':=2) (o':=false) ?_
     unfold bF
     simp (decide:=true) only [az,Option.bind_some,decide_true,decide_false,Bool.and_self,Bool.false_and,cond_true,cond_false,qj cN r hw hl]) (fun _=>rfl)
 . refine RD.bad (by unfold mst; simp (decide:=true) only [if_true,if_false,if_neg h1]) ⟨(u,n,B,L,R,S,[],1,false),?_⟩
   rw [hrs]
   refine zpH (.inr (by decide)) ?_
   unfold bF
   have e1:decide (w=([98,111,117,110,100,115]:List UInt8))=false:=decide_eq_false h1
   simp (decide:=true) only [az,Option.bind_some,e1,decide_true,decide_false,Bool.and_false,Bool.false_and,cond_false]
theorem rd2 (hL:L.length≤1000000):RD w r (u,n,B,L,R,S,[],2):=by
 have hrs:rst (u,n,B,L,R,S,[],2)=(u,n,B,L,R,S,[],2,false):=rfl
 by_cases h1:w=ce
 . subst h1
   have ha:∀ t:List St,app L [t]=some (L++[t]):=fun t=>aI (by simp; omega)
   have hz:∀ x:List St×Int,dQ (ce :: r)=some x→cw (ce :: r) (rst (u,n,B,L,R,S,[],2))=some (x.2,u,n,B,L++[x.1],R,S,[],2,false):=fun x hx=>by
     rw [hrs]
     refine zpH (.inr (by decide)) ?_
     unfold bF
     simp (decide:=true) only [az,Option.bind_some,decide_true,decide_false,Bool.and_self,Bool.false_and,Bool.and_false,cond_true,cond_false,hx,ha]
   have h1:=nj ce r hw
   match r,hw,hl,hz,h1 with
   | [x],hw,hl,hz,h1=>exact RD.mk' (e:=(pTy x).2) rfl (hz _ h1) (fun _=>rfl)
   | [],_,_,hz,h1=>exact RD.bad rfl ⟨_,hz _ h1⟩
   | a :: b :: l,_,_,hz,h1=>exact RD.bad rfl ⟨_,hz _ h1⟩
 by_cases h2:w=cv
 . subst h2
   have hz:∀ x:List St×Int,dQ (cv :: r)=some x→cw (cv :: r) (rst (u,n,B,L,R,S,[],2))=some (x.2,u,n,B,L,x.1,S,[],3,false):=fun x hx=>by
     rw [hrs]
     refine zpH (.inr (by decide)) ?_
     unfold bF
     simp (decide:=true) only [az,Option.bind_some,decide_true,decide_false,Bool.and_self,Bool.false_and,Bool.and_false,cond_true,cond_false,hx]
   have h1:=nj cv r hw
   match r,hw,hl,hz,h1 with
   | [x],hw,hl,hz,h1=>exact RD.mk' (e:=(pTy x).2) rfl (hz _ h1) (fun _=>rfl)
   | [],_,_,hz,h1=>exact RD.bad rfl ⟨_,hz _ h1⟩
   | a :: b :: l,_,_,hz,h1=>exact RD.bad rfl ⟨_,hz _ h1⟩
 . refine RD.bad (by unfold mst; simp (decide:=true) only [if_true,if_false,if_neg h1,if_neg h2]) ⟨(u,n,B,L,R,S,[],2,false),?_⟩
   rw [hrs]
   refine zpH (.inr (by decide)) ?_
   unfold bF
   have e1:decide (w=([108,111,99,97,108]:List UInt8))=false:=decide_eq_false h1
   have e2:decide (w=([103,105,118,101,115]:List UInt8))=false:=decide_eq_false h2
   simp (decide:=true) only [az,Option.bind_some,e1,e2,decide_true,decide_false,Bool.and_false,Bool.false_and,cond_false]
theorem rd4 (hS:S≠[]) (hn:S.length≤1000000):RD w r (u,n,B,L,R,S,[],4):=by
 have hrs:rst (u,n,B,L,R,S,[],4)=(u,n,B,L,R,S,[],4,false):=rfl
 by_cases h1:w=cE
 . subst h1
   obtain ⟨S0,s,rfl⟩:=bT hS
   rw [List.length_append,List.length_singleton] at hn
   have hm:mst cE r (u,n,B,L,R,S0++[s],[],4)=((rps r []).2,(u,n,B,L,R,S0++[(s.1,(rps r []).1,s.2.2.1,s.2.2.2)],[],5)):=by
     unfold mst; simp (decide:=true) only [if_true,if_false,or_self,f7]
   refine RD.mk' hm (by
     rw [hrs]
     refine zpH (.inr (by decide)) (u':=u) (n':=n) (B':=B) (L':=L) (R':=R) (S':=S0++[(s.1,(rps r []).1,s.2.2.1,s.2.2.2)]) (X':=[]) (g':=3) (o':=false) ?_
     unfold bF
     simp (decide:=true) only [az,Option.bind_some,decide_true,decide_false,Bool.and_self,Bool.false_and,Bool.and_false,cond_true,cond_false,qj cE r hw hl,cL S0 s (by omega),cM,cH,Int.toNat_natCast,cK]) (fun _=>rfl)
 . refine RD.bad (by unfold mst; simp (decide:=true) only [if_true,if_false,if_neg h1,or_self]) ⟨(u,n,B,L,R,S,[],4,false),?_⟩
   rw [hrs]
   refine zpH (.inr (by decide)) ?_
   unfold bF
   have e1:decide (w=([110,101,101,100,115]:List UInt8))=false:=decide_eq_false h1
   simp (decide:=true) only [az,Option.bind_some,e1,decide_true,decide_false,Bool.and_false,Bool.false_and,cond_false]
theorem sN (ha:a=3∧S=[]∨a=5∧S≠[]) (hn:S.length≤1000000) (hA:∀ s∈S,s.2.2.1.length≤1000000):RD w r (u,n,B,L,R,S,[],a):=by
 have hrs:rst (u,n,B,L,R,S,[],a)=(u,n,B,L,R,S,[],3,false):=by rcases ha with ⟨rfl,_⟩ | ⟨rfl,_⟩ <;> rfl
 have h35:a=3∨a=5:=by omega
 have n0:a≠0:=by omega
 have n1:a≠1:=by omega
 have n2:a≠2:=by omega
 by_cases h1:w=aK
 . subst h1
   have hnb:∀ r:List Wd,¬ (r=[]∧aK=aB):=fun r h=>absurd h.2 (by decide)
   have bad:∀ r:List Wd,r.length≠2→(mst aK r (u,n,B,L,R,S,[],a)).1=3→RD aK r (u,n,B,L,R,S,[],a):=fun r h1 h2=>by
     refine RD.bad h2 ⟨(u,n,B,L,R,S,[],3,false),?_⟩
     rw [hrs]
     refine zpH (.inl (hnb r)) ?_
     unfold bF
     have e1:decide ((((aK :: r).length:Nat):Int)=3)=false:=decide_eq_false (by rw [List.length_cons]; omega)
     simp (decide:=true) only [az,Option.bind_some,e1,decide_true,decide_false,Bool.and_false,Bool.false_and,cond_false]
   match r,hw,hl with
   | [x, y], hw, hl =>
     have hm:mst aK [x,y] (u,n,B,L,R,S,[],a)=((rt y (rn x 0).2).2,(u,n,B,L,R,S++[((rn x 0).1,[],[],(rt y (rn x 0).2).1)],[],4)):=by rcases h35 with rfl | rfl <;> rfl
     have hap:∀ t,app S [((rn x 0).1,([]:List (Int×Int)),([]:List (List St)),t)]=some (S++[((rn x 0).1,[],[],t)]):=fun t=>aI (by simp; omega)
     have he:(rt y (rn x 0).2).2=(if (rn x 0).2=0 then (pTy y).2 else (rn x 0).2):=by unfold rt; split <;> rfl
     refine RD.mk' hm (s1:=(u,n,B,L,R,S++[((rn x 0).1,[],[],(pTy y).1)],[],4,false)) (by
       rw [hrs]
       refine zpH (.inl (hnb _)) ?_
       unfold bF
       have g1:aa [aK,x,y] 1=some x:=rfl
       have g2:aa [aK,x,y] 2=some y:=rfl
       simp (decide:=true) only [az,Option.bind_some,decide_true,decide_false,Bool.and_self,Bool.false_and,Bool.and_false,List.length_cons,List.length_nil,cond_true,cond_false,g1,g2,cT x _ (hw x (by simp)),qg y (hw y (by simp)),hap]
       rw [he]
       by_cases h0:(rn x 0).2=0
       . rw [decide_eq_true h0,if_pos h0]; rfl
       . rw [decide_eq_false h0,if_neg h0]; rfl) (fun h=>by
         rw [he] at h
         by_cases h0:(rn x 0).2=0
         . unfold rt; rw [if_pos h0]; rfl
         . rw [if_neg h0] at h; exact absurd h h0)
   | [],_,_=>exact bad [] (by simp) (by rcases h35 with rfl | rfl <;> rfl)
   | [z],_,_=>exact bad [z] (by simp) (by rcases h35 with rfl | rfl <;> rfl)
   | z :: z2 :: z3 :: l,_,_=>exact bad (z :: z2 :: z3 :: l) (by simp) (by rcases h35 with rfl | rfl <;> rfl)
 by_cases h2:w=aB
 . subst h2
   match r,hw,hl with
   | [],hw,hl =>
     have hm:mst aB [] (u,n,B,L,R,S,[],a)=(0,(u,n,B,L,R,S,[]++[([],zT)],6)):=by rcases h35 with rfl | rfl <;> rfl
     exact RD.mk' hm (by rw [hrs]; exact zpB ⟨rfl,rfl⟩ (by simp)) (fun _=>rfl)
   | z :: l,_,_ =>
     refine RD.bad (by rcases h35 with rfl | rfl <;> rfl) ⟨(u,n,B,L,R,S,[],3,false),?_⟩
     rw [hrs]
     refine zpH (.inl fun h=>by cases h.1) ?_
     unfold bF
     simp (decide:=true) only [az,Option.bind_some,decide_true,decide_false,Bool.and_false,Bool.false_and,cond_false]
 have hnb:¬ (r=[]∧w=aB):=fun h=>h2 h.2
 have e1:decide (w=([115,105,103]:List UInt8))=false:=decide_eq_false h1
 have out:(mst w r (u,n,B,L,R,S,[],a)).1=3→(decide (w=([97,114,103]:List UInt8))=false∨S=[])→RD w r (u,n,B,L,R,S,[],a):=fun h3 h4=>by
   refine RD.bad h3 ⟨(u,n,B,L,R,S,[],3,false),?_⟩
   rw [hrs]
   refine zpH (.inl hnb) ?_
   unfold bF
   rcases h4 with h4 | rfl
   . simp (decide:=true) only [az,Option.bind_some,e1,h4,decide_true,decide_false,Bool.and_false,Bool.false_and,cond_false]
   . have e2:decide ((0:Int)≤IntKind.wrap .i64 (((([]:List aA).length:Nat):Int) - 1))=false:=by decide
     simp (decide:=true) only [az,Option.bind_some,e1,e2,decide_true,decide_false,Bool.and_false,Bool.false_and,cond_false]
 by_cases h3:w=bY
 . rcases ha with ⟨rfl,hS⟩ | ⟨rfl,hS⟩
   . exact out (by unfold mst; simp (decide:=true) only [if_true,if_false,if_neg h1,if_neg h2,and_false,true_or]) (.inr hS)
   . subst h3
     obtain ⟨S0,s,rfl⟩:=bT hS
     rw [List.length_append,List.length_singleton] at hn
     have hs:=hA s (by simp)
     have ha:∀ t:List St,app s.2.2.1 [t]=some (s.2.2.1++[t]):=fun t=>aI (by simp; omega)
     have hz:∀ x:List St×Int,dQ (bY :: r)=some x→cw (bY :: r) (rst (u,n,B,L,R,S0++[s],[],5))=some (x.2,u,n,B,L,R,S0++[(s.1,s.2.1,s.2.2.1++[x.1],s.2.2.2)],[],3,false):=fun x hx=>by
       rw [hrs]
       refine zpH (.inl hnb) ?_
       unfold bF
       have e4:decide ((0:Int)≤((S0.length:Nat):Int))=true:=decide_eq_true (by omega)
       simp (decide:=true) only [az,Option.bind_some,decide_true,decide_false,Bool.and_self,Bool.false_and,Bool.and_false,cond_true,cond_false,cL S0 s (by omega),e4,hx,cM,cH,ha,Int.toNat_natCast,cK,fp]
     have h1:=nj bY r hw
     have m3:∀ r:List Wd,mst bY r (u,n,B,L,R,S0++[s],[],5)=(match r with | [x]=>((pTy x).2,(u,n,B,L,R,S0++[(s.1,s.2.1,s.2.2.1++[(pTy x).1],s.2.2.2)],[],5)) | _=>(3,(u,n,B,L,R,S0++[s],[],5))):=fun r=>by
       unfold mst
       simp (decide:=true) only [if_true,if_false,or_true,and_true,f7]
       all_goals (cases r with
       | nil=>rfl
       | cons _ l=>cases l <;> rfl)
     match r,hw,hl,hz,h1 with
     | [x],hw,hl,hz,h1=>exact RD.mk' (m3 [x]) (hz _ h1) (fun _=>rfl)
     | [],_,_,hz,h1=>exact RD.bad (by rw [m3]) ⟨_,hz _ h1⟩
     | z :: z2 :: l,_,_,hz,h1=>exact RD.bad (by rw [m3]) ⟨_,hz _ h1⟩
 . refine out ?_ (.inl (decide_eq_false h3))
   unfold mst
   simp only [if_neg n0,if_neg n1,if_neg n2,if_pos h35,if_neg h1,if_neg h2,h3,false_and,if_false]
theorem rd7 (hX:X≠[]) (hn:X.length≤1000000):RD w r (u,n,B,L,R,S,X,7):=by
 have hrs:rst (u,n,B,L,R,S,X,7)=(u,n,B,L,R,S,X,3,false):=rfl
 by_cases h:r=[]∧w=aB
 . obtain ⟨rfl,rfl⟩:=h
   exact RD.mk' (e:=0) rfl (by rw [hrs]; exact zpB ⟨rfl,rfl⟩ hn) (fun _=>rfl)
 . refine RD.bad ?_ ⟨(u,n,B,L,R,S,X,3,false),?_⟩
   . unfold mst
     simp (decide:=true) only [if_true,if_false,or_self]
     by_cases h1:w=aB
     . rw [if_pos h1]
       cases r with
       | nil=>exact absurd ⟨rfl,h1⟩ h
       | cons a l=>rfl
     . rw [if_neg h1]
   . rw [hrs]
     unfold cw
     have hx:decide ((0:Int) < ((X.length:Nat):Int))=true:=decide_eq_true (by have:=List.length_pos_iff.2 hX; omega)
     simp only [cond_false,oc,Option.bind_some,decide_eq_false h,Bool.false_and,hx,cond_true]
theorem rd6 (hX:X≠[]) (hn:X.length≤1000000) (hB:∀ x∈X,x.1.length≤1000000):RD w r (u,n,B,L,R,S,X,6):=by
 have hrs:rst (u,n,B,L,R,S,X,6)=(u,n,B,L,R,S,X,3,true):=rfl
 obtain ⟨X0,b,rfl⟩:=bT hX
 rw [List.length_append,List.length_singleton] at hn
 have hb:=hB b (by simp)
 have h1:=xu w r hw hl
 cases hs:bC w r with
 | some q =>
   obtain ⟨s,e⟩:=q
   have hm:mst w r (u,n,B,L,R,S,X0++[b],6)=(e,(u,n,B,L,R,S,X0++[(b.1++[s],b.2)],6)):=by
     unfold mst
     simp (decide:=true) only [if_false,if_true,hs,gf]
   have ha:app b.1 [(s.1,s.2.1,s.2.2.1,s.2.2.2.1,s.2.2.2.2)]=some (b.1++[s]):=aI (by simp; omega)
   rw [hs] at h1
   refine RD.mk' hm (s1:=(u,n,B,L,R,S,X0++[(b.1++[s],b.2)],3,true)) ?_ (fun _=>rfl)
   rw [hrs]
   unfold cw ig
   simp only [cond_true,h1,Option.bind_some,cL X0 b (by omega),cM,cH,ha,Int.toNat_natCast,cK,fp]
 | none =>
   obtain ⟨t,bb,h2,h3⟩:=xn w r hw hl
   have hm:mst w r (u,n,B,L,R,S,X0++[b],6)=((tmod w r).2,(u,n,B,L,R,S,X0++[(b.1,(tmod w r).1)],7)):=by
     unfold mst
     simp (decide:=true) only [if_false,if_true,hs,gf]
   rw [hs] at h1
   refine RD.mk' hm (s1:=(u,n,B,L,R,S,X0++[(b.1,t)],3,false)) ?_ (fun h=>by rw [h3 h]; rfl)
   rw [hrs]
   unfold cw ig
   simp only [cond_true,h1,Option.bind_some,cond_false,h2,cL X0 b (by omega),cM,cH,Int.toNat_natCast,cK]
end
theorem xD {w:Wd} {r:List Wd} {p:PS} {k:Nat} (hi:Iv p k) (hk:k≤100000) (hw:∀ x∈r,x.length≤1000000) (hl:r.length≤1000):RD w r p:=by
 obtain ⟨u,n,B,L,R,S,X,a⟩:=p
 obtain ⟨⟨a0,a1⟩,hs0,hx0,hs1,hx1,nb,nl,hloc,hret,ns,hsig,nx,hblk⟩:=hi
 dsimp only at *
 have ha:a=0∨a=1∨a=2∨a=3∨a=4∨a=5∨a=6∨a=7:=by omega
 have hB:∀ x∈X,x.1.length≤1000000:=fun x hx=>by have:=(hblk x hx).1; omega
 have hA:∀ s∈S,s.2.2.1.length≤1000000:=fun s hs=>by have:=(hsig s hs).2.1; omega
 by_cases h5:a≤5
 . obtain rfl:=hx0 h5
   rcases ha with rfl | rfl | rfl | rfl | rfl | rfl | rfl | rfl
   . exact rd0 hw hl
   . exact rd1 hw hl
   . exact rd2 hw hl (by omega)
   . exact sN hw hl (.inl ⟨rfl,hs0 (by omega)⟩) (by omega) hA
   . exact rd4 hw hl (hs1 (by omega)) (by omega)
   . exact sN hw hl (.inr ⟨rfl,hs1 (by omega)⟩) (by omega) hA
   . omega
   . omega
 . by_cases h6:a=6
   . subst h6; exact rd6 hw hl (hx1 (by omega)) (by omega) hB
   . obtain rfl:a=7:=by omega
     exact rd7 hw hl (hx1 (by omega)) (by omega)
theorem sh (w:Wd) (r:List Wd) (hz:w≠[]):(cond (decide (((((w :: r).length:Nat):Int))=0)) (some (true)) ((aa (w :: r) 0).bind fun x6434=>(aa x6434 0).bind fun x6441=>some (decide ((((x6441.toNat:Nat):Int))=35))))=some (bP (w :: r)):=by
 cases w with
 | nil=>exact absurd rfl hz
 | cons c w =>
   rw [decide_eq_false (by rw [List.length_cons]; omega),az,Option.bind_some,az]
   show some _=some _
   unfold bP
   by_cases h:c=35
   . subst h; rfl
   . have:=nS h
     simp only [List.head?_cons,Option.some.injEq,h,decide_false]
     exact decide_eq_false (show ¬ ((c.toNat:Nat):Int)=35 from this)
theorem xM (ls:List Wd) (hls:ls.length≤10000) (hl:∀ l∈ls,l.length≤800):∀ (m k:Nat) (p:PS),k + m=ls.length→Iv p k →
   ∃ o,loop (ek ls) ((k:Int),rst p)=some o∧((∃ r,o = .inr r∧cC (ls.drop k) p k=r)∨∃ p',o = .inl (rst p')∧(0≤p'.2.2.2.2.2.2.2∧p'.2.2.2.2.2.2.2≤7)∧cC (ls.drop k) p k=di p'):=by
 intro m
 induction m with
 | zero =>
   intro k p hk hi
   refine ⟨.inl (rst p),aR ?_,.inr ⟨p,rfl,hi.a0,?_⟩⟩
   . unfold ek rst
     simp only [dge (show ¬ k < ls.length by omega),cond_false]
   . rw [List.drop_eq_nil_of_le (by omega)]; rfl
 | succ m ih =>
   intro k p hk hi
   have hk':k < ls.length:=by omega
   have hlk:=hl _ (List.getElem_mem hk')
   obtain ⟨w1,w2⟩:=mJ hlk
   rw [List.drop_eq_getElem_cons hk']
   have hW:=xd ls[k] (by omega)
   have wk':IntKind.wrap .i64 ((k:Int) + 1)=((k + 1:Nat):Int):=aH hk' (by omega)
   unfold cC
   by_cases hs:bP (wds ls[k])=true
   . rw [if_pos hs]
     have hb:ek ls ((k:Int),rst p)=some (.inl (((k + 1:Nat):Int),rst p)):=by
       unfold ek rst
       simp only [dlt hk',cond_true,aw hk',Option.bind_some,hW,wk']
       cases hwd:wds ls[k] with
       | nil=>rfl
       | cons w r =>
         have hne:w≠[]:=by
           have:w∈wds ls[k]:=by rw [hwd]; simp
           have:=(List.mem_filter.1 this).2
           simpa using this
         rw [hwd] at hs
         rw [sh w r hne,hs]; rfl
     rw [bM hb]
     exact ih (k + 1) p (by omega) hi.up
   . rw [if_neg hs]
     obtain ⟨w,r,hwd⟩:=lZ hs
     have hne:w≠[]:=by
       have:w∈wds ls[k]:=by rw [hwd]; simp
       have:=(List.mem_filter.1 this).2
       simpa using this
     rw [hwd] at w1 w2 hs
     rw [List.length_cons] at w1
     obtain ⟨s1,h1,h2⟩:=xD (w:=w) (r:=r) hi (by omega) (fun x hx=>by have:=w2 x (by simp [hx]); omega) (by omega)
     have hb:ek ls ((k:Int),rst p)=some (if (mst w r p).1=0 then .inl (((k + 1:Nat):Int),s1) else .inr (.inr (0,0,[],[],[],[],[],((k + 1:Nat):Int),(mst w r p).1))):=by
       unfold ek
       have hz:cw (w :: r) (p.1,p.2.1,p.2.2.1,p.2.2.2.1,p.2.2.2.2.1,p.2.2.2.2.2.1,p.2.2.2.2.2.2.1,nJ p.2.2.2.2.2.2.2,decide (p.2.2.2.2.2.2.2=6))=some ((mst w r p).1,s1):=h1
       unfold cw at hz
       unfold rst
       simp only [dlt hk',cond_true,aw hk',Option.bind_some,hW,wk',hwd]
       rw [sh w r hne,Bool.eq_false_iff.2 hs]
       simp only [Option.bind_some,cond_false]
       refine (congrArg (Option.bind · _) hz).trans ?_
       simp only [Option.bind_some]
       by_cases h0:(mst w r p).1=0
       . simp only [h0,decide_true,Bool.not_true,cond_false,if_true]
       . simp only [h0,decide_false,Bool.not_false,cond_true,if_false]
     rw [hwd]
     rw [show jd (w :: r) p=mst w r p from rfl]
     by_cases h0:(mst w r p).1=0
     . rw [if_pos h0] at hb
       rw [bM hb,h2 h0]
       simp only [if_pos h0]
       exact ih (k + 1) _ (by omega) (hi.next (fun x hx=>by have:=w2 x (by simp [hx]); omega) (by omega) h0)
     . rw [if_neg h0] at hb
       simp only [if_neg h0]
       exact ⟨_,aR hb,.inl ⟨_,rfl,rfl⟩⟩
theorem u9 (s:Wd) (hn:s.length≤800):jK s=some (cC (ae 10 s) (0,0,[],[],[],[],[],0) 0):=by
 unfold jK
 have hp:=cP 10 s
 rw [decide_eq_false (by omega),cond_false,show dP s 10=_ from mW s 10 (by omega),Option.bind_some]
 obtain ⟨o,h1,h2⟩:=xM (ae 10 s) (by omega) (fY 10 800 s hn) (ae 10 s).length 0 (0,0,[],[],[],[],[],0) (by omega) Iv.zero
 rw [List.drop_zero] at h2
 rw [show loop (ek (ae 10 s)) (0,0,0,[],[],[],[],[],0,false)=some o from h1]
 rcases h2 with ⟨r,rfl,h2⟩ | ⟨p,rfl,ha,h2⟩
 . rw [show cC (ae 10 s) (0,0,[],[],[],[],[],0) 0=r from h2]; rfl
 . rw [show cC (ae 10 s) (0,0,[],[],[],[],[],0) 0=di p from h2]
   unfold rst di nJ
   generalize p.2.2.2.2.2.2.2=a at ha
   have h8:a=0∨a=1∨a=2∨a=3∨a=4∨a=5∨a=6∨a=7:=by omega
   rcases h8 with rfl | rfl | rfl | rfl | rfl | rfl | rfl | rfl <;> rfl
theorem mT:∀ (ls:List Wd) (p:PS) (k:Nat) (n:Int),Iv p k→k + ls.length≤100000→(∀ l∈ls,l.length≤800)→Fin38 (bdy (cC ls p n))
 | [], p, k, n, hi, hk, _ => by
   unfold cC di
   split
   . obtain ⟨_,_,_,_,_,nb,nl,hloc,hret,ns,hsig,nx,hblk⟩:=hi
     exact ⟨by show p.2.2.1.length≤_; omega,by show p.2.2.2.1.length≤_; simp at hk; omega,fun t ht=>by have:=hloc t ht; omega,by show p.2.2.2.2.1.length≤_; omega,by show p.2.2.2.2.2.1.length≤_; simp at hk; omega,fun s hs=>by
       obtain ⟨q1,q2,q3,q4⟩:=hsig s hs
       simp at hk
       exact ⟨by omega,by omega,fun t ht=>by have:=q3 t ht; omega,by omega⟩,by show p.2.2.2.2.2.2.1.length≤_; simp at hk; omega,fun x hx=>by
       obtain ⟨q1,q2,q3,q4⟩:=hblk x hx
       simp at hk
       exact ⟨by omega,by omega,by omega,by omega⟩⟩
   . exact ⟨by simp [bdy],by simp [bdy],by simp [bdy],by simp [bdy],by simp [bdy],by simp [bdy],by simp [bdy],by simp [bdy]⟩
 | l :: ls,p,k,n,hi,hk,hl=>by
   rw [List.length_cons] at hk
   have hls:=fun x hx=>hl x (List.mem_cons_of_mem l hx)
   obtain ⟨w1,w2⟩:=mJ (hl l (by simp))
   unfold cC
   by_cases hs:bP (wds l)=true
   . rw [if_pos hs]; exact mT ls p (k + 1) (n + 1) hi.up (by omega) hls
   . rw [if_neg hs]
     obtain ⟨w,r,e⟩:=lZ hs
     rw [e] at w1 w2 ⊢
     rw [List.length_cons] at w1
     rw [show jd (w :: r) p=mst w r p from rfl]
     by_cases h0:(mst w r p).1=0
     . rw [if_pos h0]
       exact mT ls _ (k + 1) (n + 1) (hi.next (fun x hx=>by have:=w2 x (by simp [hx]); omega) (by omega) h0) (by omega) hls
     . rw [if_neg h0]
       exact ⟨by simp [bdy],by simp [bdy],by simp [bdy],by simp [bdy],by simp [bdy],by simp [bdy],by simp [bdy],by simp [bdy]⟩
theorem td (xa:(List UInt8)) (k0:Tp.Ok .str xa):lx xa=some true:=by
 unfold lx
 rw [vu]
 by_cases hn:xa.length≤800
 . have hp:=cP 10 xa
   have hm:=ma (ae 10 xa) (0,0,[],[],[],[],[],0) 0 0 Iv.zero (by omega) (fY 10 800 xa hn)
   have hf:=mT (ae 10 xa) (0,0,[],[],[],[],[],0) 0 0 Iv.zero (by omega) (fY 10 800 xa hn)
   have h1:=qD xa _ (by omega) hm
   have h2:=u9 xa hn
   generalize cC (ae 10 xa) (0,0,[],[],[],[],[],0) 0=r at h1 h2 hf
   obtain ⟨u,n,B,L,R,S,X,x,y⟩:=r
   have h3:=vy (u,n,B,L,R,S,X) hf
   rw [decide_eq_false (by omega),cond_false,h1,h2]
   simp only [Option.bind_some]
   rw [show il (u,n,B,L,R,S,X) (u,n,B,L,R,S,X)=some true from h3]
   simp
 . rw [decide_eq_true (by omega)]; rfl
end
open Go.RowKit
theorem tf {H:Type} (enc:TypeId×Value→H) (W:World) (base:Nat) {v0:Value} {d0:DataW H} {p0:List MemPlace}
   (h0:DataW.Trod enc Tryd.prog W 0 (fun _=>true) true 9 v0 d0 p0)
   (o0:Value.okWide Tryd.prog W .any base 9 v0)
   (hso:W.ShapedOpen Tryd.prog) :
   Calls Tryd.prog 4 #[v0] W fun e W'=>e = .returned (.bool true)∧Below W.heap.size W W':=by
 obtain ⟨xa,i0,k0⟩:=Tp.arg .str (by kernel_rfl) o0 h0
 exact xV (s:=ou) (x:=xa) (args:=[v0]) sU (td xa k0) (Gk.of hso) rfl rfl ⟨_,_,rfl,rN _ i0,rfl⟩
end
end Go.Proofs.YteciehjlefldmaaDoor
namespace Go.Proofs.YteciehjlefldmaaDoor.textParsesFrame
set_option maxRecDepth 40000
open Go.ChangeShapes Go.WideShapes Go.ChangeAt Go.RowKit
theorem own:ownKnob Tryd.prog.godebug=none:=by kernel_rfl
theorem uV (H:Type) (enc:TypeId×Value→H) (W:World) (base:Nat) (args:Array Value) (ds gs:List (DataW H)) (before:List MemPlace)
    (hval:∀ (j:Nat) t v,Tryd.f4.params[j]? = some t→args[j]? = some v→Value.okWide Tryd.prog W .any base t v)
    (hW:DataW.Whole enc Tryd.prog Tryd.f4.params.toList Rows.textParsesSpec.vars false W args.toList ds gs before) (hso:W.ShapedOpen Tryd.prog) :
    Calls Tryd.prog 4 args W fun e W'=>∃ v,e = .returned v∧Rows.textParsesSpec.post enc Tryd.prog Tryd.f4 false true false false W args v W':=by
  have hW':=hW
  obtain ⟨p,q,hA0,hV,rfl,hfz,hnd⟩:=hW
  have hA:DataW.TrodAll enc Tryd.prog W 0 (fun _=>true) true Tryd.f4.params.toList args.toList ds p:=hA0
  rw [Tryd.params4] at hA hval
  obtain ⟨v0,vs0,d0,ds0,p0,q0,hargs,rfl,rfl,h0,r0⟩:=trodAll_cons hA
  obtain ⟨rfl,rfl,rfl⟩:=trodAll_nil r0
  obtain rfl:args = #[v0]:=by cases args; simp_all
  refine (tf enc W base h0 (hval 0 _ v0 rfl rfl) hso).mono fun e W' ⟨he,hb⟩=>?_
  subst he
  exact ⟨_,rfl,vo (tb:=_) rfl hW' rfl rfl (by kernel_rfl) (by kernel_rfl) (of_decide_eq_true (by kernel_rfl)) hb⟩
noncomputable def gE (os:Os):World:=World.laidAll Tryd.prog os Rows.textParsesRow.laid
theorem rU (os:Os) {H:Type} (enc:TypeId×Value→H):∃ x,DataW.whole enc Tryd.prog ((gE os).forCall (fun _ _=>0) ⟨#[],#[.string ⟨#[]⟩],[]⟩).memory Tryd.f4.params.toList Rows.textParsesSpec.vars false (#[.string ⟨#[]⟩]:Array Value).toList 8=some x :=
  Option.isSome_iff_exists.1 (by kernel_rfl)
set_option maxRecDepth 100000 in
theorem xh (os:Os) (started:os.Started) (H:Type) (enc:TypeId×Value→H) (F:Stop.Interp) :
    ReturnsInHanded {} Tryd.checked os 4 .any ((OpenSpec.ofChange Rows.textParsesSpec).preRow enc Tryd.prog Tryd.f4 Rows.textParsesRow.domain false Rows.textParsesRow.laid) (((OpenSpec.ofChange Rows.textParsesSpec).at F).post enc Tryd.prog Tryd.f4 false true false false):=by
  obtain ⟨x,hx⟩:=rU os enc
  refine returnsInHanded_of_row (C:=Tryd.checked) (s:=OpenSpec.ofChange Rows.textParsesSpec) own started (by kernel_rfl) Tryd.func4
    ⟨gE os,fun _ _=>0,⟨#[],#[.string ⟨#[]⟩],[]⟩,World.laidAll_os _ _ _,World.shaped_of_ZipB (by kernel_rfl) (by kernel_rfl),rfl,(Input.okWide_of_okWideB (by kernel_rfl)).2,
      OpenSpec.preRow_of_cond 8 hx (by kernel_rfl) (fun k hk=>by cases hk) (by kernel_rfl) (by rw [MakeChecks.laidMetH_plain _ _ _ (by kernel_rfl)]; exact laidMet_laidAll _ (by kernel_rfl) (by kernel_rfl)),
      by simp only [Assume.holds]; exact ⟨by simp,by simp,by simp,by simp,by simp⟩⟩ ?_
  intro W base args ds gs before hval hW _ _ _ hL hso _
  exact uV H enc W base args ds gs before hval hW hso
theorem xx:Rows.TextParsesSaid :=
  OpenClaim.holds_of_cond 4 Tryd.f4 rfl rfl rfl rfl rfl rfl rfl ⟨rfl,rfl,rfl,rfl,rfl⟩ rfl rfl rfl rfl rfl (by kernel_rfl) Tryd.func4 (by kernel_rfl)
    (of_decide_eq_true (by kernel_rfl)) (by unfold Func.isWrapper; first | (rw [if_pos (by decide +kernel)]; kernel_rfl) | (rw [if_neg (by decide +kernel)]; exact ⟨rfl,rfl⟩))
    (fun os started H enc _ F=>by rw [OpenClaim.pre_eq_preRow]; exact xh os started H enc F)
theorem card:Rows.TextParsesCardSaid :=
  Claim7.holds_tied_plain_at .later [] [.data, .pinned] true (true, "630f3b267723d0ada23b81ff408f50557b238f71edaab69adca131efa6b114fb") false xx (fun _ h => by cases h) (by kernel_rfl) (fun _ h => by cases h) textParses_row_tie rfl ⟨rfl, rfl⟩ (by kernel_rfl) rfl
    (fun f fn hf hfn=>by
      obtain rfl : f = 4 := Option.some.inj ((show Tryd.prog.funcNamed "easement/easementlaw38.TextParses" = some 4 by kernel_rfl).symm.trans hf) |>.symm
      obtain rfl:fn=Tryd.f4:=(Option.some.inj (Tryd.func4.symm.trans hfn)).symm
      exact ⟨by kernel_rfl,fun j t ht=>by
        rw [Tryd.params4] at ht
        have hm:t∈[9]:=by simpa using Array.mem_of_getElem? ht
        have hall:([9].all fun u=>!Tryd.prog.wantsStandIn u)=true:=by kernel_rfl
        exact (show Tryd.prog.wantsStandIn t=false by simpa using List.all_eq_true.1 hall t hm)⟩)
    (by kernel_rfl)
end Go.Proofs.YteciehjlefldmaaDoor.textParsesFrame
