/- A part of the proof: what lies ahead of the law. Nothing is claimed here. -/
import Derived.Test.YtcocmnheohgndaaGreatZ5
open Bool renaming and_assoc → aM0, and_eq_true → Q0, and_false → V7, and_self → M7, false_and → N7, false_eq_true → N2, false_or → aW0, not_eq_true' → U9, not_false → Q6, not_not → bf0, not_true → Y0, or_eq_false_iff → O7, or_eq_true → bP0, or_self → Q8, true_and → L7, true_or → be0
open Int renaming eq_ofNat_of_zero_le → X0, tdiv → ag0, tdiv_eq_ediv_of_nonneg → M9, tmod → ar0, tmod_eq_emod_of_nonneg → aG0, toNat_natCast → O1, toNat_zero → aK0
open List renaming any_eq_false → V3, any_eq_true → L6, append_assoc → O0, append_eq_nil_iff → ba0, append_nil → P1, cons_append → L4, drop_drop → K4, drop_eq_getElem_cons → N8, drop_left → P5, drop_zero → X2, find?_cons → bN0, find?_eq_none → aq0, findIdx?_eq_none_iff → T1, findIdx?_eq_some_iff_getElem → S1, flatMap_append → N3, flatMap_cons → O3, flatMap_map → bF0, flatMap_nil → M5, getD → R1, getD_cons_succ → bm0, getD_cons_zero → bl0, getElem?_eq_none → Q3, getElem_cons_drop → W7, getElem_cons_succ → aY0, getElem_cons_zero → S8, getElem_drop → by0, getElem_mem → S0, getElem_of_mem → W3, getElem_set → bE0, length → M1, length_append → P0, length_cons → X1, length_drop → U0, length_eq_one_iff → aX0, length_eq_zero_iff → V0, length_map → Z7, length_nil → M3, length_pos_iff → R7, length_range → bx0, length_set → O4, length_take → Z0, map_append → Z2, map_cons → M2, map_map → bb0, map_nil → Y5, mem_append → Y1, mem_cons → U2, mem_cons_of_mem → S2, mem_cons_self → P9, mem_map → Y4, mem_of_getElem? → K8, mem_of_mem_drop → U5, mem_of_mem_take → T5, mem_or_eq_of_mem_set → Q4, mem_range → L8, mem_singleton → U1, nil_append → M4, range → T3, range_succ → bL0, set_append → bK0, set_eq_take_append_cons_drop → R8, set_getElem_self → aa0, singleton_append → Z9, sum_append → bJ0, sum_cons → aR0, take_add → K7, take_append_drop → Y2, take_length → T7, take_of_length_le → L3, take_zero → N6
open Nat renaming add_assoc → W2, add_sub_cancel_left → M6, add_zero → Z3, eq_zero_or_pos → O9, le_refl → T2, le_succ_of_le → bv0, le_trans → P8, min_eq_left → T4, mul_le_mul_right → U3, not_lt → bu0, sub_self → V8, succ_mul → N4, zero_add → O2
open Option renaming bind_eq_some_iff → aN0, bind_some → M0, map_eq_none_iff → O5, map_eq_some_iff → Z1
open Option.some renaming inj → X3, injEq → W0
open Prod.mk renaming injEq → W5
open Sum renaming inr → aA0
open Sum.inr renaming injEq → an0
namespace Go.Proofs.YtcocmnheohgndaaGreat
noncomputable section
set_option linter.unusedVariables false
set_option linter.unnecessarySimpa false
set_option linter.unusedSimpArgs false
open Go.RowKit
abbrev Stm:=Int×Int×Int×Int×Bool
def aE (k:Int):Bool:=(((decide (k=1))||(decide (k=2)))||(decide (k=3)))||(decide (k=5))
def aD (k:Int):Bool:=(decide (1<=k))&&(decide (k<=4))
def aC (k:Int):Bool:=(decide (k=2))||(decide (k=3))
def fOk (x:Stm):Bool:=decide (0<=x.1)&&decide (x.1<=5)&&(aE x.1||decide (x.2.1=0))&&(aD x.1||decide (x.2.2.1=0))&&(aC x.1||(decide (x.2.2.2.1=0)&&!x.2.2.2.2))
theorem six {k:Int} (h:decide (0<=k)&&decide (k<=5)):k=0\/k=1\/k=2\/k=3\/k=4\/k=5:=by simp at h; omega
theorem vg (k:Int):kl k=some (if decide (0<=k)&&decide (k<=5) then (aE k,aD k,aC k,true) else (false,false,false,false)):=by
 by_cases h:(decide (0<=k)&&decide (k<=5))=true
 . rcases six h with rfl | rfl | rfl | rfl | rfl | rfl <;> rfl
 . rw [if_neg h];have h':k < 0\/5 < k:=by simp at h; omega
   have e (j:Int) (h0:0<=j) (h5:j<=5):decide (k=j)=false:=by simp; omega
   unfold kl;simp only [e 0 (by omega) (by omega),e 1 (by omega) (by omega),e 2 (by omega) (by omega),e 3 (by omega) (by omega),e 4 (by omega) (by omega),e 5 (by omega) (by omega),cond_false,M0]
theorem nH (x:Stm):kG x=some (fOk x):=by
 obtain ⟨k,d,s,r,m⟩:=x;have h1:iQ k=some (aE k):=rfl;have h2:iP k=some (aD k):=rfl;have h3:iC k=some (aC k):=rfl;unfold kG fOk;simp only [h1,h2,h3,M0];cases (decide (0<=k)&&decide (k<=5)) <;> simp
 cases (aE k||decide (d=0)) <;> simp
 cases (aD k||decide (s=0)) <;> simp
theorem xY (x:Stm):kK x=some (if fOk x then (aE x.1,aD x.1,aC x.1,0) else (false,false,false,3)):=by
 obtain ⟨k,d,s,r,m⟩:=x;unfold kK;rw [vg];by_cases h:(decide (0<=k)&&decide (k<=5))=true
 . simp only [h,if_true,M0,Y0,cond_false];have ho:nB (k,d,s,r,m) (aE k,aD k,aC k)=some (k,if aE k then d else 0,if aD k then s else 0,if aC k then r else 0,if aC k then m else false):=by
     unfold nB;cases aE k <;> cases aD k <;> cases aC k <;> rfl
   rw [ho,M0];unfold fOk;simp only [h,L7];cases aE k <;> cases aD k <;> cases aC k <;> simp
   all_goals (by_cases q1:d=0 <;> by_cases q2:s=0 <;> by_cases q3:r=0 <;> cases m <;> simp [q1,q2,q3])
 . have h':(decide (0<=k)&&decide (k<=5))=false:=by simpa using h
   unfold fOk;simp [h']
def loc (xb:List (List St)) (d:Int):Bool:=decide (0<=d)&&decide (d < ((xb.length:Nat):Int))
theorem xU (xb:List (List St)) (d:Int):(decide (d < 0)||decide (((xb.length:Nat):Int)<=d)) = !loc xb d:=by
 unfold loc;by_cases h1:d < 0 <;> by_cases h2:((xb.length:Nat):Int)<=d <;> simp [h1,h2] <;> omega
theorem cS {xb:List (List St)} {d:Int} (h:loc xb d=true) (hb:∀ t∈xb,t.length<=20):∃ t:List St,aa xb d=some t/\t.length<=20:=by
 unfold loc at h;simp at h;exact ⟨_,ij h.1 h.2,hb _ (S0 _)⟩
def Gd (R:Int) (n:Nd):Prop:=(0<=n.1/\n.1 < R)/\(0<=n.2.1/\n.2.1 < R)/\(1<=n.2.2.1/\n.2.2.1<=7)/\(0<=n.2.2.2.1/\n.2.2.2.1<=1000000)
theorem dk {R:Int} {t:List St} (h:rin R t=false) {x:St} (hx:x∈t):0<=x.1/\x.1 < R:=by
 have:=V3.1 h x hx;simp at this; omega
theorem jC {R:Int} {t:List St} (h:∀ x∈t,0<=x.1/\x.1 < R):rin R t=false:=by
 unfold rin;rw [V3];intro x hx;have:=h x hx;simp; omega
theorem gO {R kind:Int} (hk:1<=kind/\kind<=7):∀ (xs ys:List St) (f:Int),0<=f->f + (xs.length:Int)<=1000000->rin R xs=false->rin R ys=false->∀ n∈rel kind f xs ys,Gd R n
 | x :: xs,y :: ys,f,h0,h1,hx,hy,n,hn=>by
   have a1:=dk hx (x:=x) (by simp);have a2:=dk hy (x:=y) (by simp);simp only [X1] at h1;simp only [rel,Y1] at hn
   rcases hn with hn | hn
   . unfold jT at hn
     rcases U2.1 hn with rfl | hn
     . exact ⟨a1,a2,hk,h0,by show f<=_; omega⟩
     . split at hn
       . rcases U2.1 hn with rfl | hn
         . exact ⟨a2,a1,hk,h0,by show f<=_; omega⟩
         . simp at hn
       . simp at hn
   . exact gO hk xs ys (f + 1) (by omega) (by omega) (jC fun z hz=>dk hx (by simp [hz])) (jC fun z hz=>dk hy (by simp [hz])) n hn
 | [],_,_,_,_,_,_,n,hn=>by simp [rel] at hn
 | _ :: _,[],_,_,_,_,_,n,hn=>by simp [rel] at hn
theorem DC {R r:Int} {m:Bool} {xa xb:List St} (hr:0<=r/\r < R) (hl:xa.length<=30) (hx:rin R xa=false) (hy:rin R xb=false):∀ n∈(lo r m xa xb).1,Gd R n:=by
 intro n hn;unfold lo at hn;split at hn
 . rename_i hs;have:=sS hs;cases xb with
   | nil=>simp at this
   | cons y ys =>
     rcases U2.1 hn with rfl | hn
     . exact ⟨hr,dk hy (x:=y) (by simp),by simp,by simp⟩
     . exact gO (by decide) xa _ 1 (by omega) (by omega) hx (jC fun z hz=>dk hy (U5 hz)) n hn
 . simp at hn
theorem Dy {R r:Int} {m:Bool} {xa xb:List St} (hr:0<=r/\r < R) (hl:xa.length<=30) (hx:rin R xa=false) (hy:rin R xb=false):∀ n∈(ag r m xa xb).1,Gd R n:=by
 intro n hn;unfold ag at hn;split at hn
 . split at hn
   . simp at hn
   . rename_i x xs y ys _;simp only [X1] at hl
     rcases U2.1 hn with rfl | hn
     . exact ⟨dk hx (by simp),hr,by simp,by simp⟩
     . rcases U2.1 hn with rfl | hn
       . exact ⟨hr,dk hy (by simp),by simp,by simp⟩
       . exact gO (by decide) xs ys 1 (by omega) (by omega) (jC fun z hz=>dk hx (by simp [hz])) (jC fun z hz=>dk hy (by simp [hz])) n hn
 . simp at hn
theorem jc {α:Type} {l:List α} {i:Int} {x:α} (h:aa l i=some x):x∈l:=K8 (dD h).2.1
theorem uU (x:Stm) (xb:List (List St)) (xc:Int) (hb:∀ t∈xb,t.length<=20):∃ l e,fc x xb xc=some (l,e)/\cy x xb xc=some (l,e)/\l.length<=1000/\((∀ t∈xb,rin xc t=false)->∀ n∈l,Gd xc n):=by
 obtain ⟨k,d,s,r,m⟩:=x;unfold fc cy;have g1:iQ k=some (aE k):=rfl;have g2:iP k=some (aD k):=rfl;have g3:iC k=some (aC k):=rfl;have g4 (d:Int):mF d xb=some (loc xb d):=rfl;simp only [xY,nH,M0,g1,g2,g3,g4,xU];cases hf:fOk (k,d,s,r,m) with
 | false=>exact ⟨[],3,rfl,rfl,by simp,by simp⟩
 | true =>
   have hk:k=0\/k=1\/k=2\/k=3\/k=4\/k=5:=by
     unfold fOk at hf;simp only [Q0] at hf;exact six (by simpa using hf.1.1.1)
   have bad:∃ l e,(some (([]:List Nd),(7:Int)):Option (List Nd×Int))=some (l,e)/\(some (([]:List Nd),(7:Int)):Option (List Nd×Int))=some (l,e)/\l.length<=1000/\((∀ t∈xb,rin xc t=false)->∀ n∈l,Gd xc n):=⟨[],7,rfl,rfl,by simp,by simp⟩
   have good:∃ l e,(some (([]:List Nd),(0:Int)):Option (List Nd×Int))=some (l,e)/\(some (([]:List Nd),(0:Int)):Option (List Nd×Int))=some (l,e)/\l.length<=1000/\((∀ t∈xb,rin xc t=false)->∀ n∈l,Gd xc n):=⟨[],0,rfl,rfl,by simp,by simp⟩
   rcases hk with rfl | rfl | rfl | rfl | rfl | rfl
   . simpa [aE,aD,aC] using good
   . have e1:aE 1=true:=rfl;have e2:aD 1=true:=rfl;have e3:aC 1=false:=rfl;cases h1:loc xb d with
     | false=>simpa [e1,e2,e3,h1] using bad
     | true =>
       cases h2:loc xb s with
       | false=>simpa [e1,e2,e3,h1,h2] using bad
       | true =>
         obtain ⟨t1,a1,b1⟩:=cS h1 hb;obtain ⟨t2,a2,b2⟩:=cS h2 hb;simp [e1,e2,e3,h1,h2,a1,a2];rw [nC _ _ _ _ (by omega) (by omega) (by omega),fg _ _ _ _ (by omega) (by omega) (by omega)];have hr:=cB 1 t2 t1 0;by_cases q:shp t2 t1=true
         . exact ⟨rel 1 0 t2 t1,0,by simp [q],by simp [q],by omega,fun hg=>by simpa using gO (kind:=1) (by decide) t2 t1 0 (by omega) (by omega) (hg _ (jc a2)) (hg _ (jc a1))⟩
         . exact ⟨[],8,by simp [q],by simp [q],by simp,by simp⟩
   all_goals try
     (have e1:aE 4=false:=rfl
      have e2:aD 4=true:=rfl;have e3:aC 4=false:=rfl;cases h2:loc xb s with
      | false=>simpa [e1,e2,e3,h2] using bad
      | true=>simpa [e1,e2,e3,h2] using good)
   all_goals try
     (have e1:aE 5=true:=rfl
      have e2:aD 5=false:=rfl;have e3:aC 5=false:=rfl;cases h2:loc xb d with
      | false=>simpa [e1,e2,e3,h2] using bad
      | true=>simpa [e1,e2,e3,h2] using good)
   . have e1:aE 2=true:=rfl;have e2:aD 2=true:=rfl;have e3:aC 2=true:=rfl;cases h1:loc xb d with
     | false=>simpa [e1,e2,e3,h1] using bad
     | true =>
       cases h2:loc xb s with
       | false=>simpa [e1,e2,e3,h1,h2] using bad
       | true =>
         cases h3:(decide (r < 0)||decide (xc<=r)) with
         | true=>simpa [e1,e2,e3,h1,h2,h3] using bad
         | false =>
           obtain ⟨t1,a1,b1⟩:=cS h1 hb;obtain ⟨t2,a2,b2⟩:=cS h2 hb;have hq:=CP r m t2 t1 (by omega);refine ⟨(lo r m t2 t1).1,(lo r m t2 t1).2,?_,?_,by omega,fun hg=>DC (by simp at h3; omega) (by omega) (hg _ (jc a2)) (hg _ (jc a1))⟩
           . simp [e1,e2,e3,h1,h2,h3,a1,a2,Bh t2 t1 r m (by omega)]
           . simp [e1,e2,e3,h1,h2,h3,a1,a2,vJ t2 t1 r m (by omega)]
   . have e1:aE 3=true:=rfl;have e2:aD 3=true:=rfl;have e3:aC 3=true:=rfl;cases h1:loc xb d with
     | false=>simpa [e1,e2,e3,h1] using bad
     | true =>
       cases h2:loc xb s with
       | false=>simpa [e1,e2,e3,h1,h2] using bad
       | true =>
         cases h3:(decide (r < 0)||decide (xc<=r)) with
         | true=>simpa [e1,e2,e3,h1,h2,h3] using bad
         | false =>
           obtain ⟨t1,a1,b1⟩:=cS h1 hb;obtain ⟨t2,a2,b2⟩:=cS h2 hb;have hq:=CM r m t2 t1 (by omega);refine ⟨(ag r m t2 t1).1,(ag r m t2 t1).2,?_,?_,by omega,fun hg=>Dy (by simp at h3; omega) (by omega) (hg _ (jc a2)) (hg _ (jc a1))⟩
           . simp [e1,e2,e3,h1,h2,h3,a1,a2,AU t2 t1 r m (by omega)]
           . simp [e1,e2,e3,h1,h2,h3,a1,a2,va t2 t1 r m (by omega)]
section
open Go.RowKit Lb
def ce (r:Int) (m:Bool):Int:=2 * r + if m then 1 else 0
def cH (x:Stm):List UInt8:=bJ [true,aE x.1,aD x.1,aC x.1] [x.1,x.2.1,x.2.2.1,ce x.2.2.2.1 x.2.2.2.2]
theorem Ea {r:Int} {m:Bool} (h0:0<=r) (h1:r < 2147483648):(cond m (some (IntKind.wrap .i64 ((IntKind.wrap .i64 (2 * r)) + 1))) (some (IntKind.wrap .i64 (2 * r))):Option Int)=some (ce r m):=by
 rw [w64 (x:=2 * r) (by omega) (by omega),w64 (x:=2 * r + 1) (by omega) (by omega)];cases m <;> simp [ce]
def aI (l:List UInt8):Int×Int×Int×Int×Bool×Int×Int :=
 if (take l).2.2≠0 then (0,0,0,0,false,0,(take l).2.2)
 else if 5 < (take l).1 then (0,0,0,0,false,0,3)
 else if (aO [aE (take l).1,aD (take l).1,aC (take l).1] (l.drop (take l).2.1.toNat)).1≠0 then (0,0,0,0,false,0,(aO [aE (take l).1,aD (take l).1,aC (take l).1] (l.drop (take l).2.1.toNat)).1)
 else let N:=aO [aE (take l).1,aD (take l).1,aC (take l).1] (l.drop (take l).2.1.toNat); ((take l).1,N.2.1.getD 0 0,N.2.1.getD 1 0,N.2.1.getD 2 0 / 2,decide (N.2.1.getD 2 0 % 2=1),(take l).2.1 + N.2.2,0)
theorem Fa (has:Bool) (e:Int) (l:List UInt8) (k:Nat) (h:k<=l.length) (hl:l.length<=1073741824) :
   d6 has e l (k:Int)=some (if has=true/\e=0 then ((take (l.drop k)).1,(take (l.drop k)).2.2,(k:Int) + (take (l.drop k)).2.1) else (0,e,(k:Int))):=by
 unfold d6;cases has with
 | false=>simp
 | true =>
   by_cases he:e=0
   . subst he;simp only [Y0,decide_true,Q8,cond_false,lg l k h,M0,true_and,if_true];rw [gH _ (by simp; omega)]
     rcases c9 (l.drop k) with ⟨n,m,ht,_,_,m0,m1,_⟩ | ⟨e,ht,he⟩
     . simp only [U0] at m1;simp only [ht,M0];rw [w64 (by omega) (by omega)]
     . simp only [ht,M0];rw [w64 (by omega) (by omega)]
   . simp [he]
theorem vd (l:List UInt8) (hl:l.length<=1073741824):kM l=some (aI l):=by
 unfold kM aI;rw [gH l hl]
 rcases c9 l with ⟨k,m,ht,k0,k1,m0,m1,_⟩ | ⟨e,ht,he⟩
 . rw [ht,M0];simp only [decide_true,Y0,cond_false,ne_eq,not_true_eq_false,if_false,O1,vg];by_cases h5:5 < k
   . have:(decide (0<=k)&&decide (k<=5))=false:=by simp; omega
     simp [this,h5]
   . have : (decide (0 <= k) && decide (k <= 5)) = true := by simp; omega
     simp only [this,if_true,if_neg h5,M0,Y0,cond_false];have st:=Fa (l:=l) (hl:=hl);have fin (n r:Int) (hr:0<=r):IntKind.wrap .i64 (ag0 r 2)=r / 2\/¬ r<=4294967295:=by
       by_cases q:r<=4294967295
       . left; rw [M9 hr,w64 (by omega) (by omega)]
       . exact .inr q
     have tw (r:Int) (hr:0<=r) (hr2:r<=4294967295):IntKind.wrap .i64 (ag0 r 2)=r / 2/\ar0 r 2=r % 2:=by
       constructor
       . rw [M9 hr,w64 (by omega) (by omega)]
       . exact aG0 hr
     have z0:IntKind.wrap .i64 0=0:=by decide
     have dr (a b:Nat):(l.drop a).drop b=l.drop (a + b):=by rw [K4]
     have no (b:Bool) (e:Int) (q:Nat) (he:e≠0) (hq:q<=l.length):d6 b e l (q:Int)=some (0,e,(q:Int)):=by
       rw [st _ _ _ hq,if_neg (by simp [he])]
     have ye (e:Int) (q:Nat) (hq:q<=l.length):d6 false e l (q:Int)=some (0,e,(q:Int)):=by
       rw [st _ _ _ hq,if_neg (by simp)]
     have ys (q:Nat) (hq:q<=l.length):d6 true 0 l (q:Int)=some ((take (l.drop q)).1,(take (l.drop q)).2.2,(q:Int) + (take (l.drop q)).2.1):=by
       rw [st _ _ _ hq,if_pos (by simp)]
     have am (a b:Nat):(a:Int) + (b:Int)=((a + b:Nat):Int):=by omega
     have tz (q:Nat):(q:Int) + 0=(q:Int):=by omega
     have i0:decide ((0:Int) % 2=1)=false:=by decide
     have dd:(0:Int) / 2=0:=by decide
     cases h1:aE k <;> cases h2:aD k <;> cases h3:aC k <;>
       simp only [aO,ye _ _ m1,M0,N2,if_false]
     all_goals
       first
       | simp [z0]; done
       | (rw [ys m m1,M0]
          rcases c9 (l.drop m) with ⟨n2,q2,t2,a2,b2,c2,d2,_⟩ | ⟨e2,t2,f2⟩
          . simp only [U0] at d2;have g2:m + q2<=l.length:=by omega
            have w2:=tw n2 a2 b2;simp only [t2,ne_eq,not_true_eq_false,if_false,O1,am,dr,ye _ _ g2,M0,decide_true,Y0,cond_false]
            first
            | simp [z0,w2]; done
            | (rw [ys _ g2,M0]
               rcases c9 (l.drop (m + q2)) with ⟨n3,q3,t3,a3,b3,c3,d3,_⟩ | ⟨e3,t3,f3⟩
               . simp only [U0] at d3;have g3:m + q2 + q3<=l.length:=by omega
                 have w3:=tw n3 a3 b3;simp only [t3,ne_eq,not_true_eq_false,if_false,O1,am,dr,ye _ _ g3,M0,decide_true,Y0,cond_false]
                 first
                 | (simp [z0,w3,W2]; done)
                 | (rw [ys _ g3,M0]
                    rcases c9 (l.drop (m + q2 + q3)) with ⟨n4,q4,t4,a4,b4,c4,d4,_⟩ | ⟨e4,t4,f4⟩
                    . have w4:=tw n4 a4 b4;simp only [t4,ne_eq,not_true_eq_false,if_false,O1,am,dr,M0];simp [z0,w4,W2]; done
                    . simp [t4,f4])
               . simp only [t3,ne_eq,f3,not_false_eq_true,if_true,tz,no _ _ _ f3 g2,M0];simp [f3])
          . simp only [t2,ne_eq,f2,not_false_eq_true,if_true,tz,no _ _ _ f2 m1,M0];simp [f2])
 . rw [ht,M0]; simp [he]
theorem Co (l:List UInt8) (h:(aI l).2.2.2.2.2.2=0):∃ (m:Nat),(aI l).2.2.2.2.2.1=(m:Int)/\m<=l.length/\fOk ((aI l).1,(aI l).2.1,(aI l).2.2.1,(aI l).2.2.2.1,(aI l).2.2.2.2.1)=true/\0<=(aI l).2.2.2.1/\(aI l).2.2.2.1 < 2147483648/\cH ((aI l).1,(aI l).2.1,(aI l).2.2.1,(aI l).2.2.2.1,(aI l).2.2.2.2.1)=l.take m/\okN (aI l).2.1/\okN (aI l).2.2.1:=by
 rcases c9 l with ⟨k,m,ht,k0,k1,m0,m1,hp⟩ | ⟨e,ht,he⟩
 . unfold aI at h ⊢;simp only [ht,ne_eq,not_true_eq_false,if_false,O1] at h ⊢;by_cases h5:5 < k
   . simp [h5] at h
   . simp only [if_neg h5] at h ⊢;have pn:=r7 [aE k,aD k,aC k] (l.drop m);generalize aO [aE k,aD k,aC k] (l.drop m)=N at *;obtain ⟨e,ns,q⟩:=N;dsimp only at h ⊢ pn;by_cases he:e=0
     . subst he;obtain ⟨p1,p2,p3,p4⟩:=pn rfl
       rcases ns with _ | ⟨d,_ | ⟨s,_ | ⟨r,_ | ⟨_,_⟩⟩⟩⟩
       case cons.cons.cons.nil =>
         have a0:=p4 0 (by simp) (by simp);have a1:=p4 1 (by simp) (by simp);have a2:=p4 2 (by simp) (by simp);simp only [U0] at p1;simp at a0 a1 a2;simp only [not_true_eq_false,if_false,bl0,bm0];refine ⟨m + q,by omega,by omega,?_,by omega,by omega,?_,⟨by omega,by omega⟩,⟨by omega,by omega⟩⟩
         . unfold fOk;have hk:(decide (0<=k)&&decide (k<=5))=true:=by simp; omega
           try dsimp only
           rw [hk];cases c1:aE k <;> cases c2:aD k <;> cases c3:aC k <;> simp_all
         . unfold cH;have e2:ce (r / 2) (decide (r % 2=1))=r:=by
             unfold ce;by_cases q:r % 2=1
             . simp [q]; omega
             . simp [q]; omega
           try dsimp only
           rw [e2];simp only [bJ] at p2 ⊢;rw [hp,p2,K7]
       all_goals simp at p3
     . simp only [he,not_false_eq_true,if_true] at h
 . unfold aI at h;simp [ht,he] at h
theorem BG (x:Stm) (l:List UInt8) (hf:fOk x=true) (h1:0<=x.2.1) (h2:0<=x.2.2.1) (h3:0<=x.2.2.2.1) (g1:x.2.1<=4294967295) (g2:x.2.2.1<=4294967295) (g3:x.2.2.2.1 < 2147483648):aI (cH x++l)=(x.1,x.2.1,x.2.2.1,x.2.2.2.1,x.2.2.2.2,(((cH x).length:Nat):Int),0):=by
 obtain ⟨k,d,s,r,m⟩:=x;dsimp only at *;unfold fOk at hf;simp only [Q0] at hf;obtain ⟨⟨⟨⟨k0,k5⟩,f1⟩,f2⟩,f3⟩:=hf;simp at k0 k5;have pk:put k≠[]:=fun h=>by have:=(dK k).1 h; omega
 have nb:0<=ce r m/\ce r m<=4294967295:=by unfold ce; cases m <;> simp <;> omega
 have hn:=wV [aE k,aD k,aC k] [d,s,ce r m] l rfl (by
   intro j j1 j2
   rcases j with _ | _ | _ | j
   . simp only [S8];refine ⟨fun _ h=>by have:=(dK d).1 h; omega,fun h=>?_⟩;rw [h] at f1; simpa using f1
   . simp only [aY0,S8];refine ⟨fun _ h=>by have:=(dK s).1 h; omega,fun h=>?_⟩;rw [h] at f2; simpa using f2
   . simp only [aY0,S8];refine ⟨fun _ h=>by have:=(dK _).1 h; omega,fun h=>?_⟩;rw [h] at f3;simp at f3;simp [ce,f3.1,f3.2]
   . simp at j1; omega)
 have e:cH (k,d,s,r,m)=put k++bJ [aE k,aD k,aC k] [d,s,ce r m]:=rfl;have ht:=nS k pk (bJ [aE k,aD k,aC k] [d,s,ce r m]++l);have hl:=kU k;have es:(size k).toNat=(put k).length:=by omega
 unfold aI;rw [e,O0,ht];simp only [ne_eq,not_true_eq_false,if_false,es,P5,hn,if_neg (show ¬ 5 < k by omega)];have er:ce r m / 2=r/\decide (ce r m % 2=1)=m:=by
   unfold ce;cases m <;> simp <;> omega
 simp only [bl0,bm0];rw [er.1,er.2,P0];simp only [W5,true_and,and_true];omega
end
abbrev Sg:=Int×List (Int×Int)×List (List St)×List St
def aJ (n:Int) (b:Int×Int):Bool:=(((decide (b.1 < 0))||(decide (n<=b.1)))||(decide (b.2 < 0)))||(decide (n<=b.2))
def lc (n:Int) (A:List (List St)):Unit⊕Int:=match A.findIdx? (fun t=>!decide (rck n t=0)) with | some k => .inr (rck n (A.getD k [])) | none => .inl ()
def chk (s:Sg):Int :=
 if s.1 < 0 then 7 else if 16 < s.1\/16 < s.2.1.length\/16 < s.2.2.1.length then 6 else if s.2.1.any (aJ s.1) then 7
 else match lc s.1 s.2.2.1 with | .inr e=>e | .inl ()=>rck s.1 s.2.2.2
theorem sk (a:Int) (b c:Nat):(((decide (16 < a))||(decide (16 < ((b:Nat):Int))))||(decide (16 < ((c:Nat):Int))))=decide (16 < a\/16 < b\/16 < c):=by
 by_cases h1:16 < a <;> by_cases h2:16 < b <;> by_cases h3:16 < c <;> simp [h1,h2,h3] <;> omega
theorem tH {n:Int} {A:List (List St)} {body:Int->Option (Int⊕(Unit⊕Int))} (hn:A.length<=1000) (hb:∀ (k:Nat) (h:k < A.length),body (k:Int)=cond (!decide (rck n A[k]=0)) (some (.inr (.inr (rck n A[k])))) (some (.inl (IntKind.wrap .i64 ((k:Int) + 1))))) (he:body (A.length:Int)=some (.inr (.inl ()))):loop body 0=some (lc n A):=by
 rw [bv A (fun t=>!decide (rck n t=0)) (fun k => .inr (rck n (A.getD k []))) (.inl ()) ?_ he]
 . rfl
 . intro k hk;rw [hb k hk,ak hk (by omega:A.length<=9223372036854775807)];have:A.getD k []=A[k]:=by simp [R1,hk]
   rw [this];cases (!decide (rck n A[k]=0)) <;> rfl
theorem vh (s:Sg) (hr:s.2.2.2.length<=1000) (ha:∀ t∈s.2.2.1,t.length<=1000):cZ s=some (chk s):=by
 obtain ⟨n,B,A,R⟩:=s;unfold cZ chk;dsimp only at *;by_cases h0:n < 0
 . rw [decide_eq_true h0,if_pos h0]; rfl
 . rw [decide_eq_false h0,if_neg h0,cond_false,sk];by_cases h1:16 < n\/16 < B.length\/16 < A.length
   . rw [decide_eq_true h1,if_pos h1]; rfl
   . rw [decide_eq_false h1,if_neg h1,cond_false];rw [gI (body:=f9 (n,B,A,R)) B (aJ n) (.inr 7) (.inl ()) ?_ ?_]
     . cases hb:B.any (aJ n) with
       | true=>rfl
       | false =>
         simp only [N2,if_false,M0];rw [tH (body:=ge (n,B,A,R)) (n:=n) (A:=A) (by omega) ?_ ?_]
         . rw [nw R n (by omega)];simp only [M0];cases lc n A <;> rfl
         . intro k hk;unfold ge;have:=ha A[k] (S0 hk);simp only [dlt hk,cond_true,ah hk,M0];rw [nw _ _ (by omega),M0]
         . simp [ge]
     . intro k hk;unfold f9 kd;simp only [dlt hk,cond_true,ah hk,M0,ak hk (by omega:B.length<=9223372036854775807)];generalize B[k]=b;obtain ⟨b1,b2⟩:=b;have e (x:Int):(!((decide (0<=x))&&(decide (x < n))))=(decide (x < 0)||decide (n<=x)):=by
         by_cases p:x < 0 <;> by_cases q:n<=x <;> simp [p,q] <;> omega
       simp only [e,aJ];by_cases p1:b1 < 0 <;> by_cases p2:n<=b1 <;> by_cases p3:b2 < 0 <;> by_cases p4:n<=b2 <;> simp [p1,p2,p3,p4]
     . simp [f9]
theorem u7 (s:Sg):iG s=some (chk s):=by
 obtain ⟨n,B,A,R⟩:=s;unfold iG chk;dsimp only at *;by_cases h0:n < 0
 . rw [decide_eq_true h0,if_pos h0]; rfl
 . rw [decide_eq_false h0,if_neg h0,cond_false,sk];by_cases h1:16 < n\/16 < B.length\/16 < A.length
   . rw [decide_eq_true h1,if_pos h1]; rfl
   . rw [decide_eq_false h1,if_neg h1,cond_false];rw [gI (body:=mR (n,B,A,R)) B (aJ n) (.inr 7) (.inl ()) ?_ ?_]
     . cases hb:B.any (aJ n) with
       | true=>rfl
       | false =>
         simp only [N2,if_false,M0];rw [tH (body:=mN (n,B,A,R)) (n:=n) (A:=A) (by omega) ?_ ?_]
         . rw [nv R n];simp only [M0];cases lc n A <;> rfl
         . intro k hk;unfold mN;simp only [dlt hk,cond_true,ah hk,M0];rw [nv _ _,M0]
         . simp [mN]
     . intro k hk;unfold mR;simp only [dlt hk,cond_true,ah hk,M0,ak hk (by omega:B.length<=9223372036854775807)];generalize B[k]=b;show cond (aJ n b) _ _=_;cases aJ n b <;> rfl
     . simp [mR]
theorem di {n:Int} {t:List St} (h:rck n t=0):t.length<=16/\rin n t=false:=by
 unfold rck at h;by_cases q:16 < t.length
 . rw [if_pos q] at h; cases h
 . rw [if_neg q] at h;cases hr:rin n t with
   | true=>rw [hr] at h; cases h
   | false=>exact ⟨by omega,rfl⟩
theorem sb {s:Sg} (h:chk s=0):0<=s.1/\s.1<=16/\s.2.1.length<=16/\s.2.2.1.length<=16/\(∀ b∈s.2.1,aJ s.1 b=false)/\(∀ t∈s.2.2.1,t.length<=16/\rin s.1 t=false)/\s.2.2.2.length<=16/\rin s.1 s.2.2.2=false:=by
 unfold chk at h;by_cases h0:s.1 < 0
 . rw [if_pos h0] at h; cases h
 . rw [if_neg h0] at h;by_cases h1:16 < s.1\/16 < s.2.1.length\/16 < s.2.2.1.length
   . rw [if_pos h1] at h; cases h
   . rw [if_neg h1] at h;cases hb:s.2.1.any (aJ s.1) with
     | true=>rw [hb] at h; cases h
     | false =>
       rw [hb] at h;simp only [N2,if_false] at h;unfold lc at h;cases hf:s.2.2.1.findIdx? (fun t=>!decide (rck s.1 t=0)) with
       | some k =>
         rw [hf] at h;obtain ⟨hk,h2,_⟩:=S1.1 hf;have:s.2.2.1.getD k []=s.2.2.1[k]:=by simp [R1,hk]
         simp only [this] at h;simp [h] at h2
       | none =>
         rw [hf] at h;have hz:=T1.1 hf;refine ⟨by omega,by omega,by omega,by omega,fun b hb2=>?_,fun t ht=>di (by simpa using hz t ht),(di h).1,(di h).2⟩;have:=V3.1 hb b hb2;simpa using this
theorem ou (names:List Int) (xs ys:List St):shp xs (ys.map (sbs names))=shp xs ys:=by
 unfold shp; rw [bb0]; rfl
theorem wB (names:List Int) (xs ys:List St):shp (xs.map (sbs names)) ys=shp xs ys:=by
 rw [gU,ou,gU]
def mis (A C:List (List St)) (k:Nat):Bool:=!shp (C.getD k []) (A.getD k [])
def fl (names:List Int) (A C:List (List St)) (j:Nat):List Nd:=rel 5 (16 * (j:Int)) (C.getD j []) ((A.getD j []).map (sbs names))
def fls (names:List Int) (A C:List (List St)):Nat->List Nd
 | 0=>[]
 | k + 1=>fls names A C k++fl names A C k
theorem ji (names:List Int) (A C:List (List St)) (hc:∀ t∈C,t.length<=20):∀ k,(fls names A C k).length<=40 * k
 | 0=>by simp [fls]
 | k + 1=>by
   have ih:=ji names A C hc k;have h1:=cB 5 (C.getD k []) ((A.getD k []).map (sbs names)) (16 * (k:Int));have h2:(C.getD k []).length<=20:=by
     by_cases h:k < C.length
     . have:C.getD k []=C[k]:=by simp [R1,h]
       rw [this]; exact hc _ (S0 h)
     . have:C.getD k []=[]:=by simp [R1,Q3 (bu0.1 h)]
       rw [this]; simp
   simp only [fls,P0,fl];omega
def bds (names:List Int) (B:List (Int×Int)):Nat->List Nd
 | 0=>[]
 | k + 1=>bds names B k++[(names.getD (B.getD k (0,0)).1.toNat 0,names.getD (B.getD k (0,0)).2.toNat 0,4,(k:Int),false)]
theorem jl (names:List Int) (B:List (Int×Int)):∀ k,(bds names B k).length=k
 | 0=>rfl
 | k + 1=>by simp [bds,jl names B k]
def csp (s:Sg) (names:List Int) (C:List (List St)) (D:List St):List Nd×Int :=
 if chk s≠0 then ([],chk s)
 else if ¬ (names.length:Int)=s.1\/¬ C.length=s.2.2.1.length then ([],2)
 else if (T3 s.2.2.1.length).any (mis s.2.2.1 C) then ([],8)
 else if shp D s.2.2.2 then (bds names s.2.1 s.2.1.length++fls names s.2.2.1 C s.2.2.1.length++rel 6 0 (s.2.2.2.map (sbs names)) D,0) else ([],8)
theorem vm {names:List Int} {n:Int} {B:List (Int×Int)} {body:(List Nd×Int)->Option ((List Nd×Int)⊕List Nd)} (hB:B.length<=16) (hn:(names.length:Int)=n) (hb:∀ b∈B,aJ n b=false)
   (hgo:∀ (l:List Nd) (k:Nat) (h:k < B.length),body (l,(k:Int))=((aa names B[k].1).bind fun x=>(aa names B[k].2).bind fun y=>(app l [(x,y,4,(k:Int),false)]).bind fun z=>some (.inl (z,IntKind.wrap .i64 ((k:Int) + 1))))) (he:∀ l,body (l,(B.length:Int))=some (.inr l)) :
   loop body ([],0)=some (bds names B B.length):=by
 refine bq (body:=body) (fun k=>(bds names B k,(k:Int))) B.length ?_ (he _);intro k hk;have h1:=hb B[k] (S0 hk);have e:B.getD k (0,0)=B[k]:=by simp [R1,hk]
 unfold aJ at h1;simp at h1;rw [hgo _ k hk,n6 (by omega) (by omega),M0,n6 (by omega) (by omega),M0,ar (by simp [jl]; omega),M0,ak hk (by omega)];simp only [bds,e]
theorem lk {names:List Int} {n:Int} {t:List St} (hn:(names.length:Int)=n) (h:rin n t=false):rin names.length t=false:=by rw [hn]; exact h
theorem Bg (s:Sg) (names:List Int) (C:List (List St)) (D:List St) (hr:s.2.2.2.length<=20) (ha:∀ t∈s.2.2.1,t.length<=20) (hC:∀ t∈C,t.length<=20) (hD:D.length<=20) :
   kQ s names C D=some (csp s names C D):=by
 have hck:=vh s (by omega) (fun t ht=>by have:=ha t ht; omega);unfold kQ qA csp;rw [show cZ (s.1,s.2.1,s.2.2.1,s.2.2.2)=some (chk s) from hck];obtain ⟨n,B,A,R⟩:=s;dsimp only at *;by_cases h0:chk (n,B,A,R)=0
 . obtain ⟨n0, n1, hB, hA, hb, hat, hR, hrin⟩ := sb h0;dsimp only at n0 n1 hB hA hb hat hR hrin;simp only [h0,M0,decide_true,Y0,cond_false,ne_eq,not_true_eq_false,if_false];by_cases h1:¬ (names.length:Int)=n\/¬ C.length=A.length
   . have:((!decide ((((names.length:Nat):Int))=n))||(!decide ((((C.length:Nat):Int))=(((A.length:Nat):Int)))))=true:=by simp; omega
     rw [this,if_pos h1]; rfl
   . have:((!decide ((((names.length:Nat):Int))=n))||(!decide ((((C.length:Nat):Int))=(((A.length:Nat):Int)))))=false:=by simp; omega
     rw [this,if_neg h1,cond_false];have hn:(names.length:Int)=n:=by omega
     have hl:C.length=A.length:=by omega
     rw [gI (body:=mK (n,B,A,R) C) (T3 A.length) (mis A C) (.inr 8) (.inl ()) ?_ ?_]
     . cases hm:(T3 A.length).any (mis A C) with
       | true=>rfl
       | false =>
         simp only [N2,if_false,M0];rw [gE D R (by omega)];cases hs:shp D R with
         | false=>rfl
         | true =>
           simp only [M0,Y0,cond_false,decide_true,if_true];rw [vm (body:=nc (n,B,A,R) names) hB hn hb ?_ ?_]
           . simp only [M0];have hfl:=bq (body:=kC (n,B,A,R) names C) (fun k=>(bds names B B.length++fls names A C k,(k:Int))) A.length (b:=bds names B B.length++fls names A C A.length) ?_ ?_
             . have hfl':loop (kC (n,B,A,R) names C) (bds names B B.length,0)=some (bds names B B.length++fls names A C A.length):=by
                 have e0:(bds names B B.length,(0:Int))=(bds names B B.length++fls names A C 0,((0:Nat):Int)):=by simp [fls]
                 rw [e0]; exact hfl
               have q1:=ji names A C hC A.length;have q2:=jl names B B.length;have q3:=cB 6 (R.map (sbs names)) D 0;rw [Z7] at q3;rw [hfl',M0,vp R names (by omega),lk hn hrin];simp only [N2,if_false,M0];rw [nC _ _ _ _ (by simp; omega) (by omega) (by omega),wB,gU,hs];simp only [if_true,M0];rw [ar (by simp only [P0]; omega)];rfl
             . intro k hk;have hkC:k < C.length:=by omega
               have ht:=hat A[k] (S0 hk);have hc:=hC C[k] (S0 hkC);have e1:A.getD k []=A[k]:=by simp [R1,hk]
               have e2:C.getD k []=C[k]:=by simp [R1,hkC]
               have hsh:shp C[k] A[k]=true:=by
                 have:=V3.1 hm k (L8.2 hk);unfold mis at this;rw [e1,e2] at this;simpa using this
               have q1:=ji names A C hC k;have q2:=jl names B B.length;have q3:=cB 5 C[k] (A[k].map (sbs names)) (16 * (k:Int));unfold kC;simp only [dlt hk,cond_true,ah hk,M0];rw [vp _ names (by omega),lk hn ht.2];simp only [N2,if_false,M0,ah hkC];rw [w64 (x:=16 * (k:Int)) (by omega) (by omega),nC _ _ _ _ (by omega) (by omega) (by omega),ou,hsh];simp only [if_true,M0];rw [ar (by simp only [P0]; omega),M0,ak hk (by omega)];simp only [fls,fl,e1,e2,O0]
             . simp [kC]
           . intro l k hk;unfold nc;simp only [dlt hk,cond_true,ah hk,M0]
           . intro l; simp [nc]
     . intro k hk;simp only [bx0] at hk;have hkC:k < C.length:=by omega
       have e1:A.getD k []=A[k]:=by simp [R1,hk]
       have e2:C.getD k []=C[k]:=by simp [R1,hkC]
       have hc:=hC C[k] (S0 hkC);unfold mK;simp only [dlt hk,cond_true,ah hk,ah hkC,M0,List.getElem_range,mis,e1,e2,ak hk (by omega:A.length<=9223372036854775807)];rw [gE _ _ (by omega),M0];cases shp C[k] A[k] <;> rfl
     . simp [mK]
 . simp [h0]
theorem vO (s:Sg) (names:List Int) (C:List (List St)) (D:List St) (hr:s.2.2.2.length<=20) (ha:∀ t∈s.2.2.1,t.length<=20) (hC:∀ t∈C,t.length<=20) (hD:D.length<=20) :
   kJ s names C D=some (csp s names C D):=by
 unfold kJ csp;rw [show iG (s.1,s.2.1,s.2.2.1,s.2.2.2)=some (chk s) from u7 s];obtain ⟨n,B,A,R⟩:=s;dsimp only at *;by_cases h0:chk (n,B,A,R)=0
 . obtain ⟨n0,n1,hB,hA,hb,hat,hR,hrin⟩:=sb h0;dsimp only at n0 n1 hB hA hb hat hR hrin;simp only [h0,M0,decide_true,Y0,cond_false,ne_eq,not_true_eq_false,if_false];by_cases h1:¬ (names.length:Int)=n\/¬ C.length=A.length
   . have:((!decide ((((names.length:Nat):Int))=n))||(!decide ((((C.length:Nat):Int))=(((A.length:Nat):Int)))))=true:=by simp; omega
     rw [this,if_pos h1]; rfl
   . have:((!decide ((((names.length:Nat):Int))=n))||(!decide ((((C.length:Nat):Int))=(((A.length:Nat):Int)))))=false:=by simp; omega
     rw [this,if_neg h1,cond_false];have hn:(names.length:Int)=n:=by omega
     have hl:C.length=A.length:=by omega
     rw [vm (body:=mT (n,B,A,R) names) hB hn hb ?_ ?_]
     . simp only [M0];have q2:=jl names B B.length;have hfl:=gM (body:=kp (n,B,A,R) names C) (fun k=>mis A C k=true) (fun k=>(bds names B B.length++fls names A C k,(k:Int))) A.length (fun _ => .inr ([],8)) (.inl (bds names B B.length++fls names A C A.length)) ?_ ?_ ?_
       . have e0:(bds names B B.length,(0:Int))=(bds names B B.length++fls names A C 0,((0:Nat):Int)):=by simp [fls]
         rw [e0]
         rcases hfl with ⟨k,k1,k2,_,k3⟩ | ⟨k1,k3⟩
         . have:(T3 A.length).any (mis A C)=true:=L6.2 ⟨k,L8.2 k1,k2⟩;rw [k3,this]; rfl
         . have:(T3 A.length).any (mis A C)=false:=by
             rw [V3]; intro k hk; exact k1 k (L8.1 hk)
           rw [k3,this];have q1:=ji names A C hC A.length;have q3:=cB 6 (R.map (sbs names)) D 0;rw [Z7] at q3;simp only [M0,N2,if_false];rw [qZ R names (by omega),lk hn hrin];simp only [N2,if_false,M0];rw [fg _ _ _ _ (by simp; omega) (by omega) (by omega),wB,gU];cases hs:shp D R with
           | false=>rfl
           | true =>
             simp only [if_true,M0,decide_true,Y0,cond_false];rw [ar (by simp only [P0]; omega)];rfl
       . intro k hk hp;have hkC:k < C.length:=by omega
         have ht:=hat A[k] (S0 hk);have hc:=hC C[k] (S0 hkC);have e1:A.getD k []=A[k]:=by simp [R1,hk]
         have e2:C.getD k []=C[k]:=by simp [R1,hkC]
         have hsh:shp C[k] A[k]=true:=by
           unfold mis at hp;rw [e1,e2] at hp;simpa using hp
         have q1:=ji names A C hC k;have q3:=cB 5 C[k] (A[k].map (sbs names)) (16 * (k:Int));unfold kp;simp only [dlt hk,cond_true,ah hk,M0];rw [qZ _ names (by omega),lk hn ht.2];simp only [N2,if_false,M0,ah hkC];rw [w64 (x:=16 * (k:Int)) (by omega) (by omega),fg _ _ _ _ (by omega) (by omega) (by omega),ou,hsh];simp only [if_true,M0,decide_true,Y0,cond_false];rw [ar (by simp only [P0]; omega),M0,ak hk (by omega)];simp only [fls,fl,e1,e2,O0]
       . intro k hk hp;have hkC:k < C.length:=by omega
         have ht:=hat A[k] (S0 hk);have hc:=hC C[k] (S0 hkC);have e1:A.getD k []=A[k]:=by simp [R1,hk]
         have e2:C.getD k []=C[k]:=by simp [R1,hkC]
         have hsh:shp C[k] A[k]=false:=by
           unfold mis at hp;rw [e1,e2] at hp;simpa using hp
         unfold kp;simp only [dlt hk,cond_true,ah hk,M0];rw [qZ _ names (by omega),lk hn ht.2];simp only [N2,if_false,M0,ah hkC];rw [w64 (x:=16 * (k:Int)) (by omega) (by omega),fg _ _ _ _ (by omega) (by omega) (by omega),ou,hsh];rfl
       . simp [kp]
     . intro l k hk;unfold mT;simp only [dlt hk,cond_true,ah hk,M0]
     . intro l; simp [mT]
 . simp [h0]
theorem DV (s:Sg) (names:List Int) (C:List (List St)) (D:List St) (hs:s.2.1.length<=20/\s.2.2.1.length<=20/\s.2.2.2.length<=20) (hC:∀ t∈C,t.length<=20):(csp s names C D).1.length<=4000:=by
 have q1:=ji names s.2.2.1 C hC s.2.2.1.length;have q2:=jl names s.2.1 s.2.1.length;have q3:=cB 6 (s.2.2.2.map (sbs names)) D 0;rw [Z7] at q3;unfold csp;split
 . simp
 . split
   . simp
   . split
     . simp
     . split
       . simp only [P0]; omega
       . simp
abbrev Tm:=Int×Int×Int×List Int×List Int×List Int
def dp (x:Tm):Bool:=((!decide (x.2.1=0))||(!decide (x.2.2.1=0)))||(decide (0 < x.2.2.2.2.2.length))
def dm (x:Tm):Bool :=
 if x.1=1 then decide (x.2.2.2.1.length=1)&&decide (x.2.2.2.2.1.length=0)&&!dp x
 else if x.1=2 then decide (0 < x.2.2.2.1.length)&&!dp x
 else if x.1=3 then decide (x.2.2.2.1.length=0)&&decide (x.2.2.2.2.1.length=0)&&!dp x
 else if x.1=4 then decide (x.2.2.2.1.length=1) else false
def aB (x:Tm):Int:=if dm x=true then if 16 < x.2.2.2.1.length\/16 < x.2.2.2.2.1.length\/16 < x.2.2.2.2.2.length then 6 else 0 else 3
theorem bnd (a b:Bool):(cond a (some b) (some false):Option Bool)=some (a&&b):=by cases a <;> rfl
theorem dn1 (n:Nat):decide ((n:Int)=1)=decide (n=1):=by by_cases h:n=1 <;> simp [h] <;> omega
theorem dn0 (n:Nat):decide ((n:Int)=0)=decide (n=0):=by by_cases h:n=0 <;> simp [h] <;> omega
theorem dp0 (n:Nat):decide (0 < (n:Int))=decide (0 < n):=by by_cases h:0 < n <;> simp [h] <;> omega
theorem d16 (n:Nat):decide (16 < (n:Int))=decide (16 < n):=by by_cases h:16 < n <;> simp [h] <;> omega
theorem rR (x:Tm):fe x=some (aB x):=by
 obtain ⟨k,g,d,tos,args,ps⟩:=x;have hc:iM (k,g,d,tos,args,ps)=some (dp (k,g,d,tos,args,ps)):=by unfold iM dp; simp only [dp0]
 unfold fe aB;have hr:∀ b:Bool,(cond (!b) (some 3) (cond (((decide (16 < ((tos.length:Nat):Int)))||(decide (16 < ((args.length:Nat):Int))))||(decide (16 < ((ps.length:Nat):Int)))) (some 6) (some 0)):Option Int)=some (if b=true then if 16 < tos.length\/16 < args.length\/16 < ps.length then 6 else 0 else 3):=by
   intro b;cases b with
   | false=>rfl
   | true =>
     simp only [d16,Y0,cond_false,if_true];by_cases h1:16 < tos.length <;> by_cases h2:16 < args.length <;> by_cases h3:16 < ps.length <;> simp [h1,h2,h3]
 dsimp only at *;have hm:∀ (m:Option Bool) (b:Bool),m=some b->(m.bind fun t194=>cond (!t194) (some 3) (cond (((decide (16 < ((tos.length:Nat):Int)))||(decide (16 < ((args.length:Nat):Int))))||(decide (16 < ((ps.length:Nat):Int)))) (some 6) (some 0)):Option Int)=some (if b=true then if 16 < tos.length\/16 < args.length\/16 < ps.length then 6 else 0 else 3):=by
   rintro _ b rfl; exact hr b
 refine hm _ _ ?_;simp only [hc,M0,dn1,dn0,dp0];unfold dm;dsimp only;by_cases k1:k=1
 . simp [k1,bnd,aM0]
 . by_cases k2:k=2
   . simp [k2,bnd,aM0]
   . by_cases k3:k=3
     . simp [k3,bnd,aM0]
     . by_cases k4:k=4
       . simp [k4]
       . simp [k1,k2,k3,k4]
theorem iV {x:Tm} (h:aB x=0):dm x=true/\x.2.2.2.1.length<=16/\x.2.2.2.2.1.length<=16/\x.2.2.2.2.2.length<=16:=by
 unfold aB at h;split at h
 . split at h
   . cases h
   . rename_i q; exact ⟨by assumption,by omega,by omega,by omega⟩
 . cases h
theorem BJ (xa:List Int) (n:Int) (hn:xa.length<=1073741824):dx xa n=some (!xa.any (fun x=>decide (x < 0)||decide (n<=x))):=by
 unfold dx;rw [gI (body:=mH xa n) xa (fun x=>decide (x < 0)||decide (n<=x)) (.inr false) (.inl ()) ?_ ?_]
 . cases xa.any (fun x=>decide (x < 0)||decide (n<=x)) <;> rfl
 . intro k hk;unfold mH;by_cases q:xa[k] < 0 <;> by_cases q2:n<=xa[k] <;> simp [hk,ah hk,ak hk (by omega:xa.length<=9223372036854775807),q,q2]
 . simp [mH]
theorem nA (x:Tm):gt x=some (aB x):=by
 obtain ⟨k,g,d,tos,args,ps⟩:=x;unfold gt aB dm dp;dsimp only;simp only [dn1,dn0,d16,dp0];have hps:decide (0 < ps.length) = !decide (ps.length=0):=by by_cases h:ps.length=0 <;> simp [h] <;> omega
 have hto:decide (0 < tos.length) = !decide (tos.length=0):=by by_cases h:tos.length=0 <;> simp [h] <;> omega
 rw [hps,hto];have last:(cond (((decide (16 < tos.length))||(decide (16 < args.length)))||(decide (16 < ps.length))) (some 6) (some 0):Option Int)=some (if 16 < tos.length\/16 < args.length\/16 < ps.length then 6 else 0):=by
   by_cases h1:16 < tos.length <;> by_cases h2:16 < args.length <;> by_cases h3:16 < ps.length <;> simp [h1,h2,h3]
 rw [last];generalize (if 16 < tos.length\/16 < args.length\/16 < ps.length then (6:Int) else 0)=z;generalize decide (tos.length=1)=t1;generalize decide (tos.length=0)=t0;generalize decide (args.length=0)=a0;generalize decide (ps.length=0)=p0;generalize decide (g=0)=g0;generalize decide (d=0)=d0;by_cases k1:k=1
 . subst k1; cases t1 <;> cases t0 <;> cases a0 <;> cases p0 <;> cases g0 <;> cases d0 <;> simp
 . by_cases k2:k=2
   . subst k2; cases t1 <;> cases t0 <;> cases a0 <;> cases p0 <;> cases g0 <;> cases d0 <;> simp
   . by_cases k3:k=3
     . subst k3; cases t1 <;> cases t0 <;> cases a0 <;> cases p0 <;> cases g0 <;> cases d0 <;> simp
     . by_cases k4:k=4
       . subst k4; cases t1 <;> cases t0 <;> cases a0 <;> cases p0 <;> cases g0 <;> cases d0 <;> simp
       . have:(decide (k < 1)||decide (4 < k))=true:=by simp; omega
         simp [this,k1,k2,k3,k4]
theorem zP {xa:List (List St)} {body:Int->Option (Int⊕(Unit⊕Bool))} (hn:xa.length<=1000) (hb:∀ i,body i=cond (decide (i < (((xa.length:Nat):Int)))) ((aa xa i).bind fun x=>(gz x 20).bind fun t=>cond (!t) (some (.inr ((.inr (false))))) (some (.inl (IntKind.wrap .i64 (i + 1))))) (some (.inr ((.inl ()))))) :
   loop body 0=some (if xa.any (fun t=>!decide (t.length<=20)) then (aA0 false:Unit⊕Bool) else .inl ()):=by
 refine gI (β:=Unit⊕Bool) xa (fun t=>!decide (t.length<=20)) (.inr false) (.inl ()) ?_ ?_
 . intro k hk;rw [hb];simp only [dlt hk,cond_true,ah hk,M0,ak hk (by omega:xa.length<=9223372036854775807),sX];by_cases q:xa[k].length<=20
   . have:decide (((xa[k].length:Nat):Int)<=20)=true:=by simp; omega
     simp [this,q]
   . have:decide (((xa[k].length:Nat):Int)<=20)=false:=by simp; omega
     simp [this,q]
 . rw [hb]; simp
theorem yf {xa:List (List St)} (h:xa.any (fun t=>!decide (t.length<=20))=false):∀ t∈xa,t.length<=20:=by
 intro t ht;have:=V3.1 h t ht;simpa using this
theorem yV (s:Sg):fd s=some false\/(fd s=some true/\s.2.1.length<=20/\s.2.2.1.length<=20/\s.2.2.2.length<=20/\∀ t∈s.2.2.1,t.length<=20):=by
 unfold fd;by_cases h:20 < s.2.1.length\/20 < s.2.2.1.length
 . have:((decide (20 < (((s.2.1.length:Nat):Int))))||(decide (20 < (((s.2.2.1.length:Nat):Int)))))=true:=by simp; omega
   rw [this]; exact .inl rfl
 . have:((decide (20 < (((s.2.1.length:Nat):Int))))||(decide (20 < (((s.2.2.1.length:Nat):Int)))))=false:=by simp; omega
   rw [this,cond_false,sX];by_cases q:s.2.2.2.length<=20
   . have e:decide (((s.2.2.2.length:Nat):Int)<=20)=true:=by simp; omega
     simp only [M0,e,Y0,cond_false];rw [zP (body:=uJ s) (xa:=s.2.2.1) (by omega) (fun i=>rfl)];cases hf:s.2.2.1.any (fun t=>!decide (t.length<=20)) with
     | true=>exact .inl rfl
     | false=>exact .inr ⟨rfl,by omega,by omega,q,yf hf⟩
   . have e:decide (((s.2.2.2.length:Nat):Int)<=20)=false:=by simp; omega
     simp only [M0,e]; exact .inl rfl
def bad (n:Int) (xa:List Int):Bool:=xa.any (fun x=>decide (x < 0)||decide (n<=x))
theorem qW (xa:List Int) (n:Int) (hn:xa.length<=1000):im xa n=some (bad n xa):=by
 unfold im pZ;rw [bv (body:=me xa n) xa (fun x=>decide (x < 0)||decide (n<=x)) (fun k => .inr (k:Int)) (.inl ()) ?_ ?_]
 . rcases vG xa (fun x=>decide (x < 0)||decide (n<=x)) with ⟨k,h1,h2⟩ | ⟨h1,h2⟩
   . rw [h1]; unfold bad; simp [h2]
   . rw [h1]; unfold bad; simp [h2]
 . intro k hk;unfold me ir;simp only [dlt hk,cond_true,ah hk,M0,ak hk (by omega:xa.length<=9223372036854775807)];cases (decide (xa[k] < 0)||decide (n<=xa[k])) <;> rfl
 . simp [me]
theorem ej (xa:List Int) (n:Int) (hn:xa.length<=1000):dx xa n=some (!bad n xa):=BJ xa n (by omega)
abbrev Ar:=Int×Int×List (List St)×List St×List Sg
theorem BH {x:Tm} {a:Ar} (hx:x.2.2.2.2.1.length<=20) (hb:bad (a.2.2.1.length:Int) x.2.2.2.2.1=false) (hL:∀ t∈a.2.2.1,t.length<=20) :
   ∃ C:List (List St),loop (iA x a) ([],0)=some C/\(∀ t∈C,t.length<=20)/\∀ t∈C,t∈a.2.2.1:=by
 have hin (k:Nat) (hk:k < x.2.2.2.2.1.length):0<=x.2.2.2.2.1[k]/\x.2.2.2.2.1[k] < (a.2.2.1.length:Int):=by
   have:=V3.1 hb _ (S0 hk);simp at this; omega
 have hl:=bq (body:=iA x a) (fun k:Nat=>((x.2.2.2.2.1.take k).map (fun i=>a.2.2.1.getD i.toNat []),(k:Int))) x.2.2.2.2.1.length (b:=x.2.2.2.2.1.map (fun i=>a.2.2.1.getD i.toNat [])) ?_ ?_
 . have hm:∀ t∈x.2.2.2.2.1.map (fun i=>a.2.2.1.getD i.toNat []),t∈a.2.2.1:=by
     intro t ht;obtain ⟨i,hi,rfl⟩:=Y4.1 ht;obtain ⟨k,hk,rfl⟩:=W3 hi;have h2:=hin k hk;have:x.2.2.2.2.1[k].toNat < a.2.2.1.length:=by omega
     have e:a.2.2.1.getD x.2.2.2.2.1[k].toNat []=a.2.2.1[x.2.2.2.2.1[k].toNat]:=by simp [R1,this]
     rw [e]; exact S0 _
   refine ⟨_,hl,fun t ht=>?_,hm⟩;obtain ⟨i,hi,rfl⟩:=Y4.1 ht;obtain ⟨k,hk,rfl⟩:=W3 hi;have h2:=hin k hk;have:x.2.2.2.2.1[k].toNat < a.2.2.1.length:=by omega
   have e:a.2.2.1.getD x.2.2.2.2.1[k].toNat []=a.2.2.1[x.2.2.2.2.1[k].toNat]:=by simp [R1,this]
   rw [e]; exact hL _ (S0 _)
 . intro k hk;have h2:=hin k hk;have h3:x.2.2.2.2.1[k].toNat < a.2.2.1.length:=by omega
   have e:a.2.2.1.getD x.2.2.2.2.1[k].toNat []=a.2.2.1[x.2.2.2.2.1[k].toNat]:=by simp [R1,h3]
   unfold iA;simp only [dlt hk,cond_true,ah hk,M0];rw [ij h2.1 h2.2,M0,ar (by simp; omega),M0,ak hk (by omega),bz hk,Z2];simp only [M2,Y5,e]
 . simp [iA]
theorem rE {R:Int} {names:List Int} (hR:0 < R) (hn:bad R names=false) (i:Nat):0<=names.getD i 0/\names.getD i 0 < R:=by
 by_cases q:i < names.length
 . have e:names.getD i 0=names[i]:=by simp [R1,q]
   rw [e];have:=V3.1 hn _ (S0 q);simp at this; omega
 . have e:names.getD i 0=0:=by simp [R1,Q3 (bu0.1 q)]
   rw [e]; omega
theorem wQ {R:Int} {names:List Int} (hR:0 < R) (hn:bad R names=false) {t:List St}:rin R (t.map (sbs names))=false:=by
 refine jC fun x hx=>?_
 obtain ⟨y,_,rfl⟩:=Y4.1 hx;exact rE hR hn _
theorem Ct {R:Int} {s:Sg} {names:List Int} {C:List (List St)} {D:List St} (hR:0 < R) (hn:bad R names=false) (hC:∀ t∈C,t.length<=20/\rin R t=false) (hD:rin R D=false) (hs:s.2.1.length<=20/\s.2.2.1.length<=20/\s.2.2.2.length<=20):∀ n∈(csp s names C D).1,Gd R n:=by
 intro n h;unfold csp at h;split at h
 . simp at h
 split at h
 . simp at h
 split at h
 . simp at h
 split at h
 . have hb : ∀ k, k <= 20 -> ∀ n ∈ bds names s.2.1 k, Gd R n := by
     intro k
     induction k with
     | zero=>intro _ n hn; simp [bds] at hn
     | succ k ih =>
       intro hk n hn';simp only [bds,Y1,U1] at hn'
       rcases hn' with hn' | rfl
       . exact ih (by omega) n hn'
       . exact ⟨rE hR hn _,rE hR hn _,by simp,by show (0:Int)<=(k:Int); omega,by show (k:Int)<=_; omega⟩
   have hf : ∀ k, k <= 20 -> ∀ n ∈ fls names s.2.2.1 C k, Gd R n := by
     intro k
     induction k with
     | zero=>intro _ n hn; simp [fls] at hn
     | succ k ih =>
       intro hk n hn';simp only [fls,Y1] at hn'
       rcases hn' with hn' | hn'
       . exact ih (by omega) n hn'
       . unfold fl at hn';have hc:(C.getD k []).length<=20/\rin R (C.getD k [])=false:=by
           by_cases q:k < C.length
           . have e:C.getD k []=C[k]:=by simp [R1,q]
             rw [e]; exact hC _ (S0 q)
           . have e:C.getD k []=[]:=by simp [R1,Q3 (bu0.1 q)]
             rw [e]; exact ⟨by simp,rfl⟩
         exact gO (by decide) _ _ _ (by omega) (by omega) hc.2 (wQ hR hn) n hn'
   rcases Y1.1 h with h | h
   . rcases Y1.1 h with h | h
     . exact hb _ hs.1 n h
     . exact hf _ hs.2.1 n h
   . exact gO (by decide) _ _ 0 (by omega) (by simp; omega) (wQ hR hn) hD n h
 . simp at h
theorem yo (x:Tm) (a:Ar) (l2:x.2.2.2.1.length<=20) (l3:x.2.2.2.2.1.length<=20) (l4:x.2.2.2.2.2.length<=20) (hR:a.2.2.2.1.length<=20) (hL:∀ t∈a.2.2.1,t.length<=20) (hS:∀ s∈a.2.2.2.2,s.2.1.length<=20/\s.2.2.1.length<=20/\s.2.2.2.length<=20/\∀ t∈s.2.2.1,t.length<=20) :
   ∃ l e,dy x a=some (l,e)/\cz x a=some (l,e)/\l.length<=4000/\((0 < a.2.1/\(∀ t∈a.2.2.1,rin a.2.1 t=false)/\rin a.2.1 a.2.2.2.1=false)->∀ n∈l,Gd a.2.1 n):=by
 have same:ix x a=iA x a:=rfl;unfold dy cz;rw [show fe (x.1,x.2.1,x.2.2.1,x.2.2.2.1,x.2.2.2.2.1,x.2.2.2.2.2)=some (aB x) from rR x,show gt (x.1,x.2.1,x.2.2.1,x.2.2.2.1,x.2.2.2.2.1,x.2.2.2.2.2)=some (aB x) from nA x,same];have hw:m9 (x.1,x.2.1,x.2.2.1,x.2.2.2.1,x.2.2.2.2.1,x.2.2.2.2.2) (a.1,a.2.1,a.2.2.1,a.2.2.2.1,a.2.2.2.2)=some (!(bad a.1 x.2.2.2.1||bad (a.2.2.1.length:Int) x.2.2.2.2.1||bad a.2.1 x.2.2.2.2.2||(decide (x.1=4)&&(bad (a.2.2.1.length:Int) [x.2.2.1]||bad (a.2.2.2.2.length:Int) [x.2.1])))):=by
   unfold m9 iH ir;simp only [M0,qW x.2.2.2.1 _ (by omega:x.2.2.2.1.length<=1000),qW x.2.2.2.2.1 _ (by omega:x.2.2.2.2.1.length<=1000),qW x.2.2.2.2.2 _ (by omega:x.2.2.2.2.2.length<=1000)];have e (n i:Int):bad n [i]=(decide (i < 0)||decide (n<=i)):=by simp [bad]
   rw [e,e];cases bad a.1 x.2.2.2.1 <;> cases bad (a.2.2.1.length:Int) x.2.2.2.2.1 <;> cases bad a.2.1 x.2.2.2.2.2 <;> cases decide (x.1=4) <;> cases (decide (x.2.2.1 < 0)||decide ((a.2.2.1.length:Int)<=x.2.2.1)) <;> cases (decide (x.2.1 < 0)||decide ((a.2.2.2.2.length:Int)<=x.2.1)) <;> rfl
 rw [hw];by_cases hf:aB x=0
 . have o1 (i n:Int):dx [i] n=some (!bad n [i]):=ej [i] n (by simp);simp only [hf,M0,decide_true,Y0,cond_false,ej x.2.2.2.1 _ (by omega:x.2.2.2.1.length<=1000),ej x.2.2.2.2.1 _ (by omega:x.2.2.2.2.1.length<=1000),ej x.2.2.2.2.2 _ (by omega:x.2.2.2.2.2.length<=1000),o1,bf0];have seven:∃ l e,(some (([]:List Nd),(7:Int)):Option (List Nd×Int))=some (l,e)/\(some (([]:List Nd),(7:Int)):Option (List Nd×Int))=some (l,e)/\l.length<=4000/\((0 < a.2.1/\(∀ t∈a.2.2.1,rin a.2.1 t=false)/\rin a.2.1 a.2.2.2.1=false)->∀ n∈l,Gd a.2.1 n):=⟨[],7,rfl,rfl,by simp,by simp⟩
   cases b1:bad a.1 x.2.2.2.1 with
   | true=>exact seven
   | false =>
     cases b2:bad (a.2.2.1.length:Int) x.2.2.2.2.1 with
     | true=>exact seven
     | false =>
       cases b3:bad a.2.1 x.2.2.2.2.2 with
       | true=>exact seven
       | false =>
         by_cases k4:x.1=4
         . have n3:¬ x.1=3:=by omega
           rw [decide_eq_true k4,decide_eq_false n3];cases b4:bad (a.2.2.1.length:Int) [x.2.2.1] with
           | true=>exact seven
           | false =>
             cases b5:bad (a.2.2.2.2.length:Int) [x.2.1] with
             | true=>exact seven
             | false =>
               obtain ⟨C,c1,c2,c3⟩:=BH l3 b2 hL;simp [bad] at b4 b5;simp only [Q8,V7,Q6,Y0,cond_false,cond_true,M0,c1,N7,L7];rw [ij b5.1 b5.2,ij b4.1 b4.2];have hs:=hS _ (S0 (l:=a.2.2.2.2) (n:=x.2.1.toNat) (by omega));have ht:=hL _ (S0 (l:=a.2.2.1) (n:=x.2.2.1.toNat) (by omega));have hDm:=S0 (l:=a.2.2.1) (n:=x.2.2.1.toNat) (by omega);simp only [M0];generalize a.2.2.2.2[x.2.1.toNat]=S at hs ⊢;generalize a.2.2.1[x.2.2.1.toNat]=D at ht hDm ⊢;rw [show kQ (S.1,S.2.1,S.2.2.1,S.2.2.2) x.2.2.2.2.2 C D=_ from Bg S _ C D hs.2.2.1 hs.2.2.2 c2 ht,show kJ (S.1,S.2.1,S.2.2.1,S.2.2.2) x.2.2.2.2.2 C D=_ from vO S _ C D hs.2.2.1 hs.2.2.2 c2 ht];have hn:=DV S x.2.2.2.2.2 C D ⟨hs.1,hs.2.1,hs.2.2.1⟩ c2;exact ⟨(csp S x.2.2.2.2.2 C D).1,(csp S x.2.2.2.2.2 C D).2,rfl,rfl,hn,fun hg=>Ct hg.1 b3 (fun t ht=>⟨c2 t ht,hg.2.1 t (c3 t ht)⟩) (hg.2.1 _ hDm) ⟨hs.1,hs.2.1,hs.2.2.1⟩⟩
         . rw [decide_eq_false k4];by_cases k3:x.1=3
           . rw [decide_eq_true k3];cases hz:a.2.2.1 with
             | nil=>exact ⟨[],14,by simp,by simp,by simp,by simp⟩
             | cons t ts =>
               have ht:=hL t (by rw [hz]; simp);have hl0:decide ((((t :: ts).length:Nat):Int)=0)=false:=decide_eq_false (by simp; omega);simp only [hl0,Q8,V7,N7,Q6,Y0,cond_false,cond_true,M0,show aa (t :: ts) 0=some t from rfl];rw [nC _ _ _ _ (by omega) (by omega) (by omega),fg _ _ _ _ (by omega) (by omega) (by omega)];have hr:=cB 7 t a.2.2.2.1 0;by_cases q:shp t a.2.2.2.1=true
               . exact ⟨rel 7 0 t a.2.2.2.1,0,by simp [q],by simp [q],by omega,fun hg=>gO (by decide) _ _ 0 (by omega) (by omega) (hg.2.1 t (by simp)) hg.2.2⟩
               . exact ⟨[],8,by simp [q],by simp [q],by simp,by simp⟩
           . rw [decide_eq_false k3];exact ⟨[],0,rfl,rfl,by simp,by simp⟩
 . exact ⟨[],aB x,by simp [hf],by simp [hf],by simp,by simp⟩
theorem BB (xa xb:List Int) (hn:xa.length<=1073741824):gq xa xb=some (decide (xa=xb)):=by
 unfold gq;by_cases hl:xa.length=xb.length
 . rw [ic hl,cond_false,q9 (body:=mV xa xb) xa xb (.inr false) (.inl ()) hl ?_ ?_]
   . by_cases h:xa=xb <;> simp [h]
   . intro k h; unfold mV;have h2:k < xb.length:=by omega
     by_cases q:xa[k]=xb[k] <;> simp [ah h,ah h2,h,q,ak h (by omega)]
   . simp [mV]
 . rw [pp hl,cond_true];have:¬ xa=xb:=fun h=>hl (by rw [h])
   simp [this]
section
open Go.RowKit Lb
abbrev bd (l:List Int):Prop:=∀ n∈l,0<=n/\n<=4294967295
theorem yE (s:List UInt8) (k:Nat) (e:Int) (h:k<=s.length) (hl:s.length<=1073741824) :
   cg s (k:Int) e=some (if e≠0 then (0,(k:Int),e) else ((take (s.drop k)).1,(k:Int) + (take (s.drop k)).2.1,(take (s.drop k)).2.2)):=by
 unfold cg;by_cases he:e=0
 . subst he;simp only [decide_true,Y0,cond_false,lg s k h,M0,ne_eq,not_true_eq_false,if_false];rw [gH _ (by simp; omega)]
   rcases c9 (s.drop k) with ⟨n,m,ht,_,_,m0,m1,_⟩ | ⟨e,ht,he⟩
   . simp only [U0] at m1;simp only [ht,M0];rw [w64 (by omega) (by omega)]
   . simp only [ht,M0];rw [w64 (by omega) (by omega)]
 . simp [he]
theorem ig (s:List UInt8) (k:Nat) (e:Int) (h:k<=s.length) (hl:s.length<=1073741824) :
   ∃ (n:Int) (k':Nat) (e':Int),cg s (k:Int) e=some (n,(k':Int),e')/\k'<=s.length/\0<=n/\n<=4294967295/\(e'=0->e=0/\s.take k'=s.take k++put n)/\(e≠0->n=0/\e'=e):=by
 rw [yE s k e h hl];by_cases he:e=0
 . subst he;rw [if_neg (by simp)]
   rcases c9 (s.drop k) with ⟨n,m,ht,n0,n1,m0,m1,hp⟩ | ⟨e,ht,he⟩
   . simp only [U0] at m1;exact ⟨n,k + m,0,by rw [ht]; simp,by omega,n0,n1,fun _=>⟨rfl,by rw [hp,K7]⟩,fun h=>absurd rfl h⟩
   . exact ⟨0,k,e,by rw [ht]; simp,h,by omega,by omega,fun h=>absurd h he,fun h=>absurd rfl h⟩
 . rw [if_pos he];exact ⟨0,k,e,rfl,h,by omega,by omega,fun h=>absurd h he,fun _=>⟨rfl,rfl⟩⟩
theorem ia (s:List UInt8) (k:Nat) (n:Int) (T:List UInt8) (h:k<=s.length) (hl:s.length<=1073741824) (n0:0<=n) (n1:n<=4294967295) (hd:s.drop k=put n++T) :
   cg s (k:Int) 0=some (n,((k + (put n).length:Nat):Int),0)/\s.drop (k + (put n).length)=T/\k + (put n).length<=s.length:=by
 have hp:put n≠[]:=fun h=>by have:=(dK n).1 h; omega
 have hL:=congrArg M1 hd;simp only [U0,P0] at hL;refine ⟨?_,by rw [<- K4,hd,P5],by omega⟩;rw [yE s k 0 h hl,if_neg (by simp),hd,nS n hp T];have:=kU n;simp only [W0,W5,true_and,and_true];omega
theorem pt (s:List UInt8) (k:Nat) (e:Int) (h:k<=s.length) (hl:s.length<=1073741824) :
   ∃ (l:List Int) (k':Nat) (e':Int),d7 16 s (k:Int) e=some (l,(k':Int),e')/\k'<=s.length/\l.length<=16/\(e'=0->e=0/\bd l/\s.take k'=s.take k++put (l.length:Int)++l.flatMap put):=by
 unfold d7;obtain ⟨m,k1,e1,h1,h2,h3,h4,h5,h6⟩:=ig s k e h hl;simp only [h1,M0];have hc:(cond (decide (16 < m)) (some 6) (some e1):Option Int)=some (if 16 < m then 6 else e1):=by
   by_cases q:16 < m <;> simp [q]
 rw [hc,M0];have key:=Dv (body:=fQ s m) (fun st:List Int×Int×Int×Int=>st.2.1=((st.1.length:Nat):Int)/\st.1.length<=16/\∃ a:Nat,st.2.2.1=(a:Int)/\a<=s.length/\(st.2.2.2=0->e1=0/\m<=16/\(st.1.length:Int)<=m/\bd st.1/\s.take a=s.take k1++st.1.flatMap put))
   (fun st=>(m - st.2.1).toNat) (Q:=fun r:List Int×Int×Int=>r.1.length<=16/\∃ a:Nat,r.2.1=(a:Int)/\a<=s.length/\(r.2.2=0->e1=0/\(r.1.length:Int)=m/\bd r.1/\s.take a=s.take k1++r.1.flatMap put)) ?_
   (s:=([],0,(k1:Int),if 16 < m then 6 else e1)) ?_
 . obtain ⟨⟨l,a',e'⟩,q1,q2,a,rfl,q4,q5⟩:=key;dsimp only at *;rw [q1];refine ⟨l,a,e',rfl,q4,q2,fun h=>?_⟩;obtain ⟨r1,r2,r3,r4⟩:=q5 h;obtain ⟨z1,z2⟩:=h5 r1;exact ⟨z1,r3,by rw [r4,z2,r2]⟩
 . rintro ⟨l,c,a',e'⟩ ⟨hc0,i2,a,ha0,i4,i5⟩;dsimp only at hc0 i2 ha0 i5 ⊢;subst hc0;subst ha0;unfold fQ;dsimp only;by_cases q:(l.length:Int) < m/\e'=0
   . obtain ⟨q1,rfl⟩:=q;obtain ⟨r0,r1,r2,r3,r4⟩:=i5 rfl;obtain ⟨n,k2,e2,g1,g2,g3,g4,g5,g6⟩:=ig s a 0 i4 hl
     left
     refine ⟨(l++[n],((l.length + 1:Nat):Int),(k2:Int),e2),?_,⟨by simp,by simp; omega,k2,rfl,g2,fun hz=>?_⟩,?_⟩
     . rw [decide_eq_true q1,show decide ((0:Int)=0)=true from rfl,M7,cond_true,g1,M0];dsimp only;rw [ar (by simp; omega),M0,w64 (by omega) (by omega)];rfl
     . refine ⟨r0,r1,by simp; omega,?_,?_⟩
       . intro x hx
         rcases Y1.1 hx with hx | hx
         . exact r3 x hx
         . simp at hx; subst hx; exact ⟨g3,g4⟩
       . rw [(g5 hz).2,r4,N3]; simp
     . dsimp only; omega
   . right
     refine ⟨(l,(a:Int),e'),?_,i2,a,rfl,i4,fun hz=>?_⟩
     . have:(decide ((l.length:Int) < m)&&decide (e'=0))=false:=by
         by_cases q1:(l.length:Int) < m
         . have q2:¬ e'=0:=fun h=>q ⟨q1,h⟩
           simp [q2]
         . simp [q1]
       rw [this]; rfl
     . subst hz;obtain ⟨r0,r1,r2,r3,r4⟩:=i5 rfl;have:¬ (l.length:Int) < m:=fun h=>q ⟨h,rfl⟩
       exact ⟨r0,Int.le_antisymm r2 (Int.not_lt.1 this),r3,r4⟩
 . refine ⟨rfl,by simp,k1,rfl,h2,fun hz=>?_⟩;by_cases q:16 < m
   . simp [q] at hz
   . simp [q] at hz;exact ⟨hz,by omega,by simpa using h3,by simp [bd],by simp⟩
theorem pv (s:List UInt8) (k:Nat) (l:List Int) (T:List UInt8) (h:k<=s.length) (hl:s.length<=1073741824) (hs:bd l) (h16:l.length<=16) (hd:s.drop k=put (l.length:Int)++(l.flatMap put++T)) :
   ∃ k':Nat,d7 16 s (k:Int) 0=some (l,(k':Int),0)/\s.drop k'=T/\k'=k + (put (l.length:Int)).length + (l.flatMap put).length/\k'<=s.length:=by
 unfold d7;obtain ⟨h1,h2,h3⟩:=ia s k (l.length:Int) _ h hl (by omega) (by omega) hd;simp only [h1,M0];rw [decide_eq_false (by omega),cond_false,M0];have key:∀ j,j<=l.length->s.drop (k + (put (l.length:Int)).length + ((l.take j).flatMap put).length)=(l.drop j).flatMap put++T/\k + (put (l.length:Int)).length + ((l.take j).flatMap put).length<=s.length:=by
   intro j hj;have e:l.flatMap put=(l.take j).flatMap put++(l.drop j).flatMap put:=by rw [<- N3,Y2]
   have hL:=congrArg M1 h2;rw [e,O0] at h2;simp only [U0,P0,e] at hL;refine ⟨by rw [<- K4,h2,P5],by omega⟩
 have hloop:=bq (body:=fQ s (l.length:Int)) (fun j:Nat=>(l.take j,(j:Int),((k + (put (l.length:Int)).length + ((l.take j).flatMap put).length:Nat):Int),(0:Int))) l.length (b:=(l,((k + (put (l.length:Int)).length + (l.flatMap put).length:Nat):Int),0)) ?_ ?_
 . have hloop':loop (fQ s (l.length:Int)) ([],0,((k + (put (l.length:Int)).length:Nat):Int),0)=some (l,((k + (put (l.length:Int)).length + (l.flatMap put).length:Nat):Int),0):=by simpa using hloop
   rw [hloop'];refine ⟨_,rfl,?_,rfl,?_⟩
   . have:=(key l.length (by omega)).1;simpa using this
   . have:=(key l.length (by omega)).2;simpa using this
 . intro j hj;obtain ⟨q1,q2⟩:=key j (by omega);have hx:=hs l[j] (S0 hj);rw [N8 hj,O3,O0] at q1;obtain ⟨b1,b2,b3⟩:=ia s _ l[j] _ q2 hl hx.1 hx.2 q1;unfold fQ;dsimp only;rw [decide_eq_true (by omega),show decide ((0:Int)=0)=true from rfl,M7,cond_true,b1,M0];dsimp only;rw [ar (by simp; omega),M0,ak hj (by omega),bz hj,N3];simp [W2]
 . unfold fQ;simp
def pl (l:List Int):List UInt8:=put (l.length:Int)++l.flatMap put
def aH (x:Tm):List UInt8:=put x.1 ++
 if x.1=1 then put (x.2.2.2.1.getD 0 0)
 else if x.1=2 then pl x.2.2.2.1++pl x.2.2.2.2.1
 else if x.1=4 then put x.2.1++put x.2.2.1++put (x.2.2.2.1.getD 0 0)++pl x.2.2.2.2.2++pl x.2.2.2.2.1 else []
theorem dL (l:List Int) (h:l.length<=16):(pl l).length<=85:=by
 have:=qL l;have:=aR (l.length:Int);unfold pl; simp only [P0]; omega
theorem nI (l:List Int) (h:l.length<=16):gf l=some (pl l):=by
 unfold gf;have h1:=qL l;have h2:=aR (l.length:Int);rw [ew,M0,gL l (by omega),M0,ar (by omega)]; rfl
theorem Er (x:Tm):kS x=some (if aB x=0 then (aH x,0) else ([],aB x)):=by
 unfold kS;rw [show fe (x.1,x.2.1,x.2.2.1,x.2.2.2.1,x.2.2.2.2.1,x.2.2.2.2.2)=some (aB x) from rR x,M0];by_cases hf:aB x=0
 . obtain ⟨hr,l1,l2,l3⟩:=iV hf;obtain ⟨k,g,d,to,args,ps⟩:=x;dsimp only at l1 l2 l3 hr ⊢;have b0:=aR k;rw [if_pos hf,decide_eq_true hf,Y0,cond_false,ew,M0,cQ _ _ (by simp; omega),M0,M4];unfold dm at hr;unfold aH;dsimp only at hr ⊢;by_cases k1:k=1
   . rw [if_pos k1] at hr ⊢;simp only [Q0,decide_eq_true_eq] at hr
     match to,hr.1.1 with
     | [t],_ =>
       have b1:=aR t;rw [decide_eq_true k1,cond_true,show aa [t] 0=some t from rfl,M0,ew,M0,cQ _ _ (by omega)];rfl
   . rw [if_neg k1] at hr ⊢;rw [decide_eq_false k1,cond_false];by_cases k2:k=2
     . have b1:=dL to l1;have b2:=dL args l2;rw [if_pos k2,decide_eq_true k2,cond_true,nI to l1,M0,cQ _ _ (by omega),M0,nI args l2,M0,cQ _ _ (by simp only [P0]; omega)];simp
     . rw [if_neg k2] at hr ⊢;rw [decide_eq_false k2,cond_false];by_cases k4:k=4
       . rw [if_neg (by omega),if_pos k4] at hr;rw [if_pos k4];simp only [decide_eq_true_eq] at hr
         match to,hr with
         | [t],_ =>
           have b1:=aR t;have b2:=aR g;have b3:=aR d;have b4:=dL args l2;have b5:=dL ps l3;rw [decide_eq_true k4,cond_true,show aa [t] 0=some t from rfl,M0,gL _ (by simp),M0,cQ _ _ (by simp; omega),M0,nI ps l3,M0,cQ _ _ (by simp; omega),M0,nI args l2,M0,cQ _ _ (by simp; omega)];simp
       . rw [if_neg k4,decide_eq_false k4,cond_false];simp
 . rw [if_neg hf,decide_eq_false hf]; rfl
abbrev pL (y:Tm):Prop:=okN y.2.1/\okN y.2.2.1/\bd y.2.2.2.1/\bd y.2.2.2.2.1/\bd y.2.2.2.2.2
theorem yX (s:List UInt8) (hl:s.length<=1073741824):∃ (y:Tm) (n e:Int),cJ s=some (y.1,y.2.1,y.2.2.1,y.2.2.2.1,y.2.2.2.2.1,y.2.2.2.2.2,n,e)/\(e=0->∃ m:Nat,n=(m:Int)/\m<=s.length/\aB y=0/\aH y=s.take m/\pL y):=by
 unfold cJ;obtain ⟨k,a,e,h1,h2,h3,h4,h5,h6⟩:=ig s 0 0 (by omega) hl;have h1':cg s 0 0=some (k,(a:Int),e):=h1;rw [h1',M0];by_cases he:e=0
 . subst he;obtain ⟨_,q0⟩:=h5 rfl;rw [N6,M4] at q0;simp only [decide_true,cond_true];unfold mn;by_cases k1:k=1
   . subst k1;obtain ⟨t,b,f,g1,g2,g3,g4,g5,g6⟩:=ig s a 0 h2 hl;simp only [decide_true,cond_true,g1,M0];by_cases hf:f=0
     . subst hf;refine ⟨(1,0,0,[t],[],[]),(b:Int),0,rfl,fun _=>⟨b,rfl,g2,rfl,?_,⟨by simp,by simp⟩,⟨by simp,by simp⟩,by simpa [bd] using And.intro g3 g4,by simp [bd],by simp [bd]⟩⟩;rw [(g5 rfl).2,q0]; rfl
     . exact ⟨(0,0,0,[],[],[]),0,f,by simp [hf],fun h=>absurd h hf⟩
   . rw [decide_eq_false k1,cond_false];by_cases k2:k=2
     . subst k2;obtain ⟨l,b,f,g1,g2,g3,g4⟩:=pt s a 0 h2 hl;simp only [decide_true,cond_true,g1,M0];have hc:(cond ((decide (f=0))&&(decide (((l.length:Nat):Int)=0))) (some 3) (some f):Option Int)=some (if f=0/\l.length=0 then 3 else f):=by
         by_cases q1:f=0 <;> by_cases q2:l.length=0 <;> simp [q1,q2]
       rw [hc,M0];obtain ⟨l2,b2,f2,i1,i2,i3,i4⟩:=pt s b (if f=0/\l.length=0 then 3 else f) g2 hl;simp only [i1,M0];by_cases hf:f2=0
       . subst hf;obtain ⟨j1,j2,j3⟩:=i4 rfl;by_cases q:f=0/\l.length=0
         . rw [if_pos q] at j1; cases j1
         . rw [if_neg q] at j1;obtain ⟨u1,u2,u3⟩:=g4 j1;have hlen:0 < l.length:=by
             have:¬ l.length=0:=fun h=>q ⟨j1,h⟩
             omega
           refine ⟨(2,0,0,l,l2,[]),(b2:Int),0,rfl,fun _=>⟨b2,rfl,i2,?_,?_,⟨by simp,by simp⟩,⟨by simp,by simp⟩,u2,j2,by simp [bd]⟩⟩
           . unfold aB dm dp;simp [hlen]; omega
           . rw [j3,u3,q0]; unfold aH pl; simp
       . exact ⟨(0,0,0,[],[],[]),0,f2,by simp [hf],fun h=>absurd h hf⟩
     . rw [decide_eq_false k2,cond_false];by_cases k3:k=3
       . subst k3;refine ⟨(3,0,0,[],[],[]),(a:Int),0,rfl,fun _=>⟨a,rfl,h2,rfl,?_,⟨by simp,by simp⟩,⟨by simp,by simp⟩,by simp [bd],by simp [bd],by simp [bd]⟩⟩;rw [q0]; unfold aH; simp
       . rw [decide_eq_false k3,cond_false];by_cases k4:k=4
         . subst k4;obtain ⟨t1,b1,f1,g1,g2,g3,g4,g5,g6⟩:=ig s a 0 h2 hl;simp only [decide_true,cond_true,g1,M0];obtain ⟨t2,b2,f2,g1',g2',g3',g4',g5',g6'⟩:=ig s b1 f1 g2 hl;simp only [g1',M0];obtain ⟨t3,b3,f3,i1,i2,i3,i4,i5,i6⟩:=ig s b2 f2 g2' hl;simp only [i1,M0];obtain ⟨l4,b4,f4,j1,j2,j3,j4⟩:=pt s b3 f3 i2 hl;simp only [j1,M0];obtain ⟨l5,b5,f5,m1,m2,m3,m4⟩:=pt s b4 f4 j2 hl;simp only [m1,M0];by_cases hf:f5=0
           . subst hf;obtain ⟨u1,u2,u3⟩:=m4 rfl;obtain ⟨v1,v2,v3⟩:=j4 u1;obtain ⟨w1,w2⟩:=i5 v1;obtain ⟨x1,x2⟩:=g5' w1;obtain ⟨y1,y2⟩:=g5 x1;refine ⟨(4,t1,t2,[t3],l5,l4),(b5:Int),0,rfl,fun _=>⟨b5,rfl,m2,?_,?_,⟨g3,g4⟩,⟨g3',g4'⟩,by simpa [bd] using And.intro i3 i4,u2,v2⟩⟩
             . unfold aB dm;simp; omega
             . rw [u3,v3,w2,x2,y2,q0]; unfold aH pl; simp
           . exact ⟨(0,0,0,[],[],[]),0,f5,by simp [hf],fun h=>absurd h hf⟩
         . rw [decide_eq_false k4,cond_false];exact ⟨(0,0,0,[],[],[]),0,3,rfl,fun h=>by cases h⟩
 . simp only [decide_eq_false he,cond_false];exact ⟨(0,0,0,[],[],[]),0,e,by simp [he],fun h=>absurd h he⟩
theorem FQ (x:Tm) (more:List UInt8) (hf:aB x=0) (hm:more.length<=1000000) (s0:0<=x.2.1/\x.2.1<=4294967295) (s1:0<=x.2.2.1/\x.2.2.1<=4294967295) (s2:bd x.2.2.2.1) (s3:bd x.2.2.2.2.1) (s4:bd x.2.2.2.2.2) :
   cJ (aH x++more)=some (x.1,x.2.1,x.2.2.1,x.2.2.2.1,x.2.2.2.2.1,x.2.2.2.2.2,(((aH x).length:Nat):Int),0)/\(aH x).length<=1000:=by
 obtain ⟨hr,l1,l2,l3⟩:=iV hf;obtain ⟨k,g,d,to,args,ps⟩:=x;dsimp only at *;have b0:=aR k;have b1:=aR g;have b2:=aR d;have b3:=aR (to.getD 0 0);have p1:=dL to l1;have p2:=dL args l2;have p3:=dL ps l3;have hlen:(aH (k,g,d,to,args,ps)).length<=1000:=by
   unfold aH;dsimp only;split
   . simp only [P0]; omega
   . split
     . simp only [P0]; omega
     . split
       . simp only [P0]; omega
       . simp only [P0,M3]; omega
 refine ⟨?_,hlen⟩;have hL:(aH (k,g,d,to,args,ps)++more).length<=1073741824:=by rw [P0]; omega
 have e:aH (k,g,d,to,args,ps)++more=put k++((aH (k,g,d,to,args,ps)).drop (put k).length++more):=by
   unfold aH; dsimp only; rw [P5,O0]
 have hk : 0 <= k /\ k <= 4 := by
   unfold dm at hr;dsimp only at hr;split at hr
   . omega
   . split at hr
     . omega
     . split at hr
       . omega
       . split at hr
         . omega
         . cases hr
 unfold cJ;obtain ⟨n1,n2,n3⟩:=ia (aH (k,g,d,to,args,ps)++more) 0 k _ (by omega) hL hk.1 (by omega) (by rw [X2]; exact e);have n1':cg (aH (k,g,d,to,args,ps)++more) 0 0=some (k,((0 + (put k).length:Nat):Int),0):=n1;rw [n1',M0];simp only [decide_true,cond_true];generalize hS:aH (k,g,d,to,args,ps)++more=S at *;have hT:(aH (k,g,d,to,args,ps)).length=S.length - more.length:=by rw [<- hS,P0]; omega
 have hT2:(((aH (k,g,d,to,args,ps)).length:Nat):Int)=((S.length - more.length:Nat):Int):=by rw [hT]
 rw [hT2];clear hT2 hlen;unfold aH at n2;unfold mn;unfold dm dp at hr;dsimp only at hr n2;rw [P5] at n2;have fin (a:Nat) (h:S.drop a=more) (h2:a<=S.length):((a:Nat):Int)=((S.length - more.length:Nat):Int):=by
   have:=congrArg M1 h;rw [U0] at this;omega
 by_cases k1:k=1
 . subst k1;simp only [if_true,Q0,decide_eq_true_eq] at hr n2;obtain ⟨⟨r1,r2⟩,r3⟩:=hr;obtain ⟨t,rfl⟩:=aX0.1 r1
   . have ht:=s2 t (by simp);obtain ⟨g1,g2,g3⟩:=ia S _ t more n3 hL ht.1 ht.2 n2;simp only [decide_true,cond_true,g1,M0,Y0,cond_false,fin _ g2 g3];simp at r3;have e1:args=[]:=V0.1 r2;simp [r3.1.1,r3.1.2,r3.2,e1]
 . rw [if_neg k1] at hr n2;rw [decide_eq_false k1,cond_false];by_cases k2:k=2
   . subst k2;simp only [if_true,Q0,decide_eq_true_eq] at hr n2;obtain ⟨r1,r3⟩:=hr;rw [O0] at n2;obtain ⟨a1,g1,g2,g3,g4⟩:=pv S _ to (pl args++more) n3 hL s2 l1 (by rw [n2]; simp only [pl,O0]);have g2':S.drop a1=put (args.length:Int)++(args.flatMap put++more):=by rw [g2]; simp only [pl,O0]
     obtain ⟨a2,i1,i2,i3,i4⟩:=pv S a1 args more g4 hL s3 l2 g2';have hne:(decide ((0:Int)=0)&&decide (((to.length:Nat):Int)=0))=false:=by simp; intro h; rw [h] at r1; simp at r1
     simp only [decide_true,cond_true,g1,M0];rw [show (true&&decide (((to.length:Nat):Int)=0))=false from hne,cond_false];simp only [M0,i1,decide_true,Y0,cond_false,fin _ i2 i4];simp at r3;simp [r3.1.1,r3.1.2,r3.2]
   . rw [if_neg k2] at hr n2;rw [decide_eq_false k2,cond_false];by_cases k3:k=3
     . subst k3;simp only [if_true,Q0,decide_eq_true_eq] at hr;rw [if_neg (by omega),M4] at n2;obtain ⟨⟨r1,r2⟩,r3⟩:=hr;simp only [decide_true,cond_true,M0,Y0,cond_false,fin _ n2 n3];simp at r3;have e1:args=[]:=V0.1 r2;have e2:to=[]:=V0.1 r1;simp [r3.1.1,r3.1.2,r3.2,e1,e2]
     . rw [if_neg k3] at hr;rw [decide_eq_false k3,cond_false];by_cases k4:k=4
       . subst k4;simp only [if_true,decide_eq_true_eq] at hr n2;obtain ⟨t,rfl⟩:=aX0.1 hr
         . have ht:=s2 t (by simp);simp only [O0] at n2;obtain ⟨g1,g2,g3⟩:=ia S _ g _ n3 hL s0.1 s0.2 n2;obtain ⟨i1,i2,i3⟩:=ia S _ d _ g3 hL s1.1 s1.2 g2;obtain ⟨j1,j2,j3⟩:=ia S _ t _ i3 hL ht.1 ht.2 i2;obtain ⟨a4,m1,m2,m3,m4⟩:=pv S _ ps (pl args++more) j3 hL s4 l3 (by rw [j2]; simp only [pl,O0]);obtain ⟨a5,o1,o2,o3,o4⟩:=pv S a4 args more m4 hL s3 l2 (by rw [m2]; simp only [pl,O0]);simp only [decide_true,cond_true,g1,i1,j1,m1,o1,M0,Y0,cond_false,fin _ o2 o4]
       . rw [if_neg k4] at hr; cases hr
end
set_option linter.unusedSectionVars false
section
open Go.RowKit Lb
section
variable {α β γ δ σ ρ:Type}
theorem CW (p:Ps α) (q:α->Ps β) (r:β->Ps γ):pb (pb p q) r=pb p fun x=>pb (q x) r:=by
 funext s
 cases h:p s with
 | inl e=>rw [fB h,fB (fB h)]
 | inr xm =>
   obtain ⟨x,m⟩:=xm;rw [bG h];cases h2:q x (s.drop m) with
   | inl e =>
     have h3:pb p q s = .inl e:=by rw [bG h,h2]; rfl
     rw [fB h3,fB h2]; rfl
   | inr yk =>
     obtain ⟨y,k⟩:=yk;have h3:pb p q s = .inr (y,m + k):=by rw [bG h,h2]; rfl
     rw [bG h3,bG h2,K4];cases r y (s.drop (m + k)) with
     | inl e=>rfl
     | inr z=>obtain ⟨z,i⟩:=z; simp [eQ,W2]
structure Run (F:List UInt8->Int->Int->Option ρ) (okr:α->List UInt8->Int->ρ->Prop) (er:Int->ρ->Prop) (p:Ps α):Prop where
 ok:∀ s (c:Nat) x m,s.length + c<=1000000->p s = .inr (x,m)->∃ (d:Nat) (r:ρ),(d<=m/\(1<=m->1<=d))/\F s (c:Int) 0=some r/\okr x (s.drop m) ((c + d:Nat):Int) r
 err:∀ s (c:Nat) e,s.length + c<=1000000->p s = .inl e->∃ r,F s (c:Int) 0=some r/\er e r
 bad:∀ s c e,e≠0->∃ r,F s c e=some r/\er e r
abbrev Rds (f:List UInt8->Int->Int->Option δ) (mk:α->List UInt8->Int->Int->δ) (p:Ps α):Prop :=
 Run f (fun x s c t=>t=mk x s c 0) (fun e t=>∃ x s c,t=mk x s c e) p
theorem Run.bind {f:List UInt8->Int->Int->Option δ} {mk:α->List UInt8->Int->Int->δ} {p:Ps α} {G:δ->Option ρ} {q:α->Ps β} {okr:β->List UInt8->Int->ρ->Prop} {er:Int->ρ->Prop}
   (h:Rds f mk p) (hp:Sane p) (hG:∀ x,Run (fun s c e=>G (mk x s c e)) okr er (q x)):Run (fun s c e=>(f s c e).bind G) okr er (pb p q) where
 ok:=by
   intro s c y k hs hr;obtain ⟨x,m,j,h1,h2,rfl⟩:=bF hr;have hm:=hp.len _ _ _ h1;obtain ⟨d,t,hd,hf,rfl⟩:=h.ok s c x m hs h1;obtain ⟨d',r,hd',hf',ho⟩:=(hG x).ok (s.drop m) (c + d) y j (by rw [U0]; omega) h2;refine ⟨d + d',r,by omega,by show (f s c 0).bind G=_; rw [hf]; exact hf',?_⟩;rw [K4] at ho; rw [<- W2]; exact ho
 err := by
   intro s c e hs hr
   rcases fA hr with h1 | ⟨x,m,h1,h2⟩
   . obtain ⟨t,hf,x,s',c',rfl⟩:=h.err s c e hs h1;obtain ⟨r,hr,he⟩:=(hG x).bad s' c' e (hp.err _ _ h1);exact ⟨r,by show (f s c 0).bind G=_; rw [hf]; exact hr,he⟩
   . have hm:=hp.len _ _ _ h1;obtain ⟨d,t,hd,hf,rfl⟩:=h.ok s c x m hs h1;obtain ⟨r,hf',he⟩:=(hG x).err (s.drop m) (c + d) e (by rw [U0]; omega) h2;exact ⟨r,by show (f s c 0).bind G=_; rw [hf]; exact hf',he⟩
 bad:=by
   intro s c e he;obtain ⟨t,hf,x,s',c',rfl⟩:=h.bad s c e he;obtain ⟨r,hr,h2⟩:=(hG x).bad s' c' e he;exact ⟨r,by show (f s c e).bind G=_; rw [hf]; exact hr,h2⟩
theorem Run.ret {F:List UInt8->Int->Int->Option ρ} {okr:α->List UInt8->Int->ρ->Prop} {er:Int->ρ->Prop} {x:α} (h:∀ s c e,∃ r,F s c e=some r/\(e=0->okr x s c r)/\(e≠0->er e r)):Run F okr er (aF x) where
 ok:=by
   intro s c y m hs hr;cases hr;obtain ⟨r,h1,h2,h3⟩:=h s c 0;exact ⟨0,r,by omega,h1,h2 rfl⟩
 err:=by intro s c e hs hr; cases hr
 bad:=by
   intro s c e he;obtain ⟨r,h1,h2,h3⟩:=h s c e;exact ⟨r,h1,h3 he⟩
theorem Run.map {f:List UInt8->Int->Int->Option δ} {mk:α->List UInt8->Int->Int->δ} {p:Ps α} {G:δ->Option ρ} {okr:α->List UInt8->Int->ρ->Prop} {er:Int->ρ->Prop}
   (h:Rds f mk p) (hp:Sane p) (hG:∀ x s c e,∃ r,G (mk x s c e)=some r/\(e=0->okr x s c r)/\(e≠0->er e r)):Run (fun s c e=>(f s c e).bind G) okr er p where
 ok:=by
   intro s c x m hs hr;obtain ⟨d,t,hd,hf,rfl⟩:=h.ok s c x m hs hr;obtain ⟨r,h1,h2,h3⟩:=hG x (s.drop m) ((c + d:Nat):Int) 0;exact ⟨d,r,hd,by show (f s c 0).bind G=_; rw [hf]; exact h1,h2 rfl⟩
 err:=by
   intro s c e hs hr;obtain ⟨t,hf,x,s',c',rfl⟩:=h.err s c e hs hr;obtain ⟨r,h1,h2,h3⟩:=hG x s' c' e;exact ⟨r,by show (f s c 0).bind G=_; rw [hf]; exact h1,h3 (hp.err _ _ hr)⟩
 bad:=by
   intro s c e he;obtain ⟨t,hf,x,s',c',rfl⟩:=h.bad s c e he;obtain ⟨r,h1,h2,h3⟩:=hG x s' c' e;exact ⟨r,by show (f s c e).bind G=_; rw [hf]; exact h1,h3 he⟩
theorem Run.one {f:List UInt8->Int->Int->Option δ} {mk:α->List UInt8->Int->Int->δ} {p:Ps α} {z:α} (hpos:∀ s x m,p s = .inr (x,m)->1<=m)
   (h:∀ s c e,e≠0->f s c e=some (mk z s c e)) (hok:∀ s (c:Nat) x m,s.length + c<=1000000->p s = .inr (x,m)->f s c 0=some (mk x (s.drop m) ((c + 1:Nat):Int) 0))
   (herr:∀ s (c:Nat) e,s.length + c<=1000000->p s = .inl e->f s c 0=some (mk z s c e)):Rds f mk p where
 ok:=fun s c x m hs hr=>⟨1,_,⟨hpos _ _ _ hr,fun _=>T2 _⟩,hok s c x m hs hr,rfl⟩
 err:=fun s c e hs hr=>⟨_,herr s c e hs hr,_,_,_,rfl⟩
 bad:=fun s c e he=>⟨_,h s c e he,_,_,_,rfl⟩
theorem Run.fn {F F':List UInt8->Int->Int->Option ρ} {okr:α->List UInt8->Int->ρ->Prop} {er:Int->ρ->Prop} {p:Ps α} (h:Run F okr er p) (e:∀ s c e,F' s c e=F s c e):Run F' okr er p :=
 (funext fun s=>funext fun c=>funext fun x=>e s c x:F'=F) ▸ h
theorem Run.many {p:Ps α} (hp:Sane p) (hpos:∀ s x m,p s = .inr (x,m)->1<=m) {body:σ->Option (σ⊕ρ)} (n:Int) (st:List α->Int->List UInt8->Int->Int->σ) (fin:List α->List UInt8->Int->Int->ρ)
   (hend:∀ acc i s c e,(n<=i\/e≠0)->body (st acc i s c e)=some (.inr (fin acc s c e)))
   (hgo:∀ acc:List α,acc.length<=1000000->((acc.length:Nat):Int) < n->∃ B:List UInt8->Int->Int->Option (σ⊕ρ),(∀ s c,body (st acc ((acc.length:Nat):Int) s c 0)=B s c 0)/\Run B (fun x s c r=>r = .inl (st (acc++[x]) ((acc.length + 1:Nat):Int) s c 0)) (fun e r=>∃ a i s c,r = .inl (st a i s c e)) p) :
   Rds (fun s c e=>loop body (st [] 0 s c e)) fin (bK p n.toNat) where
 ok := by
   have gen:∀ (m:Nat) (acc:List α) (s:List UInt8) (c:Nat) (xs:List α) (k:Nat),acc.length + m=n.toNat->acc.length + s.length<=1000000->s.length + c<=1000000->bK p m s = .inr (xs,k) ->
       ∃ d,(d<=k/\(1<=k->1<=d))/\loop body (st acc ((acc.length:Nat):Int) s (c:Int) 0)=some (fin (acc++xs) (s.drop k) ((c + d:Nat):Int) 0):=by
     intro m
     induction m with
     | zero =>
       intro acc s c xs k h1 h2 h3 hr;cases hr;exact ⟨0,by omega,by rw [b9 (hend _ _ _ _ _ (.inl (by omega)))]; simp⟩
     | succ m ih =>
       intro acc s c xs k h1 h2 h3 hr;obtain ⟨x,a,j,h4,h5,rfl⟩:=bF hr;obtain ⟨ys,b,j',h6,h7,rfl⟩:=bF h5;cases h7;obtain ⟨B,hB,hR⟩:=hgo acc (by omega) (by omega);have e1:=hp.len _ _ _ h4;have e2:=hpos _ _ _ h4;obtain ⟨d,r,hd,hf,rfl⟩:=hR.ok s c x a h3 h4;obtain ⟨d',hd',hl⟩:=ih (acc++[x]) (s.drop a) (c + d) ys b (by simp; omega) (by simp; omega) (by rw [U0]; omega) h6;refine ⟨d + d',by omega,?_⟩;rw [dE ((hB s c).trans hf)];simp only [P0,X1,M3,O2,O0,L4,M4,K4] at hl;rw [hl]; simp [W2]
   intro s c xs k hs hr;obtain ⟨d,hd,hl⟩:=gen n.toNat [] s c xs k (by simp) (by simp; omega) hs hr;exact ⟨d,_,hd,hl,rfl⟩
 err := by
   have gen:∀ (m:Nat) (acc:List α) (s:List UInt8) (c:Nat) (e:Int),acc.length + m=n.toNat->acc.length + s.length<=1000000->s.length + c<=1000000->bK p m s = .inl e ->
       ∃ xs s' c',loop body (st acc ((acc.length:Nat):Int) s (c:Int) 0)=some (fin xs s' c' e):=by
     intro m
     induction m with
     | zero=>intro acc s c e h1 h2 h3 hr; cases hr
     | succ m ih =>
       intro acc s c e h1 h2 h3 hr;obtain ⟨B,hB,hR⟩:=hgo acc (by omega) (by omega)
       rcases fA hr with h4 | ⟨x,a,h4,h5⟩
       . obtain ⟨r,hf,a,i,s',c',rfl⟩:=hR.err s c e h3 h4;rw [dE ((hB s c).trans hf),b9 (hend _ _ _ _ _ (.inr (hp.err _ _ h4)))];exact ⟨_,_,_,rfl⟩
       . rcases fA h5 with h6 | ⟨ys,b,h6,h7⟩
         . have e1:=hp.len _ _ _ h4;have e2:=hpos _ _ _ h4;obtain ⟨d,r,hd,hf,rfl⟩:=hR.ok s c x a h3 h4;obtain ⟨xs,s',c',hl⟩:=ih (acc++[x]) (s.drop a) (c + d) e (by simp; omega) (by simp; omega) (by rw [U0]; omega) h6;rw [dE ((hB s c).trans hf)];simp only [P0,X1,M3,O2] at hl;exact ⟨xs,s',c',hl⟩
         . cases h7
   intro s c e hs hr;obtain ⟨xs,s',c',hl⟩:=gen n.toNat [] s c e (by simp) (by simp; omega) hs hr;exact ⟨_,hl,_,_,_,rfl⟩
 bad:=fun s c e he=>⟨_,b9 (hend _ _ _ _ _ (.inr he)),_,_,_,rfl⟩
structure Got (F:List UInt8->Option ρ) (okr:α->List UInt8->ρ->Prop) (er:Int->ρ->Prop) (p:Ps α):Prop where
 ok:∀ s x m,s.length<=1000000->p s = .inr (x,m)->∃ r:ρ,F s=some r/\okr x (s.drop m) r
 err:∀ s e,s.length<=1000000->p s = .inl e->∃ r,F s=some r/\er e r
abbrev Gds (f:List UInt8->Option δ) (mk:α->List UInt8->Int->δ) (p:Ps α):Prop :=
 Got f (fun x s t=>t=mk x s 0) (fun e t=>∃ x s,t=mk x s e) p
theorem Got.map {f:List UInt8->Option δ} {mk:α->List UInt8->Int->δ} {p:Ps α} {G:δ->Option ρ} {okr:α->List UInt8->ρ->Prop} {er:Int->ρ->Prop}
   (h:Gds f mk p) (hp:Sane p) (hG:∀ x s,∃ r,G (mk x s 0)=some r/\okr x s r) (hb:∀ x s e,e≠0->∃ r,G (mk x s e)=some r/\er e r):Got (fun s=>(f s).bind G) okr er p where
 ok:=by
   intro s x m hs hr;obtain ⟨t,hf,rfl⟩:=h.ok s x m hs hr;obtain ⟨r,h1,h2⟩:=hG x (s.drop m);exact ⟨r,by show (f s).bind G=_; rw [hf]; exact h1,h2⟩
 err:=by
   intro s e hs hr;obtain ⟨t,hf,x,s',rfl⟩:=h.err s e hs hr;obtain ⟨r,h1,h2⟩:=hb x s' e (hp.err _ _ hr);exact ⟨r,by show (f s).bind G=_; rw [hf]; exact h1,h2⟩
end
end
section
open Go.RowKit Lb
abbrev bM:=List Stm×Tm
abbrev Bod:=Int×Int×List (Int×Int)×List (List St)×List St×List Sgt×List bM
def cU:Ps Stm:=fun s=>if (aI s).2.2.2.2.2.2=0 then .inr (((aI s).1,(aI s).2.1,(aI s).2.2.1,(aI s).2.2.2.1,(aI s).2.2.2.2.1),(aI s).2.2.2.2.2.1.toNat) else .inl (aI s).2.2.2.2.2.2
def dv:Ps Tm:=fun s=>if s.length<=1000000 then match cJ s with
 | some (a,b,c,d,f,g,n,e)=>if e=0 then .inr ((a,b,c,d,f,g),n.toNat) else .inl e
 | none => .inl 1 else .inl 1
def bY:Ps bM:=pb (aK 65536 cU) fun l=>pb dv fun t=>aF (l,t)
def lN:Ps Bod:=pb (dn 65536) fun u=>pb (dn 65536) fun n=>pb (dJ 65536) fun B=>pb (aK 65536 bC) fun L=>pb bC fun R=>pb (aK 65536 b8) fun S=>pb (aK 65536 bY) fun X=>aF (u,n,B,L,R,S,X)
theorem CQ {x:Stm} (h:fOk x=true):cH x≠[]:=by
 have h6:0<=x.1/\x.1<=5:=by
   unfold fOk at h;simp only [Q0,decide_eq_true_eq] at h;exact ⟨h.1.1.1.1,h.1.1.1.2⟩
 intro hc;have:put x.1=[]:=by
   unfold cH at hc;simp only [bJ] at hc;exact (ba0.1 hc).1
 have:=(dK _).1 this;omega
theorem nJ {s:List UInt8} {x:Stm} {m:Nat} (h:cU s = .inr (x,m)):aI s=(x.1,x.2.1,x.2.2.1,x.2.2.2.1,x.2.2.2.2,(m:Int),0)/\m<=s.length/\1<=m/\fOk x=true/\0<=x.2.2.2.1/\x.2.2.2.1 < 2147483648/\cH x=s.take m/\okN x.2.1/\okN x.2.2.1:=by
 unfold cU at h;split at h
 . rename_i h0;obtain ⟨m',h1,h2,h3,h4,h5,h6,h7,h8⟩:=Co s h0;rw [h1,O1] at h;simp only [an0,W5] at h;obtain ⟨rfl,rfl⟩:=h;refine ⟨?_,h2,?_,h3,h4,h5,h6,h7,h8⟩
   . rw [<- h1,<- h0]
   . rcases O9 m' with rfl | hm
     . rw [N6] at h6; exact absurd h6 (CQ h3)
     . exact hm
 . cases h
theorem vP {s:List UInt8} {e:Int} (h:cU s = .inl e):aI s=(0,0,0,0,false,0,e)/\e≠0:=by
 unfold cU at h;split at h
 . cases h
 . rename_i h0;cases h;refine ⟨?_,h0⟩;unfold aI at h0 ⊢;split
   . rfl
   . split
     . rfl
     . split
       . rfl
       . rename_i h1 h2 h3;rw [if_neg h1,if_neg h2,if_neg h3] at h0;exact absurd rfl h0
theorem Sane.stmt:Sane cU:=⟨fun s e h=>(vP h).2,fun s x m h=>(nJ h).2.1⟩
theorem wX:∀ (s:List UInt8) (x:Stm) (m:Nat),cU s = .inr (x,m)->1<=m:=fun s x m h=>(nJ h).2.2.1
theorem F4 {s:List UInt8} {y:Tm} {n e:Int} (h:cJ s=some (y.1,y.2.1,y.2.2.1,y.2.2.2.1,y.2.2.2.2.1,y.2.2.2.2.2,n,e)) (he:e≠0):n=0:=by
 unfold cJ at h;obtain ⟨⟨a1,a2,a3⟩,_,h⟩:=aN0.1 h;obtain ⟨⟨b1,b2,b3,b4,b5,b6,b7⟩,_,h⟩:=aN0.1 h;dsimp only at h;by_cases h0:b2=0
 . rw [decide_eq_true h0] at h;simp only [Y0,cond_false,W0,W5] at h;exact absurd h.2.2.2.2.2.2.2.symm he
 . rw [decide_eq_false h0] at h;simp only [Q6,cond_true,W0,W5] at h;exact h.2.2.2.2.2.2.1.symm
theorem C2 {x:Tm} (h:aB x=0):aH x≠[]:=by
 obtain ⟨h1,_⟩:=iV h;intro hc;unfold aH at hc;have:=(dK _).1 (ba0.1 hc).1;unfold dm at h1;split at h1
 . omega
 . split at h1
   . omega
   . split at h1
     . omega
     . split at h1
       . omega
       . exact absurd h1 (by simp)
theorem rz {s:List UInt8} {x:Tm} {m:Nat} (h:dv s = .inr (x,m)):cJ s=some (x.1,x.2.1,x.2.2.1,x.2.2.2.1,x.2.2.2.2.1,x.2.2.2.2.2,(m:Int),0)/\True/\m<=s.length/\1<=m/\aB x=0/\aH x=s.take m/\pL x:=by
 unfold dv at h;split at h
 . rename_i hs;obtain ⟨y,n,e,g1,g2⟩:=yX s (by omega);rw [g1] at h;dsimp only at h;split at h
   . rename_i he;subst he;obtain ⟨k,rfl,k1,k2,k3,k4⟩:=g2 rfl;simp only [an0,W5,O1] at h;obtain ⟨rfl,rfl⟩:=h;refine ⟨g1,trivial,k1,?_,k2,k3,k4⟩
     rcases O9 k with rfl | hm
     . rw [N6] at k3; exact absurd k3 (C2 k2)
     . exact hm
   . cases h
 . cases h
theorem wq {s:List UInt8} {e:Int} (h:dv s = .inl e):e≠0/\(s.length<=1000000->∃ y:Tm,cJ s=some (y.1,y.2.1,y.2.2.1,y.2.2.2.1,y.2.2.2.2.1,y.2.2.2.2.2,0,e)/\True):=by
 unfold dv at h;split at h
 . rename_i hs;obtain ⟨y,n,e',f1,f2⟩:=yX s (by omega);rw [f1] at h;dsimp only at h;split at h
   . cases h
   . rename_i he;cases h;have:=F4 f1 he;subst this;exact ⟨he,fun _=>⟨y,f1,trivial⟩⟩
 . cases h;exact ⟨by decide,fun hs=>by rename_i hn; exact absurd hs hn⟩
theorem Sane.term:Sane dv:=⟨fun s e h=>(wq h).1,fun s x m h=>(rz h).2.2.1⟩
theorem CN:∀ (s:List UInt8) (x:Tm) (m:Nat),dv s = .inr (x,m)->1<=m:=fun s x m h=>(rz h).2.2.2.1
theorem Sane.blk:Sane bY:=(Sane.list _ Sane.stmt).pb fun l=>Sane.term.pb fun t=>Sane.ret _
theorem EA:∀ (s:List UInt8) (x:bM) (m:Nat),bY s = .inr (x,m)->1<=m:=jz rT
theorem xG:∀ (s:List UInt8) (x:Sgt) (m:Nat),b8 s = .inr (x,m)->1<=m:=jz la
theorem tR {α β γ δ:Type} (o:Option (α×β×γ×δ)):(o.bind fun (a,b,c,d)=>some (a,b,c,d))=o:=by cases o <;> rfl
abbrev q4 {α:Type} (x:α) (s:List UInt8) (c e:Int):α×List UInt8×Int×Int:=(x,s,c,e)
theorem jj {α τ δ:Type} {T:List UInt8->Option τ} {p:Ps α} (hp:Sane p) (hpos:∀ s x m,p s = .inr (x,m)->1<=m) {f:List UInt8->Int->Int->Option δ} {mk:α->List UInt8->Int->Int->δ} (z:α)
   (out:α->Int->Int->τ)
   (hT:∀ s,s.length<=1000000->(∀ x m,p s = .inr (x,m)->T s=some (out x (m:Int) 0))/\(∀ e,p s = .inl e->∃ x,T s=some (out x 0 e)))
   (G:List UInt8->Int->Int->τ->Option δ) (hf:∀ s c e,f s c e=cond (!decide (e=0)) (some (mk z s c e)) ((T s).bind (G s c e)))
   (hG:∀ s c e x m e',G s c e (out x m e')=cond (!decide (e'=0)) (some (mk z s c e')) ((subL s m (((s.length:Nat):Int))).bind fun y=>some (mk x y (IntKind.wrap .i64 (c + 1)) e))):Rds f mk p :=
 Run.one (z:=z) hpos (fun s c e he=>by rw [hf,decide_eq_false he]; rfl) (fun s c x m hs hr=>by
     have hm:=hp.len _ _ _ hr;rw [hf,decide_eq_true rfl,Y0,cond_false,(hT s (by omega)).1 x m hr,M0,hG,decide_eq_true rfl,Y0,cond_false,lg _ _ hm,w64 (by omega) (by omega)]; rfl)
   (fun s c e hs hr=>by
     obtain ⟨x,hx⟩:=(hT s (by omega)).2 e hr;rw [hf,decide_eq_true rfl,Y0,cond_false,hx,M0,hG,decide_eq_false (hp.err _ _ hr)]; rfl)
theorem yG:Rds j9 q4 bw :=
 jj (T:=ek) Sane.num la 0 (fun x m e=>(x,m,e)) (fun s hs=>⟨fun x m h=>by rw [gH s (by omega),(cL h).1],fun e h=>⟨0,by rw [gH s (by omega),(dG h).1]⟩⟩)
   (fun s c e t=>match t with | (x,m,e')=>cond (!decide (e'=0)) (some (q4 0 s c e')) ((subL s m (((s.length:Nat):Int))).bind fun y=>some (q4 x y (IntKind.wrap .i64 (c + 1)) e))) (fun s c e=>rfl) (fun s c e x m e'=>rfl)
theorem jb:Rds bx q4 (dn 65536) where
 ok:=by
   intro s c n m hs hr;obtain ⟨h1,h2⟩:=kT hr;obtain ⟨d,t,hd,hf,rfl⟩:=yG.ok s c n m hs h1;refine ⟨d,_,hd,?_,rfl⟩;unfold bx;rw [hf];show cond (decide (65536 < n)) _ _=_;rw [decide_eq_false (by omega)]; rfl
 err := by
   intro s c e hs hr;unfold bx
   rcases fA hr with h1 | ⟨n,m,h1,h2⟩
   . unfold j9;rw [gH s (by omega),(dG h1).1,decide_eq_true rfl,Y0,cond_false,M0];show ∃ r,(cond (!decide (e=0)) _ _:Option _).bind _=some r/\_
     rw [decide_eq_false (dG h1).2];exact ⟨q4 0 s c e,rfl,0,s,c,rfl⟩
   . obtain ⟨d,t,hd,hf,rfl⟩:=yG.ok s c n m hs h1;rw [hf];split at h2
     . rename_i hn;cases h2;refine ⟨q4 0 (s.drop m) ((c + d:Nat):Int) 6,?_,0,s.drop m,((c + d:Nat):Int),rfl⟩;show cond (decide (65536 < n)) _ _=_;rw [decide_eq_true hn]; rfl
     . cases h2
 bad:=by
   intro s c e he;unfold bx j9;rw [decide_eq_false he];exact ⟨q4 0 s c e,rfl,0,s,c,rfl⟩
theorem Ca:Rds jY (fun x s c e=>(x,s,c,e)) (dJ 65536) :=
 jj (T:=kg) (Sane.bounds _) rT [] (fun x m e=>(x,m,e)) (fun s hs=>⟨fun x m h=>by unfold kg; rw [uI s 65536 hs,h]; rfl,fun e h=>⟨[],by unfold kg; rw [uI s 65536 hs,h]; rfl⟩⟩)
   (fun s c e t=>match t with | (l,m,e')=>cond (!decide (e'=0)) (some ((fun (x:List (Int×Int)) (s:List UInt8) (c e:Int)=>(x,s,c,e)) [] s c e')) ((subL s m (((s.length:Nat):Int))).bind fun y=>some ((fun (x:List (Int×Int)) (s:List UInt8) (c e:Int)=>(x,s,c,e)) l y (IntKind.wrap .i64 (c + 1)) e))) (fun s c e=>rfl) (fun s c e x m e'=>rfl)
theorem yb:Rds fP (fun x s c e=>(x,s,c,e)) bC :=
 jj (T:=ku) Sane.type rL [] (fun x m e=>(x,m,e)) (fun s hs=>⟨fun x m h=>by rw [uM s hs,h]; rfl,fun e h=>⟨[],by rw [uM s hs,h]; rfl⟩⟩)
   (fun s c e t=>match t with | (l,m,e')=>cond (!decide (e'=0)) (some ((fun (x:List St) (s:List UInt8) (c e:Int)=>(x,s,c,e)) [] s c e')) ((subL s m (((s.length:Nat):Int))).bind fun y=>some ((fun (x:List St) (s:List UInt8) (c e:Int)=>(x,s,c,e)) l y (IntKind.wrap .i64 (c + 1)) e))) (fun s c e=>rfl) (fun s c e x m e'=>rfl)
theorem EQ:Rds mA (fun x s c e=>(x.1,x.2.1,x.2.2.1,x.2.2.2,s,c,e)) b8 :=
 jj (T:=iS) Sane.sig xG (0,[],[],[]) (fun x m e=>(x.1,x.2.1,x.2.2.1,x.2.2.2,m,e)) (fun s hs=>⟨fun x m h=>by rw [vr s hs,h]; rfl,fun e h=>⟨(0,[],[],[]),by rw [vr s hs,h]; rfl⟩⟩)
   (fun s c e t=>match t with | (a,b,c',d,m,e')=>cond (!decide (e'=0)) (some ((fun (x:Sgt) (s:List UInt8) (c e:Int)=>(x.1,x.2.1,x.2.2.1,x.2.2.2,s,c,e)) (0,[],[],[]) s c e')) ((subL s m (((s.length:Nat):Int))).bind fun y=>some ((fun (x:Sgt) (s:List UInt8) (c e:Int)=>(x.1,x.2.1,x.2.2.1,x.2.2.2,s,c,e)) (a,b,c',d) y (IntKind.wrap .i64 (c + 1)) e))) (fun s c e=>rfl) (fun s c e x m e'=>rfl)
theorem EI:Rds ml (fun x s c e=>(x.1,x.2.1,x.2.2.1,x.2.2.2.1,x.2.2.2.2,s,c,e)) cU :=
 jj (T:=kM) Sane.stmt wX (0,0,0,0,false) (fun x m e=>(x.1,x.2.1,x.2.2.1,x.2.2.2.1,x.2.2.2.2,m,e)) (fun s hs=>⟨fun x m h=>by rw [vd s (by omega),(nJ h).1],fun e h=>⟨(0,0,0,0,false),by rw [vd s (by omega),(vP h).1]⟩⟩)
   (fun s c e t=>match t with | (a,b,c',d,f,m,e')=>cond (!decide (e'=0)) (some ((fun (x:Stm) (s:List UInt8) (c e:Int)=>(x.1,x.2.1,x.2.2.1,x.2.2.2.1,x.2.2.2.2,s,c,e)) (0,0,0,0,false) s c e')) ((subL s m (((s.length:Nat):Int))).bind fun y=>some ((fun (x:Stm) (s:List UInt8) (c e:Int)=>(x.1,x.2.1,x.2.2.1,x.2.2.2.1,x.2.2.2.2,s,c,e)) (a,b,c',d,f) y (IntKind.wrap .i64 (c + 1)) e))) (fun s c e=>rfl) (fun s c e x m e'=>rfl)
theorem Ex:Rds j5 (fun x s c e=>(x.1,x.2.1,x.2.2.1,x.2.2.2.1,x.2.2.2.2.1,x.2.2.2.2.2,s,c,e)) dv :=
 jj (T:=cJ) Sane.term CN (0,0,0,[],[],[]) (fun x m e=>(x.1,x.2.1,x.2.2.1,x.2.2.2.1,x.2.2.2.2.1,x.2.2.2.2.2,m,e)) (fun s hs=>⟨fun x m h=>(rz h).1,fun e h=>by obtain ⟨y,h1,h2⟩:=(wq h).2 hs; exact ⟨y,h1⟩⟩)
   (fun s c e t=>match t with | (a,b,c',d,f,g,m,e')=>cond (!decide (e'=0)) (some ((fun (x:Tm) (s:List UInt8) (c e:Int)=>(x.1,x.2.1,x.2.2.1,x.2.2.2.1,x.2.2.2.2.1,x.2.2.2.2.2,s,c,e)) (0,0,0,[],[],[]) s c e')) ((subL s m (((s.length:Nat):Int))).bind fun y=>some ((fun (x:Tm) (s:List UInt8) (c e:Int)=>(x.1,x.2.1,x.2.2.1,x.2.2.2.1,x.2.2.2.2.1,x.2.2.2.2.2,s,c,e)) (a,b,c',d,f,g) y (IntKind.wrap .i64 (c + 1)) e))) (fun s c e=>rfl) (fun s c e x m e'=>rfl)
theorem C6:Rds jZ q4 (aK 65536 bC):=by
 refine Run.bind (f:=bx) jb (Sane.count _) (fun n=>?_);refine Run.fn (Run.many (σ:=List (List St)×Int×List UInt8×Int×Int) (ρ:=List (List St)×List UInt8×Int×Int) Sane.type rL (body:=mf n) n (fun acc i s c e=>(acc,i,s,c,e)) q4 ?_ ?_) (fun s c e=>tR _)
 . intro acc i s c e h;unfold mf;have:(decide (i < n)&&decide (e=0))=false:=by
     rcases h with h | h
     . rw [decide_eq_false (by omega),N7]
     . rw [decide_eq_false h,V7]
   dsimp only; rw [this]; rfl
 . intro acc ha hn;refine ⟨fun s c e=>(fP s c e).bind fun (x,s,c,e)=>(app acc [x]).bind fun z=>some (.inl (z,IntKind.wrap .i64 (((acc.length:Nat):Int) + 1),s,c,e)),fun s c=>?_,?_⟩
   . unfold mf;dsimp only;rw [decide_eq_true hn]; rfl
   . refine Run.map yb Sane.type (fun x s c e=>?_);refine ⟨.inl (acc++[x],((acc.length + 1:Nat):Int),s,c,e),?_,fun h=>by rw [h],fun h=>⟨_,_,_,_,rfl⟩⟩;dsimp only;rw [ar (by simp; omega),w64 (by omega) (by omega)]; rfl
theorem DA:Rds j6 q4 (aK 65536 b8):=by
 refine Run.bind (f:=bx) jb (Sane.count _) (fun n=>?_);refine Run.fn (Run.many (σ:=List (Sgt)×Int×List UInt8×Int×Int) (ρ:=List (Sgt)×List UInt8×Int×Int) Sane.sig xG (body:=mh n) n (fun acc i s c e=>(acc,i,s,c,e)) q4 ?_ ?_) (fun s c e=>tR _)
 . intro acc i s c e h;unfold mh;have:(decide (i < n)&&decide (e=0))=false:=by
     rcases h with h | h
     . rw [decide_eq_false (by omega),N7]
     . rw [decide_eq_false h,V7]
   dsimp only; rw [this]; rfl
 . intro acc ha hn;refine ⟨fun s c e=>(mA s c e).bind fun (x1,x2,x3,x4,s,c,e)=>(app acc [((x1,x2,x3,x4):Sgt)]).bind fun z=>some (.inl (z,IntKind.wrap .i64 (((acc.length:Nat):Int) + 1),s,c,e)),fun s c=>?_,?_⟩
   . unfold mh;dsimp only;rw [decide_eq_true hn]; rfl
   . refine Run.map EQ Sane.sig (fun x s c e=>?_);refine ⟨.inl (acc++[x],((acc.length + 1:Nat):Int),s,c,e),?_,fun h=>by rw [h],fun h=>⟨_,_,_,_,rfl⟩⟩;dsimp only;rw [ar (by simp; omega),w64 (by omega) (by omega)]; rfl
theorem Cu:Rds mi q4 (aK 65536 cU):=by
 refine Run.bind (f:=bx) jb (Sane.count _) (fun n=>?_);refine Run.fn (Run.many (σ:=List (Stm)×Int×List UInt8×Int×Int) (ρ:=List (Stm)×List UInt8×Int×Int) Sane.stmt wX (body:=mg n) n (fun acc i s c e=>(acc,i,s,c,e)) q4 ?_ ?_) (fun s c e=>tR _)
 . intro acc i s c e h;unfold mg;have:(decide (i < n)&&decide (e=0))=false:=by
     rcases h with h | h
     . rw [decide_eq_false (by omega),N7]
     . rw [decide_eq_false h,V7]
   dsimp only; rw [this]; rfl
 . intro acc ha hn;refine ⟨fun s c e=>(ml s c e).bind fun (x1,x2,x3,x4,x5,s,c,e)=>(app acc [((x1,x2,x3,x4,x5):Stm)]).bind fun z=>some (.inl (z,IntKind.wrap .i64 (((acc.length:Nat):Int) + 1),s,c,e)),fun s c=>?_,?_⟩
   . unfold mg;dsimp only;rw [decide_eq_true hn]; rfl
   . refine Run.map EI Sane.stmt (fun x s c e=>?_);refine ⟨.inl (acc++[x],((acc.length + 1:Nat):Int),s,c,e),?_,fun h=>by rw [h],fun h=>⟨_,_,_,_,rfl⟩⟩;dsimp only;rw [ar (by simp; omega),w64 (by omega) (by omega)]; rfl
theorem BV (n:Int):Rds (fun s c e=>loop (iw n) (0,s,c,e,[])) (fun X s c e=>(s,c,e,X)) (bK bY n.toNat):=by
 refine Run.many (σ:=Int×List UInt8×Int×Int×List bM) (ρ:=List UInt8×Int×Int×List bM) Sane.blk EA (body:=iw n) n (fun acc i s c e=>(i,s,c,e,acc)) (fun X s c e=>(s,c,e,X)) ?_ ?_
 . intro acc i s c e h;unfold iw;have:(decide (i < n)&&decide (e=0))=false:=by
     rcases h with h | h
     . rw [decide_eq_false (by omega),N7]
     . rw [decide_eq_false h,V7]
   dsimp only; rw [this]; rfl
 . intro acc ha hn;refine ⟨fun s c e=>(mi s c e).bind fun (l,s,c,e)=>(j5 s c e).bind fun (x1,x2,x3,x4,x5,x6,s,c,e)=>(app acc [((l,(x1,x2,x3,x4,x5,x6)):bM)]).bind fun z=>some (.inl (IntKind.wrap .i64 (((acc.length:Nat):Int) + 1),s,c,e,z)),fun s c=>?_,?_⟩
   . unfold iw;dsimp only;rw [decide_eq_true hn]; rfl
   . refine Run.bind Cu (Sane.list _ Sane.stmt) (fun l=>?_);refine Run.bind (f:=j5) Ex Sane.term (fun t=>?_);refine Run.ret (fun s c e=>?_);refine ⟨.inl (((acc.length + 1:Nat):Int),s,c,e,acc++[(l,t)]),?_,fun h=>by rw [h],fun h=>⟨_,_,_,_,rfl⟩⟩;dsimp only;rw [ar (by simp; omega),w64 (by omega) (by omega)]; rfl
theorem DJ {ρ:Type} (K:Bod->List UInt8->Int->Int->Option ρ) {okr:Bod->List UInt8->Int->ρ->Prop} {er:Int->ρ->Prop} (hK:∀ b s c e,∃ r,K b s c e=some r/\(e=0->okr b s c r)/\(e≠0->er e r)) :
   Run (fun s c e=>(bx s c e).bind fun (i634,s635,i636,i637)=>(bx s635 i636 i637).bind fun (i643,s644,i645,i646)=>(jY s644 i645 i646).bind fun (l652,s653,i654,i655)=>(jZ s653 i654 i655).bind fun (l665,s666,i667,i668)=>(fP s666 i667 i668).bind fun (l678,s679,i680,i681)=>(j6 s679 i680 i681).bind fun (l691,s692,i693,i694)=>(bx s692 i693 i694).bind fun (i704,s705,i706,i707)=>(loop (iw i704) (0,s705,i706,i707,[]):Option (List UInt8×Int×Int×List bM)).bind fun (s943,i944,i945,l946)=>K (i634,i643,l652,l665,l678,l691,l946) s943 i944 i945) okr er lN:=by
 refine Run.bind (f:=bx) jb (Sane.count _) (fun u=>?_);refine Run.bind (f:=bx) jb (Sane.count _) (fun n=>?_);refine Run.bind (f:=jY) Ca (Sane.bounds _) (fun B=>?_);refine Run.bind (f:=jZ) C6 (Sane.list _ Sane.type) (fun L=>?_);refine Run.bind (f:=fP) yb Sane.type (fun R=>?_);refine Run.bind (f:=j6) DA (Sane.list _ Sane.sig) (fun S=>?_);show Run _ okr er (pb (aK 65536 bY) fun X=>aF (u,n,B,L,R,S,X));unfold aK;rw [CW];refine Run.bind (f:=bx) jb (Sane.count _) (fun k=>?_);refine Run.bind (BV k) (Sane.many Sane.blk _) (fun X=>?_);refine Run.ret (fun s c e=>?_);exact hK (u,n,B,L,R,S,X) s c e
def jt (s:List UInt8):Bool:=decide (4<=s.length)&&decide (s.take 4=[109,105,114,1])
theorem E2 (s:List UInt8):mG s [109,105,114,1]=some (if jt s then (s.drop 4,true) else (s,false)):=by
 unfold mG qf qg jt;by_cases h:4<=s.length
 . have h1:decide ((((([109,105,114,1]:List UInt8)).length:Nat):Int)<=((s.length:Nat):Int))=true:=by simp; omega
   rw [h1,cond_true,show (((([109,105,114,1]:List UInt8)).length:Nat):Int)=((4:Nat):Int) from rfl,sB (by omega) (by omega) (by omega),lg s 4 h];simp only [M0,O1,aK0,X2,decide_eq_true h,L7];cases decide (List.take 4 s=[109,105,114,1]) <;> rfl
 . have h1:decide ((((([109,105,114,1]:List UInt8)).length:Nat):Int)<=((s.length:Nat):Int))=false:=by simp; omega
   rw [h1,cond_false,decide_eq_false h]; rfl
abbrev zB:Bod:=(0,0,[],[],[],[],[])
def tk (s:List UInt8):Bod×Int:=if jt s then match lN (s.drop 4) with
 | .inl e=>(zB,e)
 | .inr (b,m)=>if s.drop (4 + m)=[] then (b,0) else (zB,13) else (zB,12)
abbrev dS (r:Bod×Int):Int×Int×List (Int×Int)×List (List St)×List St×List Sgt×List bM×Int:=(r.1.1,r.1.2.1,r.1.2.2.1,r.1.2.2.2.1,r.1.2.2.2.2.1,r.1.2.2.2.2.2.1,r.1.2.2.2.2.2.2,r.2)
theorem Cr (s:List UInt8) (hs:s.length<=1000000):mZ s=some (dS (tk s)):=by
 have hR:=DJ (fun b s c e=>(cond ((decide (e=0))&&(!decide (s=([]:List UInt8)))) (some (13)) (some (e)):Option Int).bind fun i1188=>cond (!decide (i1188=0)) (some ((0,0,[],[],[],[],[],i1188))) ((bc 0 c).bind fun _=>some ((b.1,b.2.1,b.2.2.1,b.2.2.2.1,b.2.2.2.2.1,b.2.2.2.2.2.1,b.2.2.2.2.2.2,0))))
   (okr:=fun b s c r=>r=dS (if s=[] then (b,0) else (zB,13))) (er:=fun e r=>r=dS (zB,e)) (fun b s c e=>by
     refine ⟨if e=0 then dS (if s=[] then (b,0) else (zB,13)) else dS (zB,e),?_,fun h=>by rw [if_pos h],fun h=>by rw [if_neg h]⟩;by_cases he:e=0
     . subst he;by_cases hs:s=[]
       . subst hs; rfl
       . rw [decide_eq_false hs]; simp [hs]
     . rw [decide_eq_false he]; simp [he])
 unfold mZ tk;rw [E2];cases hh:jt s with
 | false=>rfl
 | true =>
   rw [if_pos rfl,if_pos rfl];have hl:(s.drop 4).length + 0<=1000000:=by rw [U0]; omega
   cases hp:lN (s.drop 4) with
   | inl e =>
     obtain ⟨r,h1,h2⟩:=hR.err (s.drop 4) 0 e hl hp;exact h1.trans (congrArg some h2)
   | inr bm =>
     obtain ⟨b,m⟩:=bm;obtain ⟨d,r,hd,h1,h2⟩:=hR.ok (s.drop 4) 0 b m hl hp;rw [K4] at h2;exact h1.trans (congrArg some h2)
end
abbrev Ic:Tp := .cons (.int .i64) (.cons (.sl (.cons (.int .i64) (.one (.int .i64)))) (.cons (.sl (.one (.sl (.cons (.int .i64) (.one .bool))))) (.one (.one (.sl (.cons (.int .i64) (.one .bool)))))))
abbrev I0:Tp := .cons (.int .i64) (.cons (.int .i64) (.cons (.int .i64) (.cons (.sl (.int .i64)) (.cons (.sl (.int .i64)) (.one (.sl (.int .i64)))))))
abbrev td:Tp := .cons (.int .i64) (.cons (.int .i64) (.cons (.sl (.cons (.int .i64) (.one (.int .i64)))) (.cons (.sl (.one (.sl (.cons (.int .i64) (.one .bool))))) (.cons (.one (.sl (.cons (.int .i64) (.one .bool)))) (.cons (.sl Ic) (.one (.sl (.cons (.sl (.cons (.int .i64) (.cons (.int .i64) (.cons (.int .i64) (.cons (.int .i64) (.one .bool)))))) (.one I0)))))))))
abbrev Blk:=List Stm×Tm
abbrev Bo:=Int×Int×List (Int×Int)×List (List St)×List St×List Sg×List Blk
def stm (l:List Blk):Nat:=(l.map (fun x=>x.1.length)).sum
structure Few (b:Bo):Prop where
 bounds:b.2.2.1.length<=20
 locals:b.2.2.2.1.length<=10
 loc:∀ t∈b.2.2.2.1,t.length<=20
 ret:b.2.2.2.2.1.length<=20
 sigs:b.2.2.2.2.2.1.length<=4
 sig:∀ s∈b.2.2.2.2.2.1,s.2.1.length<=20/\s.2.2.1.length<=20/\s.2.2.2.length<=20/\∀ t∈s.2.2.1,t.length<=20
 blocks:b.2.2.2.2.2.2.length<=8
 term:∀ x∈b.2.2.2.2.2.2,x.2.2.2.2.1.length<=20/\x.2.2.2.2.2.1.length<=20/\x.2.2.2.2.2.2.length<=20
 many:stm b.2.2.2.2.2.2<=24
structure Sm (b:Bo):Prop where
 bounds:b.2.2.1.length<=65536
 locals:b.2.2.2.1.length<=65536
 loc:∀ t∈b.2.2.2.1,t.length<=20
 ret:b.2.2.2.2.1.length<=20
 sigs:b.2.2.2.2.2.1.length<=65536
 sig:∀ s∈b.2.2.2.2.2.1,s.2.1.length<=20/\s.2.2.1.length<=20/\s.2.2.2.length<=20/\∀ t∈s.2.2.1,t.length<=20
 blocks:b.2.2.2.2.2.2.length<=65536
 term:∀ x∈b.2.2.2.2.2.2,x.2.2.2.2.1.length<=20/\x.2.2.2.2.2.1.length<=20/\x.2.2.2.2.2.2.length<=20
 many:stm b.2.2.2.2.2.2<=65536
theorem sF {α:Type} (f:α->Nat):∀ (l:List α) (x:α),x∈l->f x<=(l.map f).sum
 | [],x,h=>by cases h
 | y :: l,x,h=>by
   rcases U2.1 h with rfl | h
   . simp
   . have:=sF f l x h; simp; omega
theorem wC {α:Type} (f:α->Nat) (l:List α) (k:Nat):((l.take k).map f).sum<=(l.map f).sum:=by
 have:l.map f=(l.take k).map f++(l.drop k).map f:=by rw [<- Z2,Y2]
 rw [this,bJ0]; omega
theorem Sm.stmts {b:Bo} (h:Sm b) {x:Blk} (hx:x∈b.2.2.2.2.2.2):x.1.length<=65536:=by
 have:=sF (fun x:Blk=>x.1.length) _ x hx;have:=h.many; unfold stm at this; omega
theorem r8 {X:List Blk} {k:Nat} (hk:k < X.length):stm (X.take (k + 1))=stm (X.take k) + X[k].1.length:=by
 unfold stm; rw [bz hk,Z2,bJ0]; simp
theorem CK {b:Bo} (h:Tp.Fit td b):∀ x∈b.2.2.2.2.2.2,x.1.length<=140737488351232:=by
 obtain ⟨_,_,_,_,_,_,_,h2⟩:=h;exact fun x hx=>(h2 x hx).1.1
theorem F6 (b : Bo) (hb : ∀ x ∈ b.2.2.2.2.2.2, x.1.length <= 140737488351232) : gl b = some false \/ (gl b = some true /\ Few b) := by
 obtain ⟨u,n,B,L,R,S,X⟩:=b;unfold gl;dsimp only at *;have e1:((((decide (20 < (((B.length:Nat):Int))))||(decide (10 < (((L.length:Nat):Int)))))||(decide (4 < (((S.length:Nat):Int)))))||(decide (8 < (((X.length:Nat):Int)))))=decide (20 < B.length\/10 < L.length\/4 < S.length\/8 < X.length):=by
   by_cases h1:20 < B.length <;> by_cases h2:10 < L.length <;> by_cases h3:4 < S.length <;> by_cases h4:8 < X.length <;> simp [h1,h2,h3,h4] <;> omega
 rw [e1];by_cases h0:20 < B.length\/10 < L.length\/4 < S.length\/8 < X.length
 . rw [decide_eq_true h0]; exact .inl rfl
 . rw [decide_eq_false h0,cond_false,sX];by_cases q:R.length<=20
   . have e:decide (((R.length:Nat):Int)<=20)=true:=by simp; omega
     simp only [M0,e,Y0,cond_false];rw [zP (body:=uH (u,n,B,L,R,S,X)) (xa:=L) (by omega) (fun i=>rfl)];cases hf:L.any (fun t=>!decide (t.length<=20)) with
     | true=>exact .inl rfl
     | false =>
       simp only [N2,if_false,M0];have hS:∃ t,loop (iz (u,n,B,L,R,S,X)) 0=some t/\(t = .inr false\/(t = .inl ()/\∀ s∈S,s.2.1.length<=20/\s.2.2.1.length<=20/\s.2.2.2.length<=20/\∀ t∈s.2.2.1,t.length<=20)):=by
         have hl:=gM (body:=iz (u,n,B,L,R,S,X)) (fun k=>∃ h:k < S.length,fd S[k]=some false) (fun k:Nat=>(k:Int)) S.length (fun _ => .inr false) (.inl ()) ?_ ?_ ?_
         . rcases hl with ⟨k,_,_,_,h4⟩ | ⟨h1,h2⟩
           . exact ⟨_,h4,.inl rfl⟩
           . refine ⟨_,h2,.inr ⟨rfl,fun s hs=>?_⟩⟩;obtain ⟨k,hk,rfl⟩:=W3 hs
             rcases yV S[k] with h | ⟨h,f1,f2,f3,f4⟩
             . exact absurd ⟨hk,h⟩ (h1 k hk)
             . exact ⟨f1,f2,f3,f4⟩
         . intro k hk hp;unfold iz
           rcases yV S[k] with h | ⟨h,_⟩
           . exact absurd ⟨hk,h⟩ hp
           . simp only [dlt hk,cond_true,ah hk,M0,show fd (S[k].1,S[k].2.1,S[k].2.2.1,S[k].2.2.2)=_ from h,ak hk (by omega:S.length<=9223372036854775807)];rfl
         . rintro k hk ⟨_,hp⟩;unfold iz;simp only [dlt hk,cond_true,ah hk,M0,show fd (S[k].1,S[k].2.1,S[k].2.2.1,S[k].2.2.2)=_ from hp];rfl
         . simp [iz]
       obtain ⟨t,ht,hS⟩:=hS;rw [ht]
       rcases hS with rfl | ⟨rfl,hS⟩
       . exact .inl rfl
       . simp only [M0];have hX:=gM (body:=f6 (u,n,B,L,R,S,X)) (fun k=>∃ h:k < X.length,(((decide (20 < ((((X[k]).2.2.2.2.1.length:Nat):Int))))||(decide (20 < ((((X[k]).2.2.2.2.2.1.length:Nat):Int)))))||(decide (20 < ((((X[k]).2.2.2.2.2.2.length:Nat):Int)))))=true) (fun k:Nat=>(((stm (X.take k):Nat):Int),(k:Int))) X.length (fun _ => .inr false) (.inl ((stm X:Nat):Int)) ?_ ?_ ?_
         . rcases hX with ⟨k,_,_,_,h4⟩ | ⟨h1,h2⟩
           . have h4':loop (f6 (u,n,B,L,R,S,X)) (0,0)=some (.inr false):=by simpa [stm] using h4
             rw [h4']; exact .inl rfl
           . have h2':loop (f6 (u,n,B,L,R,S,X)) (0,0)=some (.inl ((stm X:Nat):Int)):=by simpa [stm] using h2
             rw [h2'];by_cases hm:stm X<=24
             . refine .inr ⟨by simp; omega,⟨by dsimp only; omega,by dsimp only; omega,yf hf,q,by dsimp only; omega,hS,by dsimp only; omega,fun x hx=>?_,hm⟩⟩;obtain ⟨k,hk,rfl⟩:=W3 hx;have hn:=h1 k hk;dsimp only at hk hn;have hn2:(((decide (20 < ((((X[k]).2.2.2.2.1.length:Nat):Int))))||(decide (20 < ((((X[k]).2.2.2.2.2.1.length:Nat):Int)))))||(decide (20 < ((((X[k]).2.2.2.2.2.2.length:Nat):Int)))))=false:=by
                 cases hc:(((decide (20 < ((((X[k]).2.2.2.2.1.length:Nat):Int))))||(decide (20 < ((((X[k]).2.2.2.2.2.1.length:Nat):Int)))))||(decide (20 < ((((X[k]).2.2.2.2.2.2.length:Nat):Int))))) with
                 | false=>rfl
                 | true=>exact absurd ⟨hk,hc⟩ hn
               simp at hn2;dsimp only;omega
             . refine .inl ?_;simp; omega
         . intro k hk hp;have hn2:(((decide (20 < ((((X[k]).2.2.2.2.1.length:Nat):Int))))||(decide (20 < ((((X[k]).2.2.2.2.2.1.length:Nat):Int)))))||(decide (20 < ((((X[k]).2.2.2.2.2.2.length:Nat):Int)))))=false:=by
             cases hc:(((decide (20 < ((((X[k]).2.2.2.2.1.length:Nat):Int))))||(decide (20 < ((((X[k]).2.2.2.2.2.1.length:Nat):Int)))))||(decide (20 < ((((X[k]).2.2.2.2.2.2.length:Nat):Int))))) with
             | false=>rfl
             | true=>exact absurd ⟨hk,hc⟩ hp
           have a1:=hb X[k] (S0 hk);have a2:stm (X.take k)<=k * 140737488351232:=by
             unfold stm;have:∀ q:List Blk,(∀ x∈q,x∈X)->(q.map (fun x=>x.1.length)).sum<=q.length * 140737488351232:=by
               intro q
               induction q with
               | nil=>intro _; simp
               | cons x q ih =>
                 intro hq;have:=ih (fun y hy=>hq y (by simp [hy]));have:=hb x (hq x (by simp));simp only [M2,aR0,X1,N4]; omega
             have h3:=this (X.take k) (fun x hx=>T5 hx);rw [Z0,T4 (by omega)] at h3;exact h3
           have a3:k<=8:=by omega
           have a4:k * 140737488351232<=8 * 140737488351232:=U3 _ a3;unfold f6;simp only [dlt hk,cond_true,ah hk,M0,hn2,cond_false,ak hk (by omega:X.length<=9223372036854775807)];rw [w64 (by omega) (by omega),r8 hk];simp
         . rintro k hk ⟨_,hp⟩;unfold f6;simp only [dlt hk,cond_true,ah hk,M0,hp]
         . unfold f6;simp
   . have e:decide (((R.length:Nat):Int)<=20)=false:=by simp; omega
     simp only [M0,e]; exact .inl rfl
section
open Go.RowKit Lb
def lD (x:St):Int:=if x.2 then IntKind.wrap .i64 (IntKind.wrap .i64 (2 * x.1) + 1) else IntKind.wrap .i64 (2 * x.1)
theorem xv (x:St):(cond x.2 (some (IntKind.wrap .i64 ((IntKind.wrap .i64 (2 * x.1)) + 1))) (some (IntKind.wrap .i64 (2 * x.1))):Option Int)=some (lD x):=by
 obtain ⟨r,i⟩:=x;cases i <;> rfl
def ls (x:St):List UInt8:=put (lD x)
def aU (l:List St):List UInt8:=put (l.length:Int)++l.flatMap ls
def n9 (l:List (List St)):List UInt8:=put (l.length:Int)++l.flatMap aU
def cd (g:Sgt):List UInt8:=put g.1++(co g.2.1++(n9 g.2.2.1++aU g.2.2.2))
theorem Be (x:St):(ls x).length<=5:=aR _
theorem dB (l:List St):(aU l).length<=5 + l.length * 5:=by
 have h1:=aR (l.length:Int);have h2:=cC ls 5 l (fun x _=>Be x);unfold aU; rw [P0]; omega
theorem na (l:List St) (hl:l.length<=1000):gh l=some (aU l):=by
 unfold gh;have hloop:=bq (body:=ki l) (fun k:Nat=>([(l.length:Int)]++(l.take k).map lD,(k:Int))) l.length (b:=[(l.length:Int)]++l.map lD) ?_ ?_
 . have:loop (ki l) ([(l.length:Int)],0)=some ([(l.length:Int)]++l.map lD):=by simpa using hloop
   rw [this,M0,gL _ (by simp; omega)];simp only [M0,N3,EV];simp [aU]; rfl
 . intro k hk;unfold ki;dsimp only;rw [dlt hk,cond_true,ah hk,M0,xv l[k],M0,ar (by simp; omega),M0,ak hk (by omega)];rw [bz hk,Z2];simp
 . unfold ki;simp
def smS (g:Sgt):Prop:=g.2.1.length<=20/\g.2.2.1.length<=20/\(∀ t∈g.2.2.1,t.length<=20)/\g.2.2.2.length<=20
theorem A7 (g:Sgt) (h:smS g):kW g=some (cd g):=by
 obtain ⟨a2,a3,h3,a4⟩:=h;obtain ⟨n,B,A,R⟩:=g;dsimp only at *;have l1:=aR n;have l2:=np B;have l4:=dB R;have l5:=aR (A.length:Int);have l6:∀ q:List (List St),(∀ x∈q,x∈A)->(q.flatMap aU).length<=q.length * 105:=fun q hq=>cC aU 105 q (fun x hx=>by have:=dB x; have:=h3 x (hq x hx); omega)
 unfold kW;dsimp only;rw [ew,M0,cQ _ _ (by simp; omega),M0,uK _ (by omega),M0,cQ _ _ (by simp; omega),M0,ew,M0,cQ _ _ (by simp; omega),M0];have hloop:=bq (body:=kH (n,B,A,R)) (fun k:Nat=>((k:Int),[]++put n++co B++put (A.length:Int)++(A.take k).flatMap aU)) A.length (b:=[]++put n++co B++put (A.length:Int)++A.flatMap aU) ?_ ?_
 . have:loop (kH (n,B,A,R)) (0,[]++put n++co B++put (A.length:Int))=some ([]++put n++co B++put (A.length:Int)++A.flatMap aU):=by simpa using hloop
   have l7:=l6 A (fun x hx=>hx);rw [this,M0,na _ (by omega),M0,cQ _ _ (by simp only [P0,M3]; omega)];simp [cd,n9]
 . intro k hk;have l7:=l6 (A.take k) (fun x hx=>T5 hx);have l8:(A.take k).length<=20:=by simp; omega
   have l9:=h3 _ (S0 hk);have l10:=dB A[k];unfold kH;dsimp only;rw [dlt hk,cond_true,ah hk,M0,na _ (by omega),M0,cQ _ _ (by simp only [P0,M3]; omega),M0,ak hk (by omega)];rw [bz hk,N3];simp
 . unfold kH;simp
theorem rI {g:Sgt} (h:smS g):(cd g).length<=2500:=by
 obtain ⟨a2,a3,h3,a4⟩:=h;have l1:=aR g.1;have l2:=np g.2.1;have l4:=dB g.2.2.2;have l5:=aR (g.2.2.1.length:Int);have l6:=cC aU 105 g.2.2.1 (fun x hx=>by have:=dB x; have:=h3 x hx; omega);unfold cd n9; simp only [P0]; omega
def hO (r:Int) (m:Bool):Int:=if m then IntKind.wrap .i64 (IntKind.wrap .i64 (2 * r) + 1) else IntKind.wrap .i64 (2 * r)
def bS (x:Stm):List UInt8:=bJ [true,aE x.1,aD x.1,aC x.1] [x.1,x.2.1,x.2.2.1,hO x.2.2.2.1 x.2.2.2.2]
theorem wK (r:Int) (m:Bool):(cond m (some (IntKind.wrap .i64 ((IntKind.wrap .i64 (2 * r)) + 1))) (some (IntKind.wrap .i64 (2 * r))):Option Int)=some (hO r m):=by
 cases m <;> rfl
theorem vo (x:Stm):iT x=some (if fOk x then (bS x,0) else ([],3)):=by
 obtain ⟨k,d,s,r,m⟩:=x;unfold iT;rw [xY];cases hf:fOk (k,d,s,r,m) with
 | false=>rfl
 | true =>
   simp only [if_true,M0,show (!decide ((0:Int)=0))=false from rfl,cond_false,wK r m,bS];cases aE k <;> cases aD k <;> cases aC k <;>
     simp only [cond_true,cond_false,M0,ar (a:=[k]) (b:=[d]) (by simp),ar (a:=[k]) (b:=[s]) (by simp),ar (a:=[k]) (b:=[hO r m]) (by simp),Z9,
       ar (a:=[k,d]) (b:=[s]) (by simp),ar (a:=[k,d]) (b:=[hO r m]) (by simp),ar (a:=[k,s]) (b:=[hO r m]) (by simp),L4,M4,ar (a:=[k,d,s]) (b:=[hO r m]) (by simp)] <;>
     (rw [gL _ (by simp)]; simp [bJ])
section
variable {α σ ρ:Type}
theorem wR {body:σ->Option (σ⊕ρ)} (X:List α) (bad:α->Bool) (st:Nat->σ) (hit:Nat->ρ) (fin:ρ) (hgo:∀ k (h:k < X.length),(∀ j (h:j < X.length),j < k->bad X[j]=false)->bad X[k]=false->body (st k)=some (.inl (st (k + 1))))
   (hbad:∀ k (h:k < X.length),(∀ j (h:j < X.length),j < k->bad X[j]=false)->bad X[k]=true->body (st k)=some (.inr (hit k))) (hend:body (st X.length)=some (.inr fin)) :
   (X.find? bad=none/\loop body (st 0)=some fin)\/∃ (k:Nat) (h:k < X.length),X.find? bad=some X[k]/\bad X[k]=true/\loop body (st 0)=some (hit k):=by
 have gen:∀ (m j:Nat),j + m=X.length->(∀ i (h:i < X.length),i < j->bad X[i]=false)->((X.drop j).find? bad=none/\loop body (st j)=some fin)\/∃ (k:Nat) (h:k < X.length),(X.drop j).find? bad=some X[k]/\bad X[k]=true/\loop body (st j)=some (hit k):=by
   intro m
   induction m with
   | zero =>
     intro j hj hg;obtain rfl:j=X.length:=by omega
     exact .inl ⟨by simp,b9 hend⟩
   | succ m ih =>
     intro j hj hg;have hk:j < X.length:=by omega
     have e:=N8 hk;cases hb:bad X[j] with
     | true=>exact .inr ⟨j,hk,by rw [e,bN0,hb],hb,b9 (hbad j hk hg hb)⟩
     | false =>
       rw [dE (hgo j hk hg hb)];have:=ih (j + 1) (by omega) (fun i h hi=>by
         rcases Nat.lt_succ_iff_lt_or_eq.1 hi with h1 | h1
         . exact hg i h h1
         . subst h1; exact hb)
       have e2:(X.drop j).find? bad=(X.drop (j + 1)).find? bad:=by rw [e,bN0,hb]
       rw [e2]; exact this
 simpa using gen X.length 0 (by omega) (fun i h hi=>by omega)
end
def bn (x:bM):Int:=if x.1.any (fun s=>!fOk s) then 3 else aB x.2
def bQ (x:bM):List UInt8:=put (x.1.length:Int)++x.1.flatMap bS++aH x.2
def oX (b:Bod):List UInt8:=[109,105,114,1]++put b.1++put b.2.1++co b.2.2.1++put (b.2.2.2.1.length:Int)++b.2.2.2.1.flatMap aU++aU b.2.2.2.2.1++put (b.2.2.2.2.2.1.length:Int)++b.2.2.2.2.2.1.flatMap cd++put (b.2.2.2.2.2.2.length:Int)
def lU (b:Bod):List UInt8×Int:=match b.2.2.2.2.2.2.find? (fun x=>!decide (bn x=0)) with
 | some x=>([],bn x)
 | none=>(oX b++b.2.2.2.2.2.2.flatMap bQ,0)
structure Pz (b:Bod):Prop where
 B:b.2.2.1.length<=1000
 L:b.2.2.2.1.length<=1000/\∀ t∈b.2.2.2.1,t.length<=20
 R:b.2.2.2.2.1.length<=20
 S:b.2.2.2.2.2.1.length<=1000/\∀ g∈b.2.2.2.2.2.1,smS g
 X:b.2.2.2.2.2.2.length<=1000/\∀ x∈b.2.2.2.2.2.2,x.1.length<=1000
theorem wy {x:Tm} (h:aB x=0):(aH x).length<=300:=by
 obtain ⟨_,h1,h2,h3⟩:=iV h;have p1:=dL _ h1;have p2:=dL _ h2;have p3:=dL _ h3;have q (n:Int):(put n).length<=5:=aR n;have q0:=q x.1; have q1:=q (x.2.2.2.1.getD 0 0); have q2:=q x.2.1; have q3:=q x.2.2.1;unfold aH;split
 . simp only [P0]; omega
 . split
   . simp only [P0]; omega
   . split
     . simp only [P0]; omega
     . simp only [P0,M3]; omega
theorem ri (x:Stm):(bS x).length<=20:=by
 have q (n:Int):(put n).length<=5:=aR n;have q0:=q x.1; have q1:=q x.2.1; have q2:=q x.2.2.1; have q3:=q (hO x.2.2.2.1 x.2.2.2.2);unfold bS;cases aE x.1 <;> cases aD x.1 <;> cases aC x.1 <;> simp only [bJ,P0,M3] <;> omega
theorem Dj {α:Type} (l:List α) (p:α->Bool):l.find? p=none↔l.any p=false:=by
 rw [aq0,V3]
theorem vV {x:bM} (h:bn x=0) (hx:x.1.length<=1000):(bQ x).length<=20305:=by
 have h1:=aR (x.1.length:Int);have h2:=cC bS 20 x.1 (fun s _=>ri s);have h3:aB x.2=0:=by
   unfold bn at h; split at h
   . cases h
   . exact h
 have h4:=wy h3;unfold bQ; simp only [P0]; omega
theorem vf (x:bM) (s:List UInt8) (hs:s.length<=1000000000) (hx:x.1.length<=1000):(bn x=0->fR x s=some (0,s++bQ x))/\(bn x≠0->∃ s',fR x s=some (bn x,s')):=by
 have h1:=aR (x.1.length:Int);have h2 (q:List Stm):=cC bS 20 q (fun s _=>ri s);have h2a:=h2 x.1;unfold fR;rw [ew,M0,show wrS s (put (x.1.length:Int))=_ from ar (by omega),M0];have hl:=wR (body:=kc x) x.1 (fun t=>!fOk t) (fun k=>((k:Int),s++put (x.1.length:Int)++(x.1.take k).flatMap bS)) (fun k => .inr (3,s++put (x.1.length:Int)++(x.1.take k).flatMap bS)) (.inl (s++put (x.1.length:Int)++x.1.flatMap bS)) ?_ ?_ ?_
 . simp only [N6,M5,P1] at hl;rw [show ((0:Nat):Int)=0 from rfl] at hl
   rcases hl with ⟨hf,hl⟩ | ⟨k,hk,hf,hb,hl⟩
   . have ha:=(Dj _ _).1 hf;have he:bn x=aB x.2:=by unfold bn; rw [ha]; rfl
     rw [hl,he];simp only [M0,show kS (x.2.1,x.2.2.1,x.2.2.2.1,x.2.2.2.2.1,x.2.2.2.2.2.1,x.2.2.2.2.2.2)=_ from Er x.2];by_cases ht:aB x.2=0
     . have h4:=wy ht;refine ⟨fun _=>?_,fun h=>absurd ht h⟩;rw [if_pos ht];dsimp only;rw [show wrS (s++put (x.1.length:Int)++x.1.flatMap bS) (aH x.2)=_ from ar (by simp only [P0]; omega)];simp [bQ]
     . refine ⟨fun h=>absurd h ht,fun _=>?_⟩;rw [if_neg ht];dsimp only;rw [show wrS (s++put (x.1.length:Int)++x.1.flatMap bS) []=_ from ar (by simp only [P0,M3]; omega)];exact ⟨_,rfl⟩
   . have ha:x.1.any (fun t=>!fOk t)=true:=L6.2 ⟨_,S0 hk,hb⟩;have he:bn x=3:=by unfold bn; rw [ha]; rfl
     rw [hl,he];exact ⟨fun h=>absurd h (by decide),fun _=>⟨_,rfl⟩⟩
 . intro k hk _ hb;have h3:=h2 (x.1.take k);have h4:(x.1.take k).length<=1000:=by simp; omega
   have h5:=ri x.1[k];have hb':fOk x.1[k]=true:=by simpa using hb
   unfold kc;dsimp only;rw [dlt hk,cond_true,ah hk,M0,show iT (x.1[k].1,x.1[k].2.1,x.1[k].2.2.1,x.1[k].2.2.2.1,x.1[k].2.2.2.2)=_ from vo x.1[k],if_pos hb',M0];dsimp only;rw [show (!decide ((0:Int)=0))=false from rfl,cond_false,show wrS (s++put (x.1.length:Int)++(x.1.take k).flatMap bS) (bS x.1[k])=_ from ar (by simp only [P0]; omega),M0,ak hk (by omega),bz hk,N3];simp
 . intro k hk _ hb;have hb':fOk x.1[k]=false:=by simpa using hb
   unfold kc;dsimp only;rw [dlt hk,cond_true,ah hk,M0,show iT (x.1[k].1,x.1[k].2.1,x.1[k].2.2.1,x.1[k].2.2.2.1,x.1[k].2.2.2.2)=_ from vo x.1[k],if_neg (by rw [hb']; simp),M0];rfl
 . unfold kc;simp
theorem xt (X:List bM) (hX:∀ x∈X,x.1.length<=1000) (k:Nat) (hk:k<=X.length) (hl:X.length<=1000) (hg:∀ j (h:j < X.length),j < k->bn X[j]=0):((X.take k).flatMap bQ).length<=21000000:=by
 have:=cC bQ 20305 (X.take k) (fun x hx=>by
   obtain ⟨j,hj,rfl⟩:=W3 hx;simp only [Z0] at hj;rw [List.getElem_take];exact vV (hg j (by omega) (by omega)) (hX _ (S0 _)))
 simp only [Z0] at this;have h2:min k X.length * 20305<=1000 * 20305:=U3 _ (by omega);omega
theorem Bv {b:Bod} (h:Pz b):(co b.2.2.1).length<=10005/\(∀ k,((b.2.2.2.1.take k).flatMap aU).length<=105000)/\(aU b.2.2.2.2.1).length<=105/\(∀ k,((b.2.2.2.2.2.1.take k).flatMap cd).length<=2500000)/\(b.2.2.2.1.flatMap aU).length<=105000/\(b.2.2.2.2.2.1.flatMap cd).length<=2500000:=by
 have hB:=h.B; have hL:=h.L; have hR:=h.R; have hS:=h.S;have l1:=np b.2.2.1;have l2 (k:Nat):((b.2.2.2.1.take k).flatMap aU).length<=105000:=by
   have h1:=cC aU 105 (b.2.2.2.1.take k) (fun x hx=>by have:=dB x; have:=hL.2 x (T5 hx); omega);simp only [Z0] at h1;have h2:min k b.2.2.2.1.length * 105<=1000 * 105:=U3 _ (by omega);omega
 have l3:=dB b.2.2.2.2.1;have l4 (k:Nat):((b.2.2.2.2.2.1.take k).flatMap cd).length<=2500000:=by
   have h1:=cC cd 2500 (b.2.2.2.2.2.1.take k) (fun x hx=>rI (hS.2 x (T5 hx)));simp only [Z0] at h1;have h2:min k b.2.2.2.2.2.1.length * 2500<=1000 * 2500:=U3 _ (by omega);omega
 have l5:=l2 b.2.2.2.1.length;have l6:=l4 b.2.2.2.2.2.1.length;rw [T7] at l5 l6;exact ⟨by omega,l2,by omega,l4,l5,l6⟩
theorem Ba (b:Bod) (h:Pz b):kP b=some (lU b):=by
 obtain ⟨w1,w2,w3,w4,w5,w6⟩:=Bv h;have hB:=h.B; have hL:=h.L; have hR:=h.R; have hS:=h.S; have hX:=h.X;have q (n:Int):(put n).length<=5:=aR n;have q1:=q b.1; have q2:=q b.2.1; have q3:=q (b.2.2.2.1.length:Int); have q4:=q (b.2.2.2.2.2.1.length:Int); have q5:=q (b.2.2.2.2.2.2.length:Int);have W (x y:List UInt8) (h:x.length + y.length<=1000000000):wrS x y=some (x++y):=ar (by omega);have l1 (s:List UInt8) (hs:s.length<=10000000):loop (kz b) (0,s)=some (s++b.2.2.2.1.flatMap aU):=by
   have hloop:=bq (body:=kz b) (fun k:Nat=>((k:Int),s++(b.2.2.2.1.take k).flatMap aU)) b.2.2.2.1.length (b:=s++b.2.2.2.1.flatMap aU) ?_ ?_
   . simpa using hloop
   . intro k hk;have a1:=w2 k;have a2:=dB b.2.2.2.1[k];have a3:=hL.2 _ (S0 hk);unfold kz;dsimp only;rw [dlt hk,cond_true,ah hk,M0,na _ (by omega),M0,W _ _ (by simp only [P0]; omega),M0,ak hk (by omega),bz hk,N3];simp
   . unfold kz;simp
 have l2 (s:List UInt8) (hs:s.length<=10000000):loop (ky b) (0,s)=some (s++b.2.2.2.2.2.1.flatMap cd):=by
   have hloop:=bq (body:=ky b) (fun k:Nat=>((k:Int),s++(b.2.2.2.2.2.1.take k).flatMap cd)) b.2.2.2.2.2.1.length (b:=s++b.2.2.2.2.2.1.flatMap cd) ?_ ?_
   . simpa using hloop
   . intro k hk;have a1:=w4 k;have a3:=hS.2 _ (S0 hk);have a2:=rI a3;unfold ky;dsimp only;rw [dlt hk,cond_true,ah hk,M0,show kW (b.2.2.2.2.2.1[k].1,b.2.2.2.2.2.1[k].2.1,b.2.2.2.2.2.1[k].2.2.1,b.2.2.2.2.2.1[k].2.2.2)=_ from A7 b.2.2.2.2.2.1[k] a3,M0,W _ _ (by simp only [P0]; omega),M0,ak hk (by omega),bz hk,N3];simp
   . unfold ky;simp
 have l3 (s:List UInt8) (hs:s.length<=10000000):loop (iD b) (0,s)=some (match b.2.2.2.2.2.2.find? (fun x=>!decide (bn x=0)) with | some x => .inr ([],bn x) | none => .inl (s++b.2.2.2.2.2.2.flatMap bQ)):=by
   have hl:=wR (body:=iD b) b.2.2.2.2.2.2 (fun x=>!decide (bn x=0)) (fun k=>((k:Int),s++(b.2.2.2.2.2.2.take k).flatMap bQ)) (fun k => .inr ([],bn (b.2.2.2.2.2.2.getD k ([],0,0,0,[],[],[])))) (.inl (s++b.2.2.2.2.2.2.flatMap bQ)) ?_ ?_ ?_
   . simp only [N6,M5,P1] at hl;rw [show ((0:Nat):Int)=0 from rfl] at hl
     rcases hl with ⟨hf,hl⟩ | ⟨k,hk,hf,hb,hl⟩
     . rw [hl,hf]
     . rw [hl,hf]; simp [R1,hk]
   . intro k hk hg hb;have a0:=xt b.2.2.2.2.2.2 hX.2 k (by omega) hX.1 (fun j h1 h2=>by simpa using hg j h1 h2);have hb':bn b.2.2.2.2.2.2[k]=0:=by simpa using hb
     have a1:=(vf b.2.2.2.2.2.2[k] (s++(b.2.2.2.2.2.2.take k).flatMap bQ) (by simp only [P0]; omega) (hX.2 _ (S0 hk))).1 hb';unfold iD;dsimp only;rw [dlt hk,cond_true,ah hk,M0,show fR (b.2.2.2.2.2.2[k].1,(b.2.2.2.2.2.2[k].2.1,b.2.2.2.2.2.2[k].2.2.1,b.2.2.2.2.2.2[k].2.2.2.1,b.2.2.2.2.2.2[k].2.2.2.2.1,b.2.2.2.2.2.2[k].2.2.2.2.2.1,b.2.2.2.2.2.2[k].2.2.2.2.2.2)) (s++(b.2.2.2.2.2.2.take k).flatMap bQ)=_ from a1,M0];dsimp only;rw [show (!decide ((0:Int)=0))=false from rfl,cond_false,ak hk (by omega),bz hk,N3];simp
   . intro k hk hg hb;have a0:=xt b.2.2.2.2.2.2 hX.2 k (by omega) hX.1 (fun j h1 h2=>by simpa using hg j h1 h2);have hb':bn b.2.2.2.2.2.2[k]≠0:=by simpa using hb
     obtain ⟨s',a1⟩:=(vf b.2.2.2.2.2.2[k] (s++(b.2.2.2.2.2.2.take k).flatMap bQ) (by simp only [P0]; omega) (hX.2 _ (S0 hk))).2 hb';unfold iD;dsimp only;rw [dlt hk,cond_true,ah hk,M0,show fR (b.2.2.2.2.2.2[k].1,(b.2.2.2.2.2.2[k].2.1,b.2.2.2.2.2.2[k].2.2.1,b.2.2.2.2.2.2[k].2.2.2.1,b.2.2.2.2.2.2[k].2.2.2.2.1,b.2.2.2.2.2.2[k].2.2.2.2.2.1,b.2.2.2.2.2.2[k].2.2.2.2.2.2)) (s++(b.2.2.2.2.2.2.take k).flatMap bQ)=_ from a1,M0];dsimp only;rw [decide_eq_false hb'];simp [R1,hk]
   . unfold iD;simp
 unfold kP;rw [W _ _ (by simp),M0,gL _ (by simp),M0,W _ _ (by simp only [P0,X1,M3,O3,M5,P1]; omega),M0,uK _ hB,M0,W _ _ (by simp only [P0,X1,M3,O3,M5,P1]; omega),M0,ew,M0,
   W _ _ (by simp only [P0,X1,M3,O3,M5,P1]; omega),M0,l1 _ (by simp only [P0,X1,M3,O3,M5,P1]; omega),M0,na _ (by omega),M0,W _ _ (by simp only [P0,X1,M3,O3,M5,P1]; omega),M0,ew,M0,
   W _ _ (by simp only [P0,X1,M3,O3,M5,P1]; omega),M0,l2 _ (by simp only [P0,X1,M3,O3,M5,P1]; omega),M0,ew,M0,W _ _ (by simp only [P0,X1,M3,O3,M5,P1]; omega),M0,l3 _ (by simp only [P0,X1,M3,O3,M5,P1]; omega)]
 unfold lU;cases b.2.2.2.2.2.2.find? (fun x=>!decide (bn x=0)) with
 | some x=>rfl
 | none=>simp [oX]
end
section
open Go.RowKit Lb
theorem Cod.stmt:Cod cU cH (fun x=>fOk x=true/\okN x.2.1/\okN x.2.2.1/\0<=x.2.2.2.1/\x.2.2.2.1 < 2147483648) where
 back:=fun s x m h=>by
   obtain ⟨_,_,_,h1,h2,h3,h4,h5,h6⟩:=nJ h;exact ⟨⟨h1,h5,h6,h2,h3⟩,h4.symm⟩
 to:=fun x T ⟨h1,h2,h3,h4,h5⟩=>by
   unfold cU;rw [BG x T h1 h2.1 h3.1 h4 h2.2 h3.2 h5];rfl
abbrev po (x:bM):Prop:=((x.1.length:Int)<=65536/\∀ s∈x.1,fOk s=true/\okN s.2.1/\okN s.2.2.1/\0<=s.2.2.2.1/\s.2.2.2.1 < 2147483648)/\aB x.2=0/\pL x.2
def cW (x:bM):List UInt8:=(put (x.1.length:Int)++x.1.flatMap cH)++aH x.2
structure Ext {α:Type} (p:Ps α) (w:α->List UInt8) (ok:α->Prop):Prop where
 back:∀ s x m,p s = .inr (x,m)->ok x/\s.take m=w x
 more:∀ s x m T,(s++T).length<=1000000->p s = .inr (x,m)->p (s++T) = .inr (x,m)
section
variable {α β:Type} {p:Ps α} {w:α->List UInt8} {ok:α->Prop}
theorem Cod.ext (h:Cod p w ok) (hp:Sane p):Ext p w ok:=⟨h.back,fun s x m T _ hs=>by
 obtain ⟨h1,h2⟩:=h.back s x m hs;have hl:=hp.len _ _ _ hs;have h3:=h.to x (s.drop m++T) h1;rw [<- h2,<- O0,Y2] at h3;rw [h3,Z0]
 congr 2; omega⟩
end
abbrev More {α:Type} (p:Ps α):Prop:=∀ s x m T,(s++T).length<=1000000->p s = .inr (x,m)->p (s++T) = .inr (x,m)
structure okBd (b:Bod):Prop where
 B:okB 65536 b.2.2.1
 L:∀ t∈b.2.2.2.1,okT t
 R:okT b.2.2.2.2.1
 S:∀ g∈b.2.2.2.2.2.1,okS g
 X:∀ x∈b.2.2.2.2.2.2,po x
def cF (b:Bod):List UInt8:=put b.1++(put b.2.1++(co b.2.2.1++((put (b.2.2.2.1.length:Int)++b.2.2.2.1.flatMap fC)++(fC b.2.2.2.2.1++((put (b.2.2.2.2.2.1.length:Int)++b.2.2.2.2.2.1.flatMap jW)++(put (b.2.2.2.2.2.2.length:Int)++b.2.2.2.2.2.2.flatMap cW))))))
end
section
abbrev Flt:=Int×Int×Int×Int
def sE (L:List (List St)) (R:Int) (x:Stm):Int:=((cy x L R).getD ([],0)).2
def tE (a:Ar) (x:Tm):Int:=((cz x a).getD ([],0)).2
def aL (b:Bo):Ar:=(((b.2.2.2.2.2.2.length:Nat):Int),b.2.1,b.2.2.2.1,b.2.2.2.2.1,b.2.2.2.2.2.1)
def cD (b:Bo):Flt:=if b.1 < 1\/b.2.1 < b.1 then (7,0,0,0) else if 65536 < b.2.1 then (6,0,0,0) else (0,0,0,0)
def dI (b:Bo):Flt:=match b.2.2.1.findIdx? (aJ b.1) with | some k=>(7,1,(k:Int),0) | none=>(0,0,0,0)
def cV (b:Bo):Flt:=if b.2.2.2.1=[] then (14,2,0,0) else match b.2.2.2.1.findIdx? (fun t=>!decide (rck b.2.1 t=0)) with | some k=>(rck b.2.1 (b.2.2.2.1.getD k []),2,(k:Int),0) | none=>(0,0,0,0)
def bN (b:Bo):Flt:=if rck b.1 b.2.2.2.2.1=0 then if shp b.2.2.2.2.1 (b.2.2.2.1.getD 0 []) then (0,3,0,0) else (8,3,0,0) else (rck b.1 b.2.2.2.2.1,3,0,0)
def dX (b:Bo):Flt:=match b.2.2.2.2.2.1.findIdx? (fun s=>!decide (chk s=0)) with | some k=>(chk (b.2.2.2.2.2.1.getD k (0,[],[],[])),4,(k:Int),0) | none=>(0,0,0,0)
def jM (b:Bo):Flt:=if b.2.2.2.2.2.2=[] then (14,5,0,0) else (0,0,0,0)
def aW (b:Bo) (x:Blk):Option (Int×Int×Int) :=
 match x.1.findIdx? (fun s=>!decide (sE b.2.2.2.1 b.2.1 s=0)) with
 | some j=>some (sE b.2.2.2.1 b.2.1 (x.1.getD j (0,0,0,0,false)),6,(j:Int))
 | none=>if tE (aL b) x.2=0 then none else some (tE (aL b) x.2,7,0)
def cG (k:Nat) (o:Option (Int×Int×Int)):Flt:=match o with | some (e,p,j)=>(e,p,(k:Int),j) | none=>(0,0,0,0)
def bg (b:Bo):Flt:=match b.2.2.2.2.2.2.findIdx? (fun x=>(aW b x).isSome) with | some k=>cG k (aW b (b.2.2.2.2.2.2.getD k ([],0,0,0,[],[],[]))) | none=>(0,0,0,0)
def or0 (a b:Flt):Flt:=if a.1=0 then b else a
def vck (b:Bo):Flt:=or0 (cD b) (or0 (dI b) (or0 (cV b) (or0 (bN b) (or0 (dX b) (or0 (jM b) (bg b))))))
theorem vB {t:List St} (n:Int) (h:t.length<=20):dA t n=some (rck n t):=nw t n (by omega)
section
variable {b:Bo} (h:Sm b)
include h
theorem FM {x:Stm}:∃ l,fc x b.2.2.2.1 b.2.1=some (l,sE b.2.2.2.1 b.2.1 x)/\cy x b.2.2.2.1 b.2.1=some (l,sE b.2.2.2.1 b.2.1 x):=by
 obtain ⟨l,e,h1,h2,_⟩:=uU x b.2.2.2.1 b.2.1 h.loc;have:sE b.2.2.2.1 b.2.1 x=e:=by unfold sE; rw [h2]; rfl
 exact ⟨l,by rw [h1,this],by rw [h2,this]⟩
theorem Gf {x:Blk} (hx:x∈b.2.2.2.2.2.2):∃ l,dy x.2 (aL b)=some (l,tE (aL b) x.2)/\cz x.2 (aL b)=some (l,tE (aL b) x.2):=by
 obtain ⟨a1,a2,a3⟩:=h.term x hx;obtain ⟨l,e,h1,h2,_⟩:=yo x.2 (aL b) a1 a2 a3 h.ret h.loc h.sig;have:tE (aL b) x.2=e:=by unfold tE; rw [h2]; rfl
 exact ⟨l,by rw [h1,this],by rw [h2,this]⟩
theorem sgl {s:Sg} (hs:s∈b.2.2.2.2.2.1):cZ s=some (chk s):=by
 obtain ⟨a1,a2,a3,a4⟩:=h.sig s hs;exact vh s (by omega) (fun t ht=>by have:=a4 t ht; omega)
end
end
set_option maxRecDepth 20000
section
theorem Bb (x:Stm) (xb:List (List St)) (xc:Int) (hb:∀ t∈xb,t.length<=20):∃ l e,cy x xb xc=some (l,e)/\(e=0->fOk x=true/\(aE x.1=true->loc xb x.2.1=true)/\(aD x.1=true->loc xb x.2.2.1=true)/\(aC x.1=true->0<=x.2.2.2.1/\x.2.2.2.1 < xc)):=by
 obtain ⟨k,d,s,r,m⟩:=x;unfold cy;have g1:iQ k=some (aE k):=rfl;have g2:iP k=some (aD k):=rfl;have g3:iC k=some (aC k):=rfl;simp only [nH,M0,g1,g2,g3,xU];cases hf:fOk (k,d,s,r,m) with
 | false=>exact ⟨[],3,rfl,by simp⟩
 | true =>
   have hk:k=0\/k=1\/k=2\/k=3\/k=4\/k=5:=by
     unfold fOk at hf;simp only [Q0] at hf;exact six (by simpa using hf.1.1.1)
   have hcl (c1 c2 c3:Bool):(cond c1 (some true) (some c2):Option Bool).bind (fun t=>cond t (some true) (some c3))=some (c1||c2||c3):=by cases c1 <;> cases c2 <;> rfl
   simp only [Y0,cond_false];cases h1:(aE k&&!loc xb d) with
   | true=>exact ⟨[],7,by simp,by simp⟩
   | false =>
     cases h2:(aD k&&!loc xb s) with
     | true=>exact ⟨[],7,by simp,by simp⟩
     | false =>
       cases h3:(aC k&&(decide (r < 0)||decide (xc<=r))) with
       | true=>exact ⟨[],7,by simp,by simp⟩
       | false =>
         have hg:True/\(aE k=true->loc xb d=true)/\(aD k=true->loc xb s=true)/\(aC k=true->0<=r/\r < xc):=by
           refine ⟨trivial,fun h=>by simpa [h] using h1,fun h=>by simpa [h] using h2,fun h=>?_⟩;rw [h,L7,O7,decide_eq_false_iff_not,decide_eq_false_iff_not] at h3;omega
         simp only [cond_false,M0]
         rcases hk with rfl | rfl | rfl | rfl | rfl | rfl
         . exact ⟨[],0,rfl,fun _=>hg⟩
         . obtain ⟨t1,a1,b1⟩:=cS (hg.2.1 rfl) hb;obtain ⟨t2,a2,b2⟩:=cS (hg.2.2.1 rfl) hb;simp only [a1,a2,decide_true,cond_true,M0];rw [fg _ _ _ _ (by omega) (by omega) (by omega)];exact ⟨_,_,rfl,fun _=>hg⟩
         . obtain ⟨t1,a1,b1⟩:=cS (hg.2.1 rfl) hb;obtain ⟨t2,a2,b2⟩:=cS (hg.2.2.1 rfl) hb;refine ⟨(lo r m t2 t1).1,(lo r m t2 t1).2,?_,fun _=>hg⟩;simp [a1,a2,vJ t2 t1 r m (by omega)]
         . obtain ⟨t1,a1,b1⟩:=cS (hg.2.1 rfl) hb;obtain ⟨t2,a2,b2⟩:=cS (hg.2.2.1 rfl) hb;refine ⟨(ag r m t2 t1).1,(ag r m t2 t1).2,?_,fun _=>hg⟩;simp [a1,a2,va t2 t1 r m (by omega)]
         . exact ⟨[],0,rfl,fun _=>hg⟩
         . exact ⟨[],0,rfl,fun _=>hg⟩
theorem AX {x:Tm} {a:Ar} (hx:x.2.2.2.2.1.length<=20) (hb:bad (a.2.2.1.length:Int) x.2.2.2.2.1=false) (hL:∀ t∈a.2.2.1,t.length<=20) :
   ∃ C:List (List St),loop (ix x a) ([],0)=some C/\(∀ t∈C,t.length<=20)/\∀ t∈C,t∈a.2.2.1:=by
 have hin (k:Nat) (hk:k < x.2.2.2.2.1.length):0<=x.2.2.2.2.1[k]/\x.2.2.2.2.1[k] < (a.2.2.1.length:Int):=by
   have:=V3.1 hb _ (S0 hk);simp at this; omega
 have hl:=bq (body:=ix x a) (fun k:Nat=>((x.2.2.2.2.1.take k).map (fun i=>a.2.2.1.getD i.toNat []),(k:Int))) x.2.2.2.2.1.length (b:=x.2.2.2.2.1.map (fun i=>a.2.2.1.getD i.toNat [])) ?_ ?_
 . have hm:∀ t∈x.2.2.2.2.1.map (fun i=>a.2.2.1.getD i.toNat []),t∈a.2.2.1:=by
     intro t ht;obtain ⟨i,hi,rfl⟩:=Y4.1 ht;obtain ⟨k,hk,rfl⟩:=W3 hi;have h2:=hin k hk;have:x.2.2.2.2.1[k].toNat < a.2.2.1.length:=by omega
     have e:a.2.2.1.getD x.2.2.2.2.1[k].toNat []=a.2.2.1[x.2.2.2.2.1[k].toNat]:=by simp [R1,this]
     rw [e]; exact S0 _
   refine ⟨_,hl,fun t ht=>?_,hm⟩;obtain ⟨i,hi,rfl⟩:=Y4.1 ht;obtain ⟨k,hk,rfl⟩:=W3 hi;have h2:=hin k hk;have:x.2.2.2.2.1[k].toNat < a.2.2.1.length:=by omega
   have e:a.2.2.1.getD x.2.2.2.2.1[k].toNat []=a.2.2.1[x.2.2.2.2.1[k].toNat]:=by simp [R1,this]
   rw [e]; exact hL _ (S0 _)
 . intro k hk;have h2:=hin k hk;have h3:x.2.2.2.2.1[k].toNat < a.2.2.1.length:=by omega
   have e:a.2.2.1.getD x.2.2.2.2.1[k].toNat []=a.2.2.1[x.2.2.2.2.1[k].toNat]:=by simp [R1,h3]
   unfold ix;simp only [dlt hk,cond_true,ah hk,M0];rw [ij h2.1 h2.2,M0,ar (by simp; omega),M0,ak hk (by omega),bz hk,Z2];simp only [M2,Y5,e]
 . simp [ix]
structure TmG (x:Tm) (a:Ar):Prop where
 form:aB x=0
 tos:bad a.1 x.2.2.2.1=false
 args:bad (a.2.2.1.length:Int) x.2.2.2.2.1=false
 par:bad a.2.1 x.2.2.2.2.2=false
 call:x.1=4->bad (a.2.2.1.length:Int) [x.2.2.1]=false/\bad (a.2.2.2.2.length:Int) [x.2.1]=false
theorem AZ (x:Tm) (a:Ar) (l2:x.2.2.2.1.length<=20) (l3:x.2.2.2.2.1.length<=20) (l4:x.2.2.2.2.2.length<=20) (hR:a.2.2.2.1.length<=20) (hL:∀ t∈a.2.2.1,t.length<=20) (hS:∀ s∈a.2.2.2.2,s.2.1.length<=20/\s.2.2.1.length<=20/\s.2.2.2.length<=20/\∀ t∈s.2.2.1,t.length<=20) :
   ∃ l e,cz x a=some (l,e)/\(e=0->TmG x a):=by
 unfold cz;rw [show gt (x.1,x.2.1,x.2.2.1,x.2.2.2.1,x.2.2.2.2.1,x.2.2.2.2.2)=some (aB x) from nA x];by_cases hf:aB x=0
 . have o1 (i n:Int):dx [i] n=some (!bad n [i]):=ej [i] n (by simp);simp only [hf,M0,decide_true,Y0,cond_false,ej x.2.2.2.1 _ (by omega:x.2.2.2.1.length<=1000),ej x.2.2.2.2.1 _ (by omega:x.2.2.2.2.1.length<=1000),ej x.2.2.2.2.2 _ (by omega:x.2.2.2.2.2.length<=1000),o1,bf0];have seven:∃ l e,(some (([]:List Nd),(7:Int)):Option (List Nd×Int))=some (l,e)/\(e=0->TmG x a):=⟨[],7,rfl,by simp⟩
   cases b1:bad a.1 x.2.2.2.1 with
   | true=>exact seven
   | false =>
     cases b2:bad (a.2.2.1.length:Int) x.2.2.2.2.1 with
     | true=>exact seven
     | false =>
       cases b3:bad a.2.1 x.2.2.2.2.2 with
       | true=>exact seven
       | false =>
         by_cases k4:x.1=4
         . have n3:¬ x.1=3:=by omega
           rw [decide_eq_true k4,decide_eq_false n3];cases b4:bad (a.2.2.1.length:Int) [x.2.2.1] with
           | true=>exact seven
           | false =>
             cases b5:bad (a.2.2.2.2.length:Int) [x.2.1] with
             | true=>exact seven
             | false =>
               obtain ⟨C,c1,c2,c3⟩:=AX l3 b2 hL;have hg:TmG x a:=⟨hf,b1,b2,b3,fun _=>⟨b4,b5⟩⟩;simp [bad] at b4 b5;simp only [Q8,V7,Q6,Y0,cond_false,cond_true,M0,c1,N7,L7];rw [ij b5.1 b5.2,ij b4.1 b4.2];have hs:=hS _ (S0 (l:=a.2.2.2.2) (n:=x.2.1.toNat) (by omega));have ht:=hL _ (S0 (l:=a.2.2.1) (n:=x.2.2.1.toNat) (by omega));simp only [M0];generalize a.2.2.2.2[x.2.1.toNat]=S at hs ⊢;generalize a.2.2.1[x.2.2.1.toNat]=D at ht ⊢;rw [show kJ (S.1,S.2.1,S.2.2.1,S.2.2.2) x.2.2.2.2.2 C D=_ from vO S _ C D hs.2.2.1 hs.2.2.2 c2 ht];exact ⟨_,_,rfl,fun _=>hg⟩
         . have hg:TmG x a:=⟨hf,b1,b2,b3,fun h=>absurd h k4⟩;rw [decide_eq_false k4];by_cases k3:x.1=3
           . rw [decide_eq_true k3];cases hz:a.2.2.1 with
             | nil=>exact ⟨[],14,by simp,by simp⟩
             | cons t ts =>
               have ht:=hL t (by rw [hz]; simp);have hl0:decide ((((t :: ts).length:Nat):Int)=0)=false:=decide_eq_false (by simp; omega);simp only [hl0,Q8,V7,N7,Q6,Y0,cond_false,cond_true,M0,show aa (t :: ts) 0=some t from rfl];rw [fg _ _ _ _ (by omega) (by omega) (by omega)];exact ⟨_,_,rfl,fun _=>hg⟩
           . rw [decide_eq_false k3];exact ⟨[],0,rfl,fun _=>hg⟩
 . exact ⟨[],aB x,by simp [hf],fun h=>absurd h hf⟩
section
variable {b:Bo} (h:Sm b)
include h
theorem Ey {x:Stm} (h0:sE b.2.2.2.1 b.2.1 x=0):fOk x=true/\(aE x.1=true->loc b.2.2.2.1 x.2.1=true)/\(aD x.1=true->loc b.2.2.2.1 x.2.2.1=true)/\(aC x.1=true->0<=x.2.2.2.1/\x.2.2.2.1 < b.2.1):=by
 obtain ⟨l,e,h2,h3⟩:=Bb x b.2.2.2.1 b.2.1 h.loc;have:sE b.2.2.2.1 b.2.1 x=e:=by unfold sE; rw [h2]; rfl
 exact h3 (by omega)
theorem DR {x:Blk} (hx:x∈b.2.2.2.2.2.2) (h0:tE (aL b) x.2=0):TmG x.2 (aL b):=by
 obtain ⟨a1,a2,a3⟩:=h.term x hx;obtain ⟨l,e,h2,h3⟩:=AZ x.2 (aL b) a1 a2 a3 h.ret h.loc h.sig;have:tE (aL b) x.2=e:=by unfold tE; rw [h2]; rfl
 exact h3 (by omega)
end
theorem jd {a c:Flt} (h:(or0 a c).1=0):a.1=0/\c.1=0:=by
 unfold or0 at h;by_cases q:a.1=0
 . rw [if_pos q] at h; exact ⟨q,h⟩
 . rw [if_neg q] at h; exact absurd h q
end
section
open Go.RowKit Lb
theorem gR {α:Type} {f g:α->List UInt8}:∀ (l:List α),(∀ x∈l,f x=g x)->l.flatMap f=l.flatMap g
 | [],_=>rfl
 | x :: l,h=>by rw [O3,O3,h x (by simp),gR l (fun y hy=>h y (by simp [hy]))]
theorem nK {t:List St} (h:okT t):aU t=fC t:=by
 unfold aU fC;rw [gR (f:=ls) (g:=oU) t (fun x hx=>by
   unfold ls oU;have:=(xv x).symm.trans (DO (h.2 x hx));rw [X3 this])]
theorem C5 {g:Sgt} (h:okS g):cd g=jW g:=by
 unfold cd jW n9 ta;rw [nK h.2.2.2,gR g.2.2.1 (fun t ht=>nK (h.2.2.1.2 t ht))]
theorem CC {x:bM} (h:po x):bQ x=cW x:=by
 unfold bQ cW;rw [gR (f:=bS) (g:=cH) x.1 (fun s hs=>by
   obtain ⟨_,_,_,h4,h5⟩:=h.1.2 s hs;unfold bS cH;rw [X3 ((wK s.2.2.2.1 s.2.2.2.2).symm.trans (Ea h4 h5))])]
theorem ro {x:bM} (h:po x):bn x=0:=by
 unfold bn;have:x.1.any (fun s=>!fOk s)=false:=by
   rw [V3]; intro s hs; simp [(h.1.2 s hs).1]
 rw [this]; exact h.2.1
theorem xK {b:Bod} (h:okBd b):lU b=([109,105,114,1]++cF b,0):=by
 unfold lU;have hf:b.2.2.2.2.2.2.find? (fun x=>!decide (bn x=0))=none:=by
   rw [aq0]; intro x hx; simp [ro (h.X x hx)]
 rw [hf];dsimp only;unfold oX cF;rw [nK h.R,gR b.2.2.2.1 (fun t ht=>nK (h.L t ht)),gR b.2.2.2.2.2.1 (fun g hg=>C5 (h.S g hg)),gR b.2.2.2.2.2.2 (fun x hx=>CC (h.X x hx))];simp
section
variable {α β:Type}
theorem cE {p:Ps α} {q:α->Ps β} {u T:List UInt8} {x:α} {y:β} {m:Nat} (h1:p (u++T) = .inr (x,u.length)) (h2:q x T = .inr (y,m)):pb p q (u++T) = .inr (y,u.length + m):=by
 unfold pb;rw [h1];dsimp only;rw [P5,h2]
theorem rn {n:Int} (T:List UInt8) (h0:0<=n) (h1:n<=65536):dn 65536 (put n++T) = .inr (n,(put n).length) :=
 cE (q:=fun n=>if (65536:Int) < n then tC 6 else aF n) (m:=0) (Cod.num.to n T ⟨h0,by omega⟩) (by rw [if_neg (by omega)]; rfl)
theorem wF {p:Ps α} {w:α->List UInt8} {ok:α->Prop} {B:Nat} (hp:∀ x T,ok x->(w x++T).length<=B->p (w x++T) = .inr (x,(w x).length)):∀ (l:List α) (T:List UInt8),(∀ x∈l,ok x)->(l.flatMap w++T).length<=B->bK p l.length (l.flatMap w++T) = .inr (l,(l.flatMap w).length)
 | [],T,_,_=>rfl
 | x :: l,T,h,hB=>by
   rw [O3,O0] at hB;have ih:=wF hp l T (fun y hy=>h y (by simp [hy])) (by rw [P0] at hB; omega);rw [O3,O0,P0];exact cE (hp x (l.flatMap w++T) (h x (by simp)) hB) (q:=fun x=>pb (bK p l.length) fun xs=>aF (x :: xs)) (m:=(l.flatMap w).length + 0) (cE ih rfl)
theorem nX {p:Ps α} {w:α->List UInt8} {ok:α->Prop} {B:Nat} (hp:∀ x T,ok x->(w x++T).length<=B->p (w x++T) = .inr (x,(w x).length)) (l:List α) (T:List UInt8) (h:∀ x∈l,ok x) (h6:(l.length:Int)<=65536) (hB:((put (l.length:Int)++l.flatMap w)++T).length<=B) :
   aK 65536 p ((put (l.length:Int)++l.flatMap w)++T) = .inr (l,(put (l.length:Int)++l.flatMap w).length):=by
 rw [O0] at hB ⊢;rw [P0];refine cE (q:=fun n:Int=>bK p n.toNat) (rn _ (by omega) h6) ?_;rw [O1];exact wF hp l T h (by rw [P0] at hB; omega)
end
theorem Cs (x:Tm) (T:List UInt8) (h:aB x=0/\pL x) (hB:(aH x++T).length<=1000000):dv (aH x++T) = .inr (x,(aH x).length):=by
 obtain ⟨hf,h1,h2,h3,h4,h5⟩:=h;have:=(FQ x T hf (by rw [P0] at hB; omega) h1 h2 h3 h4 h5).1;unfold dv;rw [if_pos hB,this];rfl
theorem Ec (x:bM) (T:List UInt8) (h:po x) (hB:(cW x++T).length<=1000000):bY (cW x++T) = .inr (x,(cW x).length):=by
 obtain ⟨⟨h1,h2⟩,h3⟩:=h;unfold cW at hB ⊢;rw [O0] at hB ⊢;rw [P0];have e1:=nX (p:=cU) (w:=cH) (B:=1000000) (fun s T hs _=>Cod.stmt.to s T hs) x.1 (aH x.2++T) h2 h1 hB;exact cE (q:=fun l=>pb dv fun t=>aF (l,t)) (m:=(aH x.2).length + 0) e1 (cE (q:=fun t=>aF (x.1,t)) (Cs x.2 T h3 (by rw [P0] at hB; omega)) rfl)
theorem C1 (b:Bod) (h:okBd b) (h1:0<=b.1/\b.1<=65536) (h2:0<=b.2.1/\b.2.1<=65536) (h3:(b.2.2.2.1.length:Int)<=65536) (h4:(b.2.2.2.2.2.1.length:Int)<=65536) (h5:(b.2.2.2.2.2.2.length:Int)<=65536) (hB:(cF b).length<=1000000) :
   lN (cF b) = .inr (b,(cF b).length):=by
 obtain ⟨u,n,B,L,R,S,X⟩:=b;have g1:=h.B; have g2:=h.L; have g3:=h.R; have g4:=h.S; have g5:=h.X;dsimp only at *;unfold cF at hB ⊢;dsimp only at hB ⊢;have lx:(put (X.length:Int)++X.flatMap cW).length<=1000000:=by simp only [P0] at hB ⊢; omega
 have ex:=nX (p:=bY) (w:=cW) (B:=1000000) Ec X [] g5 h5 (by rw [P1]; exact lx);rw [P1] at ex;have ex':bY=bY:=rfl;have e7:pb (aK 65536 bY) (fun X=>aF (u,n,B,L,R,S,X)) (put (X.length:Int)++X.flatMap cW) = .inr ((u,n,B,L,R,S,X),(put (X.length:Int)++X.flatMap cW).length + 0):=by
   have:=cE (q:=fun X=>aF (u,n,B,L,R,S,X)) (T:=[]) (m:=0) (y:=(u,n,B,L,R,S,X)) (by rw [P1]; exact ex) rfl;rw [P1] at this;exact this
 have e6:=cE (q:=fun S=>pb (aK 65536 bY) fun X=>aF (u,n,B,L,R,S,X)) (nX (p:=b8) (w:=jW) (B:=1000000) (fun x T hx _=>Cod.sig.to x T hx) S (put (X.length:Int)++X.flatMap cW) g4 h4 (by simp only [P0] at hB ⊢; omega)) e7;have e5:=cE (q:=fun R=>pb (aK 65536 b8) fun S=>pb (aK 65536 bY) fun X=>aF (u,n,B,L,R,S,X)) (Cod.type.to R _ g3) e6;have e4:=cE (q:=fun L=>pb bC fun R=>pb (aK 65536 b8) fun S=>pb (aK 65536 bY) fun X=>aF (u,n,B,L,R,S,X)) (nX (p:=bC) (w:=fC) (B:=1000000) (fun x T hx _=>Cod.type.to x T hx) L _ g2 h3 (by simp only [P0] at hB ⊢; omega)) e5;have e3:=cE (q:=fun B=>pb (aK 65536 bC) fun L=>pb bC fun R=>pb (aK 65536 b8) fun S=>pb (aK 65536 bY) fun X=>aF (u,n,B,L,R,S,X)) ((Cod.bounds (most:=65536) (by decide)).to B _ g1) e4;have e2:=cE (q:=fun n=>pb (dJ 65536) fun B=>pb (aK 65536 bC) fun L=>pb bC fun R=>pb (aK 65536 b8) fun S=>pb (aK 65536 bY) fun X=>aF (u,n,B,L,R,S,X)) (rn _ h2.1 h2.2) e3;have e1:=cE (q:=fun u=>pb (dn 65536) fun n=>pb (dJ 65536) fun B=>pb (aK 65536 bC) fun L=>pb bC fun R=>pb (aK 65536 b8) fun S=>pb (aK 65536 bY) fun X=>aF (u,n,B,L,R,S,X)) (rn _ h1.1 h1.2) e2;refine e1.trans ?_;simp only [P0,Z3]
theorem Ga (b:Bod) (hp:lN (cF b) = .inr (b,(cF b).length)):tk ([109,105,114,1]++cF b)=(b,0):=by
 have hh:jt ([109,105,114,1]++cF b)=true:=by
   unfold jt;simp
 unfold tk;have hd:List.drop 4 (([109,105,114,1]:List UInt8)++cF b)=cF b:=rfl;rw [hh,if_pos rfl,hd,hp];dsimp only;rw [if_pos (by rw [List.drop_eq_nil_iff]; simp; omega)]
theorem E6 {b:Bo} (h:(bg b).1=0) {x:Blk} (hx:x∈b.2.2.2.2.2.2):(∀ s∈x.1,sE b.2.2.2.1 b.2.1 s=0)/\tE (aL b) x.2=0:=by
 have hn:aW b x=none:=by
   unfold bg at h;cases hf:b.2.2.2.2.2.2.findIdx? (fun x=>(aW b x).isSome) with
   | none =>
     have:=T1.1 hf x hx;simpa using this
   | some k =>
     exfalso;obtain ⟨hk,h5,_⟩:=S1.1 hf;have e:b.2.2.2.2.2.2.getD k ([],0,0,0,[],[],[])=b.2.2.2.2.2.2[k]:=by simp [R1,hk]
     rw [hf] at h;simp only [e] at h;generalize b.2.2.2.2.2.2[k]=y at h h5;unfold aW at h h5;cases hg:y.1.findIdx? (fun s=>!decide (sE b.2.2.2.1 b.2.1 s=0)) with
     | some j =>
       obtain ⟨hj,h6,_⟩:=S1.1 hg;have e2:y.1.getD j (0,0,0,0,false)=y.1[j]:=by simp [R1,hj]
       rw [hg] at h;simp only [cG,e2] at h;simp [h] at h6
     | none =>
       rw [hg] at h h5;by_cases q:tE (aL b) y.2=0
       . simp [q] at h5
       . simp [q,cG] at h
 unfold aW at hn;cases hg:x.1.findIdx? (fun s=>!decide (sE b.2.2.2.1 b.2.1 s=0)) with
 | some j=>rw [hg] at hn; cases hn
 | none =>
   rw [hg] at hn;refine ⟨fun s hs=>by have:=T1.1 hg s hs; simpa using this,?_⟩;by_cases q:tE (aL b) x.2=0
   . exact q
   . simp [q] at hn
theorem pJ {n:Int} {t:List St} (h:rin n t=false) (hn:n<=65536) (hl:t.length<=16):okT t:=⟨by omega,fun x hx=>by have:=dk h hx; constructor <;> omega⟩
theorem lY {n:Int} {l:List Int} (h:bad n l=false) (hn:n<=65536):bd l:=fun x hx=>by
 have:=V3.1 h x hx;simp at this;constructor <;> omega
theorem zf {n:Int} {c:Int×Int} (h:aJ n c=false) (hn:n<=65536):okN c.1/\okN c.2:=by
 unfold aJ at h;simp only [O7,decide_eq_false_iff_not] at h;refine ⟨⟨by omega,by omega⟩,by omega,by omega⟩
theorem zV {L:List (List St)} {d:Int} (h:loc L d=true) (hn:L.length<=65536):okN d:=by
 unfold loc at h;simp only [Q0,decide_eq_true_eq] at h;constructor <;> omega
theorem ph {b:Bo} (h:(cD b).1=0):1<=b.1/\b.1<=b.2.1/\b.2.1<=65536:=by
 unfold cD at h;by_cases q:b.1 < 1\/b.2.1 < b.1
 . rw [if_pos q] at h; cases h
 . rw [if_neg q] at h;by_cases q2:65536 < b.2.1
   . rw [if_pos q2] at h; cases h
   . omega
theorem FR {b:Bo} (h:Sm b) (hv:(vck b).1=0):okBd b:=by
 unfold vck at hv;obtain ⟨v1,hv⟩:=jd hv;obtain ⟨v2,hv⟩:=jd hv;obtain ⟨v3,hv⟩:=jd hv;obtain ⟨v4,hv⟩:=jd hv;obtain ⟨v5,hv⟩:=jd hv;obtain ⟨v6,v7⟩:=jd hv;have a1:=ph v1;have i0:okN 0:=by constructor <;> decide
 refine ⟨⟨by have:=h.bounds; omega,fun c hc=>?_⟩,fun t ht=>?_,?_,fun s hs=>?_,fun x hx=>?_⟩
 . unfold dI at v2;cases hf:b.2.2.1.findIdx? (aJ b.1) with
   | some k=>rw [hf] at v2; cases v2
   | none=>exact zf (T1.1 hf c hc) (by omega)
 . unfold cV at v3;by_cases q:b.2.2.2.1=[]
   . rw [q] at ht; cases ht
   . rw [if_neg q] at v3;cases hf:b.2.2.2.1.findIdx? (fun t=>!decide (rck b.2.1 t=0)) with
     | some k =>
       exfalso;obtain ⟨hk,h5,_⟩:=S1.1 hf;have e:b.2.2.2.1.getD k []=b.2.2.2.1[k]:=by simp [R1,hk]
       rw [hf] at v3;simp only [e] at v3;simp [v3] at h5
     | none =>
       have:=T1.1 hf t ht;have:=di (show rck b.2.1 t=0 by simpa using this);exact pJ this.2 (by omega) this.1
 . unfold bN at v4;by_cases q:rck b.1 b.2.2.2.2.1=0
   . have:=di q;exact pJ this.2 (by omega) this.1
   . rw [if_neg q] at v4; exact absurd v4 q
 . unfold dX at v5;cases hf:b.2.2.2.2.2.1.findIdx? (fun s=>!decide (chk s=0)) with
   | some k =>
     exfalso;obtain ⟨hk,h5,_⟩:=S1.1 hf;have e:b.2.2.2.2.2.1.getD k (0,[],[],[])=b.2.2.2.2.2.1[k]:=by simp [R1,hk]
     rw [hf] at v5;simp only [e] at v5;simp [v5] at h5
   | none =>
     have:=T1.1 hf s hs;obtain ⟨c1,c2,c3,c4,c5,c6,c7,c8⟩:=sb (show chk s=0 by simpa using this);exact ⟨⟨by omega,by omega⟩,⟨by omega,fun c hc=>zf (c5 c hc) (by omega)⟩,⟨by omega,fun t ht=>pJ (c6 t ht).2 (by omega) (c6 t ht).1⟩,pJ c8 (by omega) c7⟩
 . obtain ⟨z1,z2⟩:=E6 v7 hx;have hst:=h.stmts hx;have hL:=h.locals;refine ⟨⟨by omega,fun s hs=>?_⟩,?_⟩
   . obtain ⟨f,d,r,g⟩:=Ey h (z1 s hs);obtain ⟨k,sd,ss,sr,m⟩:=s;have f0:=f;unfold fOk at f;simp only [Q0,bP0,decide_eq_true_eq,U9] at f;obtain ⟨⟨⟨⟨f1,f2⟩,f3⟩,f4⟩,f5⟩:=f;dsimp only at f1 f2 f3 f4 f5 d r g;refine ⟨f0,?_,?_,?_⟩
     . rcases f3 with f3 | f3
       . exact zV (d f3) (by omega)
       . show okN sd; rw [f3]; exact i0
     . rcases f4 with f4 | f4
       . exact zV (r f4) (by omega)
       . show okN ss; rw [f4]; exact i0
     . rcases f5 with f5 | f5
       . have:=g f5; exact ⟨by show 0<=sr; omega,by show sr < _; omega⟩
       . exact ⟨by show 0<=sr; omega,by show sr < _; omega⟩
   . obtain ⟨g1,g2,g3,g4,g5⟩:=DR h hx z2;obtain ⟨l1,l2,l3⟩:=h.term x hx;obtain ⟨t1,_⟩:=iV g1;have hb:=h.blocks;have hs:=h.sigs;refine ⟨g1,?_⟩;generalize hy:x.2=y at *;obtain ⟨k,s,d,T,A,P⟩:=y;have gT:bd T:=lY g2 (by show ((b.2.2.2.2.2.2.length:Nat):Int)<=_; omega);have gA:bd A:=lY g3 (by show ((b.2.2.2.1.length:Nat):Int)<=_; omega);have gP:bd P:=lY g4 (by show b.2.1<=_; omega);have key:okN s/\okN d:=by
       have hc:dp (k,s,d,T,A,P)=false->s=0/\d=0:=by
         intro hc;unfold dp at hc;simp only [O7,Bool.not_eq_false',decide_eq_true_eq,decide_eq_false_iff_not] at hc;exact ⟨hc.1.1,hc.1.2⟩
       unfold dm at t1;dsimp only at t1 g5;by_cases k4:k=4
       . obtain ⟨q1,q2⟩:=g5 k4;exact ⟨lY q2 (by show ((b.2.2.2.2.2.1.length:Nat):Int)<=_; omega) s (by simp),lY q1 (by show ((b.2.2.2.1.length:Nat):Int)<=_; omega) d (by simp)⟩
       . have:dp (k,s,d,T,A,P)=false:=by
           by_cases k1:k=1
           . subst k1; simp at t1; exact t1.2
           by_cases k2:k=2
           . subst k2; simp at t1; exact t1.2
           by_cases k3:k=3
           . subst k3; simp at t1; exact t1.2
           simp [k1,k2,k3,k4] at t1
         obtain ⟨rfl,rfl⟩:=hc this;exact ⟨i0,i0⟩
     exact ⟨key.1,key.2,gT,gA,gP⟩
end
section
theorem vD {b:Bo}:(bg b).1=0->bg b=(0,0,0,0):=by
 unfold bg;cases hf:b.2.2.2.2.2.2.findIdx? (fun x=>(aW b x).isSome) with
 | none=>intro _; rfl
 | some k =>
   obtain ⟨hk,h5,_⟩:=S1.1 hf;have e:b.2.2.2.2.2.2.getD k ([],0,0,0,[],[],[])=b.2.2.2.2.2.2[k]:=by simp [R1,hk]
   simp only [e];intro hz;exfalso;generalize b.2.2.2.2.2.2[k]=x at *;unfold aW at hz h5;cases hg:x.1.findIdx? (fun s=>!decide (sE b.2.2.2.1 b.2.1 s=0)) with
   | some j =>
     obtain ⟨hj,h6,_⟩:=S1.1 hg;have e2:x.1.getD j (0,0,0,0,false)=x.1[j]:=by simp [R1,hj]
     rw [hg] at hz;simp only [cG,e2] at hz;simp [hz] at h6
   | none =>
     rw [hg] at hz h5;by_cases q:tE (aL b) x.2=0
     . simp [q] at h5
     . simp [q,cG] at hz
section
variable {b:Bo} (h:Sm b)
include h
theorem A2:fX b=some (dI b):=by
 have h1:=h.bounds;unfold fX dI;rw [decide_eq_false (by omega),cond_false,bv (body:=fT b) b.2.2.1 (aJ b.1) (fun k=>(.inr (7,1,(k:Int),0):Unit⊕Flt)) (.inl ()) ?_ ?_]
 . cases b.2.2.1.findIdx? (aJ b.1) <;> rfl
 . intro k hk;unfold fT ka bc;simp only [dlt hk,cond_true,ah hk,M0,ak hk (by omega:b.2.2.1.length<=9223372036854775807)];generalize b.2.2.1[k]=x;obtain ⟨x1,x2⟩:=x;have e (x:Int):(!((decide (0<=x))&&(decide (x < b.1))))=(decide (x < 0)||decide (b.1<=x)):=by
     by_cases p:x < 0 <;> by_cases q:b.1<=x <;> simp [p,q] <;> omega
   simp only [e,aJ];by_cases p1:x1 < 0 <;> by_cases p2:b.1<=x1 <;> by_cases p3:x2 < 0 <;> by_cases p4:b.1<=x2 <;> simp [p1,p2,p3,p4]
 . simp [fT]
theorem DM:fY b=some (cV b):=by
 have h1:=h.locals;have h4:=h.loc;unfold fY cV;by_cases q:b.2.2.2.1=[]
 . rw [if_pos q,q]; rfl
 . have q':¬ ((b.2.2.2.1.length:Nat):Int)=0:=fun hc=>q (V0.1 (by omega))
   rw [if_neg q,decide_eq_false q',cond_false,decide_eq_false (by omega),cond_false,bv (body:=fS b) b.2.2.2.1 (fun t=>!decide (rck b.2.1 t=0)) (fun k=>(.inr (rck b.2.1 (b.2.2.2.1.getD k []),2,(k:Int),0):Unit⊕Flt)) (.inl ()) ?_ ?_]
   . cases b.2.2.2.1.findIdx? (fun t=>!decide (rck b.2.1 t=0)) <;> rfl
   . intro k hk;unfold fS bc;have e:b.2.2.2.1.getD k []=b.2.2.2.1[k]:=by simp [R1,hk]
     simp only [dlt hk,cond_true,ah hk,M0,ak hk (by omega:b.2.2.2.1.length<=9223372036854775807),e,vB _ (h4 _ (S0 hk))];cases (!decide (rck b.2.1 b.2.2.2.1[k]=0)) <;> rfl
   . simp [fS]
theorem EE (hL:b.2.2.2.1≠[]):eh b=some (bN b):=by
 have h3:=h.ret;unfold eh bN;have hp:0 < b.2.2.2.1.length:=R7.2 hL;have e0:b.2.2.2.1.getD 0 []=b.2.2.2.1[0]:=by simp [R1,hp]
 have g0:aa b.2.2.2.1 0=some b.2.2.2.1[0]:=ah (k:=0) hp;rw [vB _ h3,M0,g0,M0,gE _ _ (by omega),e0,M0];by_cases q:rck b.1 b.2.2.2.2.1=0
 . rw [if_pos q,q];cases shp b.2.2.2.2.1 b.2.2.2.1[0] <;> rfl
 . rw [if_neg q,decide_eq_false q]; rfl
theorem DL:f8 b=some (dX b):=by
 have h1:=h.sigs;have hs:=fun s (hs:s∈b.2.2.2.2.2.1)=>sgl h hs
 unfold f8 dX;rw [decide_eq_false (by omega),cond_false,bv (body:=fU b) b.2.2.2.2.2.1 (fun s=>!decide (chk s=0)) (fun k=>(.inr (chk (b.2.2.2.2.2.1.getD k (0,[],[],[])),4,(k:Int),0):Unit⊕Flt)) (.inl ()) ?_ ?_]
 . cases b.2.2.2.2.2.1.findIdx? (fun s=>!decide (chk s=0)) <;> rfl
 . intro k hk;unfold fU bc;have e:b.2.2.2.2.2.1.getD k (0,[],[],[])=b.2.2.2.2.2.1[k]:=by simp [R1,hk]
   have hs':=hs _ (S0 hk);simp only [dlt hk,cond_true,ah hk,M0,ak hk (by omega:b.2.2.2.2.2.1.length<=9223372036854775807),e,show cZ (b.2.2.2.2.2.1[k].1,b.2.2.2.2.2.1[k].2.1,b.2.2.2.2.2.1[k].2.2.1,b.2.2.2.2.2.1[k].2.2.2)=_ from hs'];cases (!decide (chk b.2.2.2.2.2.1[k]=0)) <;> rfl
 . simp [fU]
theorem Eb:fZ b=some (jM b):=by
 have h1:=h.blocks;have h2:=h.many;unfold fZ jM;by_cases q:b.2.2.2.2.2.2=[]
 . rw [if_pos q,q]; rfl
 . have q':¬ ((b.2.2.2.2.2.2.length:Nat):Int)=0:=fun hc=>q (V0.1 (by omega))
   rw [if_neg q,decide_eq_false q',cond_false,decide_eq_false (by omega),cond_false];have hl1:=bq (body:=iu b) (fun k:Nat=>(((stm (b.2.2.2.2.2.2.take k):Nat):Int),(k:Int))) b.2.2.2.2.2.2.length (b := .inl ()) ?_ ?_
   . have hl1':loop (iu b) (0,0)=some (.inl ()):=by simpa [stm] using hl1
     rw [hl1']; rfl
   . intro k hk;have a1:=r8 hk;have a2:=wC (fun x:Blk=>x.1.length) b.2.2.2.2.2.2 (k + 1);have a3:stm (b.2.2.2.2.2.2.take (k + 1))<=stm b.2.2.2.2.2.2:=a2;unfold iu bc;simp only [dlt hk,cond_true,ah hk,M0,ak hk (by omega:b.2.2.2.2.2.2.length<=9223372036854775807)];rw [w64 (by omega) (by omega),decide_eq_false (by omega),cond_false,a1];simp
   . unfold iu;simp
theorem Cz:ef b=some (bg b):=by
 have h1:=h.blocks;have hst:=fun x (hx:x∈b.2.2.2.2.2.2)=>h.stmts hx
 have hT:=fun x (hx:x∈b.2.2.2.2.2.2)=>Gf h hx
 have hS:=fun x=>FM h (x:=x)
 unfold ef bg;rw [bv (body:=fW b) b.2.2.2.2.2.2 (fun x=>(aW b x).isSome) (fun k=>(.inr (cG k (aW b (b.2.2.2.2.2.2.getD k ([],0,0,0,[],[],[])))):Unit⊕Flt)) (.inl ()) ?_ ?_]
 . cases b.2.2.2.2.2.2.findIdx? (fun x=>(aW b x).isSome) <;> rfl
 . intro k hk;unfold fW;have e:b.2.2.2.2.2.2.getD k ([],0,0,0,[],[],[])=b.2.2.2.2.2.2[k]:=by simp [R1,hk]
   obtain ⟨l,hT',_⟩:=hT _ (S0 hk);have hst':=hst _ (S0 hk);simp only [dlt hk,cond_true,ah hk,M0,ak hk (by omega:b.2.2.2.2.2.2.length<=9223372036854775807),e];generalize b.2.2.2.2.2.2[k]=x at *;rw [bv (body:=fV b k x) x.1 (fun s=>!decide (sE b.2.2.2.1 b.2.1 s=0)) (fun j=>(.inr (.inr (.inr (sE b.2.2.2.1 b.2.1 (x.1.getD j (0,0,0,0,false)),6,(k:Int),(j:Int)))):Unit⊕(Int⊕(Unit⊕Flt)))) (.inl ()) ?_ ?_]
   . unfold aW;cases hf:x.1.findIdx? (fun s=>!decide (sE b.2.2.2.1 b.2.1 s=0)) with
     | some j=>rfl
     | none =>
       simp only [M0];unfold bc nh;rw [M0,show dy (x.2.1,x.2.2.1,x.2.2.2.1,x.2.2.2.2.1,x.2.2.2.2.2.1,x.2.2.2.2.2.2) (((b.2.2.2.2.2.2.length:Nat):Int),b.2.1,b.2.2.2.1,b.2.2.2.2.1,b.2.2.2.2.2.1)=_ from hT',M0];by_cases q3:tE (aL b) x.2=0
       . simp [q3]
       . simp [q3,cG]
   . intro j hj;obtain ⟨l,hS',_⟩:=hS x.1[j];have e2:x.1.getD j (0,0,0,0,false)=x.1[j]:=by simp [R1,hj]
     unfold fV bc nf;simp only [dlt hj,cond_true,ah hj,M0,ak hj (by omega:x.1.length<=9223372036854775807),e2,show fc (x.1[j].1,x.1[j].2.1,x.1[j].2.2.1,x.1[j].2.2.2.1,x.1[j].2.2.2.2) b.2.2.2.1 b.2.1=_ from hS'];cases (!decide (sE b.2.2.2.1 b.2.1 x.1[j]=0)) <;> rfl
   . simp [fV]
 . simp [fW]
theorem AF:d8 b=some (vck b):=by
 unfold d8 vck bc;have hh:f7 b=some (cD b):=by
   unfold f7 cD;by_cases q:b.1 < 1\/b.2.1 < b.1
   . have:(decide (b.1 < 1)||decide (b.2.1 < b.1))=true:=by simpa using q
     rw [this,if_pos q]; rfl
   . have:(decide (b.1 < 1)||decide (b.2.1 < b.1))=false:=by simpa using q
     rw [this,if_neg q,cond_false];by_cases q2:65536 < b.2.1
     . rw [decide_eq_true q2,if_pos q2]; rfl
     . rw [decide_eq_false q2,if_neg q2]; rfl
 rw [M0,show f7 b=_ from hh,show fX b=_ from A2 h,show fY b=_ from DM h,
   show f8 b=_ from DL h,show fZ b=_ from Eb h,show ef b=_ from Cz h]
 have hret:(cV b).1=0->eh b=some (bN b):=by
   intro hz;refine EE h (fun hc=>?_);unfold cV at hz;rw [if_pos hc] at hz; cases hz
 have hz6:(bg b).1=0->bg b=(0,0,0,0):=vD;generalize cD b=v1;generalize dI b=v2;generalize cV b=v3 at *;generalize bN b=v4 at *;generalize dX b=v5;generalize jM b=v6;generalize bg b=v7 at *;unfold or0;by_cases q1:v1.1=0 <;> by_cases q2:v2.1=0 <;> by_cases q3:v3.1=0 <;> by_cases q4:v4.1=0 <;> by_cases q5:v5.1=0 <;> by_cases q6:v6.1=0 <;> by_cases q7:v7.1=0 <;> simp_all
end
end
theorem nP (t:List St) (n:Int):dA t n=some (rck n t):=by
 by_cases h:16 < t.length
 . unfold dA rck;rw [decide_eq_true (by omega),if_pos h]; rfl
 . exact nw t n (by omega)
theorem Cg (s:Sg):cZ s=some (chk s):=by
 obtain ⟨n,B,A,R⟩:=s;unfold cZ chk;dsimp only at *;by_cases h0:n < 0
 . rw [decide_eq_true h0,if_pos h0]; rfl
 . rw [decide_eq_false h0,if_neg h0,cond_false,sk];by_cases h1:16 < n\/16 < B.length\/16 < A.length
   . rw [decide_eq_true h1,if_pos h1]; rfl
   . rw [decide_eq_false h1,if_neg h1,cond_false];rw [gI (body:=f9 (n,B,A,R)) B (aJ n) (.inr 7) (.inl ()) ?_ ?_]
     . cases hb:B.any (aJ n) with
       | true=>rfl
       | false =>
         simp only [N2,if_false,M0];rw [tH (body:=ge (n,B,A,R)) (n:=n) (A:=A) (by omega) ?_ ?_]
         . rw [nP R n];simp only [M0];cases lc n A <;> rfl
         . intro k hk;unfold ge;simp only [dlt hk,cond_true,ah hk,M0];rw [nP,M0]
         . simp [ge]
     . intro k hk;unfold f9 kd;simp only [dlt hk,cond_true,ah hk,M0,ak hk (by omega:B.length<=9223372036854775807)];generalize B[k]=b;obtain ⟨b1,b2⟩:=b;have e (x:Int):(!((decide (0<=x))&&(decide (x < n))))=(decide (x < 0)||decide (n<=x)):=by
         by_cases p:x < 0 <;> by_cases q:n<=x <;> simp [p,q] <;> omega
       simp only [e,aJ];by_cases p1:b1 < 0 <;> by_cases p2:n<=b1 <;> by_cases p3:b2 < 0 <;> by_cases p4:n<=b2 <;> simp [p1,p2,p3,p4]
     . simp [f9]
theorem Cb {s:Sg} (h:chk s=0):s.2.1.length<=20/\s.2.2.1.length<=20/\s.2.2.2.length<=20/\∀ t∈s.2.2.1,t.length<=20:=by
 unfold chk at h;by_cases h0:s.1 < 0
 . rw [if_pos h0] at h; cases h
 . rw [if_neg h0] at h;by_cases h1:16 < s.1\/16 < s.2.1.length\/16 < s.2.2.1.length
   . rw [if_pos h1] at h; cases h
   . rw [if_neg h1] at h;cases hb:s.2.1.any (aJ s.1) with
     | true=>rw [hb] at h; simp at h
     | false =>
       rw [hb] at h;simp only [N2,if_false] at h;unfold lc at h;cases hf:s.2.2.1.findIdx? (fun t=>!decide (rck s.1 t=0)) with
       | some k =>
         exfalso;obtain ⟨hk,h5,_⟩:=S1.1 hf;have e:s.2.2.1.getD k []=s.2.2.1[k]:=by simp [R1,hk]
         rw [hf] at h;simp only [e] at h;simp [h] at h5
       | none =>
         rw [hf] at h;have hr:=(di h).1;refine ⟨by omega,by omega,by omega,fun t ht=>?_⟩;have:=T1.1 hf t ht;have:=(di (by simpa using this)).1;omega
theorem CU (x:Tm) (a:Ar) (hR:a.2.2.2.1.length<=20) (hL:∀ t∈a.2.2.1,t.length<=20) (hS:∀ s∈a.2.2.2.2,s.2.1.length<=20/\s.2.2.1.length<=20/\s.2.2.2.length<=20/\∀ t∈s.2.2.1,t.length<=20) :
   ∃ l e,dy x a=some (l,e)/\cz x a=some (l,e):=by
 by_cases hf:aB x=0
 . obtain ⟨_,l2,l3,l4⟩:=iV hf;obtain ⟨l,e,h1,h2,_⟩:=yo x a (by omega) (by omega) (by omega) hR hL hS;exact ⟨l,e,h1,h2⟩
 . refine ⟨[],aB x,?_,?_⟩
   . unfold dy;rw [show fe (x.1,x.2.1,x.2.2.1,x.2.2.2.1,x.2.2.2.2.1,x.2.2.2.2.2)=some (aB x) from rR x,M0,decide_eq_false hf]; rfl
   . unfold cz;rw [show gt (x.1,x.2.1,x.2.2.1,x.2.2.2.1,x.2.2.2.2.1,x.2.2.2.2.2)=some (aB x) from nA x,M0,decide_eq_false hf]; rfl
def lB (b:Bo):Flt:=if 65536 < b.2.2.1.length then (6,1,0,0) else dI b
def lL (b:Bo):Flt:=if b.2.2.2.1=[] then (14,2,0,0) else if 65536 < b.2.2.2.1.length then (6,2,0,0) else cV b
def lS (b:Bo):Flt:=if 65536 < b.2.2.2.2.2.1.length then (6,4,0,0) else dX b
def lkR (X:List Blk):Unit⊕Flt:=((T3 X.length).findSome? (fun k=>if 65536 < stm (X.take (k + 1)) then some (.inr (6,5,(k:Int),0):Unit⊕Flt) else none)).getD (.inl ())
def lK (b:Bo):Flt:=if b.2.2.2.2.2.2=[] then (14,5,0,0) else if 65536 < b.2.2.2.2.2.2.length then (6,5,0,0) else match lkR b.2.2.2.2.2.2 with | .inr f=>f | .inl ()=>(0,0,0,0)
theorem D1 {X:List Blk} {f:Flt} (h:lkR X = .inr f):f.1=6:=by
 unfold lkR at h;cases hf:(T3 X.length).findSome? (fun k=>if 65536 < stm (X.take (k + 1)) then some (.inr (6,5,(k:Int),0):Unit⊕Flt) else none) with
 | none=>rw [hf] at h; cases h
 | some v =>
   rw [hf] at h;simp only [Option.getD_some] at h;subst h;obtain ⟨k,_,hk⟩:=List.exists_of_findSome?_eq_some hf;by_cases q:65536 < stm (X.take (k + 1))
   . rw [if_pos q] at hk; cases hk; rfl
   . rw [if_neg q] at hk; cases hk
theorem sw {b:Bo} (h:(lL b).1=0):b.2.2.2.1≠[]/\b.2.2.2.1.length<=65536/\∀ t∈b.2.2.2.1,t.length<=20:=by
 unfold lL at h;by_cases q:b.2.2.2.1=[]
 . rw [if_pos q] at h; cases h
 . rw [if_neg q] at h;by_cases q2:65536 < b.2.2.2.1.length
   . rw [if_pos q2] at h; cases h
   . rw [if_neg q2] at h;refine ⟨q,by omega,fun t ht=>?_⟩;unfold cV at h;rw [if_neg q] at h;cases hf:b.2.2.2.1.findIdx? (fun t=>!decide (rck b.2.1 t=0)) with
     | some k =>
       exfalso;obtain ⟨hk,h5,_⟩:=S1.1 hf;have e:b.2.2.2.1.getD k []=b.2.2.2.1[k]:=by simp [R1,hk]
       rw [hf] at h;simp only [e] at h;simp [h] at h5
     | none =>
       have:=T1.1 hf t ht;have:=(di (by simpa using this)).1;omega
theorem vT {b:Bo} (h:(bN b).1=0):b.2.2.2.2.1.length<=20:=by
 unfold bN at h;by_cases q:rck b.1 b.2.2.2.2.1=0
 . have:=(di q).1; omega
 . rw [if_neg q] at h; exact absurd h q
theorem xP {b:Bo} (h:(lS b).1=0):∀ s∈b.2.2.2.2.2.1,s.2.1.length<=20/\s.2.2.1.length<=20/\s.2.2.2.length<=20/\∀ t∈s.2.2.1,t.length<=20:=by
 unfold lS at h;by_cases q2:65536 < b.2.2.2.2.2.1.length
 . rw [if_pos q2] at h; cases h
 . rw [if_neg q2] at h;intro s hs;unfold dX at h;cases hf:b.2.2.2.2.2.1.findIdx? (fun s=>!decide (chk s=0)) with
   | some k =>
     exfalso;obtain ⟨hk,h5,_⟩:=S1.1 hf;have e:b.2.2.2.2.2.1.getD k (0,[],[],[])=b.2.2.2.2.2.1[k]:=by simp [R1,hk]
     rw [hf] at h;simp only [e] at h;simp [h] at h5
   | none =>
     have:=T1.1 hf s hs;exact Cb (by simpa using this)
theorem Bj (b:Bo):fX b=some (lB b):=by
 unfold fX lB;by_cases h1:65536 < b.2.2.1.length
 . rw [decide_eq_true (by omega),cond_true,if_pos h1]
 . unfold dI;rw [if_neg h1,decide_eq_false (by omega),cond_false,bv (body:=fT b) b.2.2.1 (aJ b.1) (fun k=>(.inr (7,1,(k:Int),0):Unit⊕Flt)) (.inl ()) ?_ ?_]
   . cases b.2.2.1.findIdx? (aJ b.1) <;> rfl
   . intro k hk;unfold fT ka bc;simp only [dlt hk,cond_true,ah hk,M0,ak hk (by omega:b.2.2.1.length<=9223372036854775807)];generalize b.2.2.1[k]=x;obtain ⟨x1,x2⟩:=x;have e (x:Int):(!((decide (0<=x))&&(decide (x < b.1))))=(decide (x < 0)||decide (b.1<=x)):=by
       by_cases p:x < 0 <;> by_cases q:b.1<=x <;> simp [p,q] <;> omega
     simp only [e,aJ];by_cases p1:x1 < 0 <;> by_cases p2:b.1<=x1 <;> by_cases p3:x2 < 0 <;> by_cases p4:b.1<=x2 <;> simp [p1,p2,p3,p4]
   . simp [fT]
theorem D3 (b:Bo):fY b=some (lL b):=by
 unfold fY lL;by_cases q:b.2.2.2.1=[]
 . rw [if_pos q,q]; rfl
 . have q':¬ ((b.2.2.2.1.length:Nat):Int)=0:=fun hc=>q (V0.1 (by omega))
   rw [if_neg q,decide_eq_false q',cond_false];by_cases h1:65536 < b.2.2.2.1.length
   . rw [decide_eq_true (by omega),cond_true,if_pos h1]
   . unfold cV;rw [if_neg h1,if_neg q,decide_eq_false (by omega),cond_false,bv (body:=fS b) b.2.2.2.1 (fun t=>!decide (rck b.2.1 t=0)) (fun k=>(.inr (rck b.2.1 (b.2.2.2.1.getD k []),2,(k:Int),0):Unit⊕Flt)) (.inl ()) ?_ ?_]
     . cases b.2.2.2.1.findIdx? (fun t=>!decide (rck b.2.1 t=0)) <;> rfl
     . intro k hk;unfold fS bc;have e:b.2.2.2.1.getD k []=b.2.2.2.1[k]:=by simp [R1,hk]
       simp only [dlt hk,cond_true,ah hk,M0,ak hk (by omega:b.2.2.2.1.length<=9223372036854775807),e,nP];cases (!decide (rck b.2.1 b.2.2.2.1[k]=0)) <;> rfl
     . simp [fS]
theorem Eo {b:Bo} (hL:b.2.2.2.1≠[]):eh b=some (bN b):=by
 unfold eh bN;have hp:0 < b.2.2.2.1.length:=R7.2 hL;have e0:b.2.2.2.1.getD 0 []=b.2.2.2.1[0]:=by simp [R1,hp]
 have g0:aa b.2.2.2.1 0=some b.2.2.2.1[0]:=ah (k:=0) hp;rw [nP,M0,g0,M0];by_cases q:rck b.1 b.2.2.2.2.1=0
 . have:=(di q).1;rw [gE _ _ (by omega),e0,M0,if_pos q,q];cases shp b.2.2.2.2.1 b.2.2.2.1[0] <;> rfl
 . rw [if_neg q,decide_eq_false q]; rfl
theorem El (b:Bo):f8 b=some (lS b):=by
 unfold f8 lS;by_cases h1:65536 < b.2.2.2.2.2.1.length
 . rw [decide_eq_true (by omega),cond_true,if_pos h1]
 . unfold dX;rw [if_neg h1,decide_eq_false (by omega),cond_false,bv (body:=fU b) b.2.2.2.2.2.1 (fun s=>!decide (chk s=0)) (fun k=>(.inr (chk (b.2.2.2.2.2.1.getD k (0,[],[],[])),4,(k:Int),0):Unit⊕Flt)) (.inl ()) ?_ ?_]
   . cases b.2.2.2.2.2.1.findIdx? (fun s=>!decide (chk s=0)) <;> rfl
   . intro k hk;unfold fU bc;have e:b.2.2.2.2.2.1.getD k (0,[],[],[])=b.2.2.2.2.2.1[k]:=by simp [R1,hk]
     simp only [dlt hk,cond_true,ah hk,M0,ak hk (by omega:b.2.2.2.2.2.1.length<=9223372036854775807),e,show cZ (b.2.2.2.2.2.1[k].1,b.2.2.2.2.2.1[k].2.1,b.2.2.2.2.2.1[k].2.2.1,b.2.2.2.2.2.1[k].2.2.2)=_ from Cg _];cases (!decide (chk b.2.2.2.2.2.1[k]=0)) <;> rfl
   . simp [fU]
section
theorem wc {X:List Blk} (hx:∀ x∈X,x.1.length<=140737488351232) (k:Nat):stm (X.take k)<=X.length * 140737488351232:=by
 have key:∀ l:List Blk,(∀ x∈l,x.1.length<=140737488351232)->stm l<=l.length * 140737488351232:=by
   intro l
   induction l with
   | nil=>intro _; simp [stm]
   | cons x l ih =>
     intro h;have h1:=ih (fun y hy=>h y (S2 _ hy));have h2:=h x (P9 ..);unfold stm at *;simp only [M2,aR0,X1,N4];omega
 have h1:=key X hx;have h2:=wC (fun x:Blk=>x.1.length) X k;unfold stm at *;omega
section
variable {b:Bo} (hx:∀ x∈b.2.2.2.2.2.2,x.1.length<=140737488351232)
include hx
theorem wH {body:(Int×Int)->Option ((Int×Int)⊕(Unit⊕Flt))} (hX:b.2.2.2.2.2.2.length<=65536)
   (hb:∀ i k,body (i,k)=cond (decide (k < ((b.2.2.2.2.2.2.length:Nat):Int))) ((aa b.2.2.2.2.2.2 k).bind fun x=>cond (decide (65536 < (IntKind.wrap .i64 (i + ((x.1.length:Nat):Int))))) (some (.inr (.inr (6,5,k,0)))) (some (.inl (IntKind.wrap .i64 (i + ((x.1.length:Nat):Int)),IntKind.wrap .i64 (k + 1))))) (some (.inr (.inl ())))) :
   loop body (0,0)=some (lkR b.2.2.2.2.2.2):=by
 have h:=BK (body:=body) b.2.2.2.2.2.2.length (fun k:Nat=>(((stm (b.2.2.2.2.2.2.take k):Nat):Int),(k:Int))) (fun k=>if 65536 < stm (b.2.2.2.2.2.2.take (k + 1)) then some (.inr (6,5,(k:Int),0):Unit⊕Flt) else none) (.inl ()) ?_ ?_
 . unfold lkR;rw [<- h]; simp [stm]
 . intro k hk;have a1:=r8 hk;have a2:=wc hx k;have a3:=wc hx (k + 1);have a4:b.2.2.2.2.2.2.length * 140737488351232<=65536 * 140737488351232:=U3 _ hX;rw [hb];simp only [dlt hk,cond_true,ah hk,M0,ak hk (by omega:b.2.2.2.2.2.2.length<=9223372036854775807)];have e:IntKind.wrap .i64 (((stm (b.2.2.2.2.2.2.take k):Nat):Int) + ((b.2.2.2.2.2.2[k].1.length:Nat):Int))=((stm (b.2.2.2.2.2.2.take (k + 1)):Nat):Int):=by
     rw [w64 (by omega) (by omega),a1]; omega
   rw [e];by_cases q:65536 < stm (b.2.2.2.2.2.2.take (k + 1))
   . rw [decide_eq_true (by omega),if_pos q]; rfl
   . rw [decide_eq_false (by omega),if_neg q]; rfl
 . rw [hb]; simp
theorem D9:fZ b=some (lK b):=by
 unfold fZ lK;by_cases q:b.2.2.2.2.2.2=[]
 . rw [if_pos q,q]; rfl
 . have q':¬ ((b.2.2.2.2.2.2.length:Nat):Int)=0:=fun hc=>q (V0.1 (by omega))
   rw [if_neg q,decide_eq_false q',cond_false];by_cases h1:65536 < b.2.2.2.2.2.2.length
   . rw [decide_eq_true (by omega),cond_true,if_pos h1]
   . rw [if_neg h1,decide_eq_false (by omega),cond_false,wH (body:=iu b) hx (by omega) (fun i k=>rfl)];cases lkR b.2.2.2.2.2.2 <;> rfl
theorem Dt:qJ b=some (or0 (cD b) (lB b)):=by
 obtain ⟨u,n,B,L,R,S,X⟩:=b;unfold qJ cD lB dI or0;dsimp only at *;by_cases q:u < 1\/n < u
 . have:(decide (u < 1)||decide (n < u))=true:=by simpa using q
   rw [this,if_pos q]; rfl
 . have:(decide (u < 1)||decide (n < u))=false:=by simpa using q
   rw [this,if_neg q,cond_false];by_cases q2:65536 < n
   . rw [decide_eq_true q2,if_pos q2]; rfl
   . rw [decide_eq_false q2,if_neg q2,cond_false];by_cases q3:65536 < B.length
     . rw [decide_eq_true (by omega),if_pos q3]; rfl
     . rw [decide_eq_false (by omega),if_neg q3,cond_false,bv (body:=mX (u,n,B,L,R,S,X)) B (aJ u) (fun k=>(.inr (7,1,(k:Int),0):Unit⊕Flt)) (.inl ()) ?_ ?_]
       . cases B.findIdx? (aJ u) <;> rfl
       . intro k hk;unfold mX;simp only [dlt hk,cond_true,ah hk,M0,ak hk (by omega:B.length<=9223372036854775807)];show cond (aJ u B[k]) _ _=_;cases aJ u B[k] <;> rfl
       . simp [mX]
omit hx in
theorem B3:qE b=some (or0 (lL b) (or0 (bN b) (lS b))):=by
 obtain ⟨u,n,B,L,R,S,X⟩:=b;unfold qE lL cV bN lS dX;dsimp only at *;by_cases q:L=[]
 . subst q; rfl
 . have q' : ¬ ((L.length : Nat) : Int) = 0 := fun hc => q (V0.1 (by omega))
   rw [if_neg q,decide_eq_false q',cond_false];by_cases g1:65536 < L.length
   . rw [decide_eq_true (by omega),cond_true,if_pos g1]; rfl
   . rw [if_neg g1,if_neg q,decide_eq_false (by omega),cond_false,bv (body:=mL (u,n,B,L,R,S,X)) L (fun t=>!decide (rck n t=0)) (fun k=>(.inr (rck n (L.getD k []),2,(k:Int),0):Unit⊕Flt)) (.inl ()) ?_ ?_]
     . cases hf:L.findIdx? (fun t=>!decide (rck n t=0)) with
       | some k =>
         obtain ⟨hk,h5,_⟩:=S1.1 hf;have e:L.getD k []=L[k]:=by simp [R1,hk]
         have:¬ rck n L[k]=0:=by simpa using h5
         simp only [or0,e,if_neg this]; rfl
       | none =>
         have hp:0 < L.length:=R7.2 q;have e0:L.getD 0 []=L[0]:=by simp [R1,hp]
         have hL0:L[0].length<=16:=by
           have:=T1.1 hf L[0] (S0 hp);exact (di (by simpa using this)).1
         simp only [M0,nv];by_cases q2:rck u R=0
         . have g0:aa L 0=some L[0]:=ah (k:=0) hp;simp only [q2,decide_true,Y0,cond_false,g0,M0,e0];rw [kN _ _ (by omega),gU,M0];cases hs:shp R L[0] with
           | false=>rfl
           | true =>
             simp only [Y0,cond_false];by_cases g2:65536 < S.length
             . rw [decide_eq_true (by omega),if_pos g2]; rfl
             . rw [decide_eq_false (by omega),if_neg g2,cond_false,bv (body:=mQ (u,n,B,L,R,S,X)) S (fun s=>!decide (chk s=0)) (fun k=>(.inr (chk (S.getD k (0,[],[],[])),4,(k:Int),0):Unit⊕Flt)) (.inl ()) ?_ ?_]
               . cases S.findIdx? (fun s=>!decide (chk s=0)) <;> rfl
               . intro k hk;unfold mQ;have e:S.getD k (0,[],[],[])=S[k]:=by simp [R1,hk]
                 simp only [dlt hk,cond_true,ah hk,M0,ak hk (by omega:S.length<=9223372036854775807),e,show iG (S[k].1,S[k].2.1,S[k].2.2.1,S[k].2.2.2)=_ from u7 S[k]];cases (!decide (chk S[k]=0)) <;> rfl
               . simp [mQ]
         . simp [q2,or0]
     . intro k hk;unfold mL;have e:L.getD k []=L[k]:=by simp [R1,hk]
       simp only [dlt hk,cond_true,ah hk,M0,ak hk (by omega:L.length<=9223372036854775807),e,nv];cases (!decide (rck n L[k]=0)) <;> rfl
     . simp [mL]
variable (hL:∀ t∈b.2.2.2.1,t.length<=20) (hR:b.2.2.2.2.1.length<=20) (hS:∀ s∈b.2.2.2.2.2.1,s.2.1.length<=20/\s.2.2.1.length<=20/\s.2.2.2.length<=20/\∀ t∈s.2.2.1,t.length<=20)
include hL hR hS
omit hx hR hS in
theorem zj {x:Stm}:∃ l,fc x b.2.2.2.1 b.2.1=some (l,sE b.2.2.2.1 b.2.1 x)/\cy x b.2.2.2.1 b.2.1=some (l,sE b.2.2.2.1 b.2.1 x):=by
 obtain ⟨l,e,h1,h2,_⟩:=uU x b.2.2.2.1 b.2.1 hL;have:sE b.2.2.2.1 b.2.1 x=e:=by unfold sE; rw [h2]; rfl
 exact ⟨l,by rw [h1,this],by rw [h2,this]⟩
omit hx in
theorem zu {x:Tm}:∃ l,dy x (aL b)=some (l,tE (aL b) x)/\cz x (aL b)=some (l,tE (aL b) x):=by
 obtain ⟨l,e,h1,h2⟩:=CU x (aL b) hR hL hS;have:tE (aL b) x=e:=by unfold tE; rw [h2]; rfl
 exact ⟨l,by rw [h1,this],by rw [h2,this]⟩
theorem C9 (hX:b.2.2.2.2.2.2.length<=65536):ef b=some (bg b):=by
 unfold ef bg;rw [bv (body:=fW b) b.2.2.2.2.2.2 (fun x=>(aW b x).isSome) (fun k=>(.inr (cG k (aW b (b.2.2.2.2.2.2.getD k ([],0,0,0,[],[],[])))):Unit⊕Flt)) (.inl ()) ?_ ?_]
 . cases b.2.2.2.2.2.2.findIdx? (fun x=>(aW b x).isSome) <;> rfl
 . intro k hk;unfold fW;have e:b.2.2.2.2.2.2.getD k ([],0,0,0,[],[],[])=b.2.2.2.2.2.2[k]:=by simp [R1,hk]
   have hst':=hx _ (S0 hk);simp only [dlt hk,cond_true,ah hk,M0,ak hk (by omega:b.2.2.2.2.2.2.length<=9223372036854775807),e];generalize b.2.2.2.2.2.2[k]=x at *;obtain ⟨l,hT',_⟩:=zu hL hR hS (x:=x.2);rw [bv (body:=fV b k x) x.1 (fun s=>!decide (sE b.2.2.2.1 b.2.1 s=0)) (fun j=>(.inr (.inr (.inr (sE b.2.2.2.1 b.2.1 (x.1.getD j (0,0,0,0,false)),6,(k:Int),(j:Int)))):Unit⊕(Int⊕(Unit⊕Flt)))) (.inl ()) ?_ ?_]
   . unfold aW;cases hf:x.1.findIdx? (fun s=>!decide (sE b.2.2.2.1 b.2.1 s=0)) with
     | some j=>rfl
     | none =>
       simp only [M0];unfold bc nh;rw [M0,show dy (x.2.1,x.2.2.1,x.2.2.2.1,x.2.2.2.2.1,x.2.2.2.2.2.1,x.2.2.2.2.2.2) (((b.2.2.2.2.2.2.length:Nat):Int),b.2.1,b.2.2.2.1,b.2.2.2.2.1,b.2.2.2.2.2.1)=_ from hT',M0];by_cases q3:tE (aL b) x.2=0
       . simp [q3]
       . simp [q3,cG]
   . intro j hj;obtain ⟨l,hS',_⟩:=zj (b:=b) hL (x:=x.1[j]);have e2:x.1.getD j (0,0,0,0,false)=x.1[j]:=by simp [R1,hj]
     unfold fV bc nf;simp only [dlt hj,cond_true,ah hj,M0,ak hj (by omega:x.1.length<=9223372036854775807),e2,show fc (x.1[j].1,x.1[j].2.1,x.1[j].2.2.1,x.1[j].2.2.2.1,x.1[j].2.2.2.2) b.2.2.2.1 b.2.1=_ from hS'];cases (!decide (sE b.2.2.2.1 b.2.1 x.1[j]=0)) <;> rfl
   . simp [fV]
 . simp [fW]
theorem A9:kv b=some (or0 (lK b) (bg b)):=by
 unfold kv lK bg;by_cases q:b.2.2.2.2.2.2=[]
 . rw [if_pos q,q]; rfl
 . have q' : ¬ ((b.2.2.2.2.2.2.length : Nat) : Int) = 0 := fun hc => q (V0.1 (by omega))
   rw [if_neg q,decide_eq_false q',cond_false];by_cases h1:65536 < b.2.2.2.2.2.2.length
   . rw [decide_eq_true (by omega),cond_true,if_pos h1]; rfl
   . rw [if_neg h1,decide_eq_false (by omega),cond_false,wH (body:=uG b) hx (by omega) (fun i k=>rfl)];cases hk6:lkR b.2.2.2.2.2.2 with
     | inr f =>
       have:=D1 hk6;simp only [M0,or0];rw [if_neg (by omega)]
     | inl u =>
     rw [M0];dsimp only;rw [bv (body:=mI b) b.2.2.2.2.2.2 (fun x=>(aW b x).isSome) (fun k=>(.inr (cG k (aW b (b.2.2.2.2.2.2.getD k ([],0,0,0,[],[],[])))):Unit⊕Flt)) (.inl ()) ?_ ?_]
     . cases b.2.2.2.2.2.2.findIdx? (fun x=>(aW b x).isSome) <;> rfl
     . intro k hk;unfold mI;have e:b.2.2.2.2.2.2.getD k ([],0,0,0,[],[],[])=b.2.2.2.2.2.2[k]:=by simp [R1,hk]
       have hst':=hx _ (S0 hk);simp only [dlt hk,cond_true,ah hk,M0,ak hk (by omega:b.2.2.2.2.2.2.length<=9223372036854775807),e];generalize b.2.2.2.2.2.2[k]=x at *;obtain ⟨l,_,hT'⟩:=zu hL hR hS (x:=x.2);rw [bv (body:=mJ b k x) x.1 (fun s=>!decide (sE b.2.2.2.1 b.2.1 s=0)) (fun j=>(.inr (.inr (.inr (sE b.2.2.2.1 b.2.1 (x.1.getD j (0,0,0,0,false)),6,(k:Int),(j:Int)))):Unit⊕(Int⊕(Unit⊕Flt)))) (.inl ()) ?_ ?_]
       . unfold aW;cases hf:x.1.findIdx? (fun s=>!decide (sE b.2.2.2.1 b.2.1 s=0)) with
         | some j=>rfl
         | none =>
           simp only [M0];rw [show cz (x.2.1,x.2.2.1,x.2.2.2.1,x.2.2.2.2.1,x.2.2.2.2.2.1,x.2.2.2.2.2.2) (((b.2.2.2.2.2.2.length:Nat):Int),b.2.1,b.2.2.2.1,b.2.2.2.2.1,b.2.2.2.2.2.1)=_ from hT',M0];by_cases q3:tE (aL b) x.2=0
           . simp [q3]
           . simp [q3,cG]
       . intro j hj;obtain ⟨l,_,hS'⟩:=zj (b:=b) hL (x:=x.1[j]);have e2:x.1.getD j (0,0,0,0,false)=x.1[j]:=by simp [R1,hj]
         unfold mJ;simp only [dlt hj,cond_true,ah hj,M0,ak hj (by omega:x.1.length<=9223372036854775807),e2,show cy (x.1[j].1,x.1[j].2.1,x.1[j].2.2.1,x.1[j].2.2.2.1,x.1[j].2.2.2.2) b.2.2.2.1 b.2.1=_ from hS'];cases (!decide (sE b.2.2.2.1 b.2.1 x.1[j]=0)) <;> rfl
       . simp [mJ]
     . simp [mI]
end
def lck (b:Bo):Flt:=or0 (cD b) (or0 (lB b) (or0 (lL b) (or0 (bN b) (or0 (lS b) (or0 (lK b) (bg b))))))
theorem Dm (b:Bo):f7 b=some (cD b):=by
 unfold f7 cD;by_cases q:b.1 < 1\/b.2.1 < b.1
 . have:(decide (b.1 < 1)||decide (b.2.1 < b.1))=true:=by simpa using q
   rw [this,if_pos q]; rfl
 . have:(decide (b.1 < 1)||decide (b.2.1 < b.1))=false:=by simpa using q
   rw [this,if_neg q,cond_false];by_cases q2:65536 < b.2.1
   . rw [decide_eq_true q2,if_pos q2]; rfl
   . rw [decide_eq_false q2,if_neg q2]; rfl
theorem EB {b:Bo} (h:(lK b).1=0):b.2.2.2.2.2.2.length<=65536:=by
 unfold lK at h;by_cases q:b.2.2.2.2.2.2=[]
 . rw [q]; simp
 . rw [if_neg q] at h;by_cases q2:65536 < b.2.2.2.2.2.2.length
   . rw [if_pos q2] at h; cases h
   . omega
theorem rC {b:Bo} (hx:∀ x∈b.2.2.2.2.2.2,x.1.length<=140737488351232):d8 b=some (lck b)/\iJ b=some (lck b):=by
 have eb:b=b:=rfl;have h1:=Dm b;have h2:=Bj b;have h3:=D3 b;have h4:(lL b).1=0->eh b=some (bN b):=fun h=>Eo (sw h).1
 have h5:=El b;have h6:=D9 hx;have h7:(lL b).1=0->(bN b).1=0->(lS b).1=0->(lK b).1=0->ef b=some (bg b):=fun a1 a2 a3 a4=>C9 hx (sw a1).2.2 (vT a2) (xP a3) (EB a4)
 have r1:=Dt hx;have r2:=B3 (b:=b);have r3:(lL b).1=0->(bN b).1=0->(lS b).1=0->kv b=some (or0 (lK b) (bg b)):=fun a1 a2 a3=>A9 hx (sw a1).2.2 (vT a2) (xP a3)
 have hz6:(bg b).1=0->bg b=(0,0,0,0):=vD;unfold d8 iJ bc lck;simp only [eb,M0,h1,h2,h3,h5,h6,r1,r2];generalize cD b=v1 at *;generalize lB b=v2 at *;generalize lL b=v3 at *;generalize bN b=v4 at *;generalize lS b=v5 at *;generalize lK b=v6 at *;generalize bg b=v7 at *;generalize eh b=o1 at *;generalize ef b=o2 at *;generalize kv b=o3 at *;unfold or0 at *;by_cases q1:v1.1=0 <;> by_cases q2:v2.1=0 <;> by_cases q3:v3.1=0 <;> by_cases q4:v4.1=0 <;> by_cases q5:v5.1=0 <;> by_cases q6:v6.1=0 <;> by_cases q7:v7.1=0 <;> simp_all
end
section
theorem jI {a b:Flt} (h:(or0 a b).1=0):a.1=0/\b.1=0:=by
 unfold or0 at h;split at h
 . rename_i q; exact ⟨q,h⟩
 . rename_i q; exact absurd h q
theorem Dw {b:Bo} (h:(vck b).1=0):∀ x∈b.2.2.2.2.2.2,(∀ s∈x.1,sE b.2.2.2.1 b.2.1 s=0)/\tE (aL b) x.2=0:=by
 unfold vck at h;have hc:=(jI (jI (jI (jI (jI (jI h).2).2).2).2).2).2;unfold bg at hc;cases hq:b.2.2.2.2.2.2.findIdx? (fun x=>(aW b x).isSome) with
 | none =>
   intro x hx;have:=T1.1 hq x hx;unfold aW at this;split at this
   . simp at this
   . rename_i hs;refine ⟨fun s hm=>?_,?_⟩
     . have:=T1.1 hs s hm;simpa using this
     . by_cases q:tE (aL b) x.2=0
       . exact q
       . rw [if_neg q] at this; simp at this
 | some k =>
   exfalso;rw [hq] at hc;obtain ⟨hk,hcc,_⟩:=S1.1 hq;have e:b.2.2.2.2.2.2.getD k ([],0,0,0,[],[],[])=b.2.2.2.2.2.2[k]:=by simp [R1,hk]
   simp only [e] at hc;unfold aW at hcc hc;split at hcc
   . rename_i j hj;rw [hj] at hc;obtain ⟨hj1,hj2,_⟩:=S1.1 hj;have e2:b.2.2.2.2.2.2[k].1.getD j (0,0,0,0,false)=b.2.2.2.2.2.2[k].1[j]:=by simp [R1,hj1]
     simp only [e2,cG] at hc;simp [hc] at hj2
   . rename_i hj;rw [hj] at hc;by_cases q:tE (aL b) b.2.2.2.2.2.2[k].2=0
     . rw [if_pos q] at hcc; simp at hcc
     . rw [if_neg q] at hc; simp only [cG] at hc; exact q hc
theorem xF {a b:Flt}:(or0 a b).1=0↔a.1=0/\b.1=0:=by
 unfold or0;by_cases q:a.1=0
 . simp [q]
 . simp [q]
theorem gW {b:Bo}:(vck b).1=0↔((cD b).1=0/\(dI b).1=0/\(cV b).1=0/\(bN b).1=0/\(dX b).1=0/\(jM b).1=0)/\∀ x∈b.2.2.2.2.2.2,(∀ s∈x.1,sE b.2.2.2.1 b.2.1 s=0)/\tE (aL b) x.2=0:=by
 constructor
 . intro h;refine ⟨?_,Dw h⟩;unfold vck at h;simp only [xF] at h;exact ⟨h.1,h.2.1,h.2.2.1,h.2.2.2.1,h.2.2.2.2.1,h.2.2.2.2.2.1⟩
 . rintro ⟨⟨h1,h2,h3,h4,h5,h6⟩,h7⟩;unfold vck;simp only [xF];refine ⟨h1,h2,h3,h4,h5,h6,?_⟩;unfold bg;have:b.2.2.2.2.2.2.findIdx? (fun x=>(aW b x).isSome)=none:=T1.2 fun x hx=>by
     obtain ⟨g1,g2⟩:=h7 x hx;unfold aW;rw [T1.2 (fun s hs=>by rw [g1 s hs]; rfl)];simp [g2]
   rw [this]
theorem Fb (L:List (List St)) (R:Int):sE L R (0,0,0,0,false)=0:=by
 unfold sE;have:cy (0,0,0,0,false) L R=some ([],0):=by
   unfold cy;rw [show kG ((0:Int),0,0,0,false)=_ from nH (0,0,0,0,false)];rfl
 rw [this]; rfl
theorem ES {a:Ar} {t:List St} {L:List (List St)} (h:a.2.2.1=t :: L) (hs:shp t a.2.2.2.1=true) (ht:t.length<=20):tE a (3,0,0,[],[],[])=0:=by
 unfold tE;have:∃ l,cz (3,0,0,[],[],[]) a=some (l,0):=by
   unfold cz;rw [show gt ((3:Int),0,0,[],[],[])=_ from nA (3,0,0,[],[],[])];simp only [ej _ _ (show ([]:List Int).length<=1000 by simp)];have h0:aa a.2.2.1 0=some t:=by rw [h]; rfl
   have h1:¬ ((a.2.2.1.length:Nat):Int)=0:=by rw [h]; simp; omega
   have h2:¬ a.2.2.1=[]:=by rw [h]; simp
   rw [h0];simp only [M0];rw [fg t a.2.2.2.1 7 0 (by omega) (by decide) (by decide),hs];refine ⟨rel 7 0 t a.2.2.2.1,?_⟩;have e1:aB (3,0,0,[],[],[])=0:=by decide
   have e2:∀ n,bad n []=false:=fun n=>rfl
   simp [e1,e2,h1,h2]
 obtain ⟨l,hl⟩:=this;rw [hl]; rfl
section
variable {b:Bo} (hx:∀ x∈b.2.2.2.2.2.2,x.1.length<=140737488351232)
include hx
theorem gX (h:Sm b):lck b=vck b:=by
 have h1:=(rC hx).1;rw [AF h] at h1;exact (X3 h1).symm
end
end
theorem sM (xa:List St) (hn:xa.length<=1073741824):iL xa xa=some true:=by
 unfold iL;have hs:shp xa xa=true:=by unfold shp; simp
 rw [kN xa xa hn,hs];have:=q9 (body:=mS xa xa) xa xa (.inr false) (.inl ()) rfl (fun k h=>by
   unfold mS;simp [ah h,h,ak h (by omega)]) (by unfold mS; simp)
 simp only [M0,Y0,cond_false,this,if_true]
theorem kX {β:Type} {n:Nat} {body:Int->Option (Int⊕β)} {e:β} (hb:∀ k,k < n->body (k:Int)=some (.inl ((k + 1:Nat):Int))) (he:body (n:Int)=some (.inr e)):loop body 0=some e:=bq (body:=body) (fun k=>(k:Int)) n hb he
theorem vH (l:List (Int×Int)) (hn:l.length<=1000000000):kr l l=some true:=by
 unfold kr;rw [ic rfl,cond_false,kX (n:=l.length) (e := .inl ()) (fun k hk=>by unfold qq; simp [ah hk,hk,ak hk (by omega)]) (by simp [qq])]; rfl
theorem wi (l:List (List St)) (hn:l.length<=1000000000) (h:∀ t∈l,t.length<=1000000000):kx l l=some true:=by
 unfold kx;rw [ic rfl,cond_false,kX (n:=l.length) (e := .inl ()) (fun k hk=>by
   unfold qt;simp [ah hk,hk,ak hk (by omega),sM l[k] (by have:=h l[k] (S0 hk); omega)]) (by simp [qt])]; rfl
theorem sa (l:List Int) (hn:l.length<=1000000000):gq l l=some true:=by rw [BB l l (by omega)]; simp
structure Fin38 (b:Bo):Prop where
 nb:b.2.2.1.length<=1000000
 nl:b.2.2.2.1.length<=1000000
 loc:∀ t∈b.2.2.2.1,t.length<=1000000
 ret:b.2.2.2.2.1.length<=1000000
 ns:b.2.2.2.2.2.1.length<=1000000
 sig:∀ s∈b.2.2.2.2.2.1,s.2.1.length<=1000000/\s.2.2.1.length<=1000000/\(∀ t∈s.2.2.1,t.length<=1000000)/\s.2.2.2.length<=1000000
 nx:b.2.2.2.2.2.2.length<=1000000
 blk:∀ x∈b.2.2.2.2.2.2,x.1.length<=1000000/\x.2.2.2.2.1.length<=1000000/\x.2.2.2.2.2.1.length<=1000000/\x.2.2.2.2.2.2.length<=1000000
theorem De (b:Bo) (h:Fin38 b):gx b b=some true:=by
 unfold gx;have h1:=h.nb; have h2:=h.nl; have h3:=h.ret; have h4:=h.ns; have h5:=h.nx;rw [vH _ (by omega),wi _ (by omega) (fun t ht=>by have:=h.loc t ht; omega),sM _ (by omega),ic rfl,ic rfl];simp only [decide_true,Y0,Q8,cond_false,M0];rw [kX (n:=b.2.2.2.2.2.1.length) (e := .inl ()) (fun k hk=>by
   have hs:=h.sig b.2.2.2.2.2.1[k] (S0 hk);unfold qy qK;simp only [dlt hk,cond_true,ah hk,M0,ak hk (by omega)];generalize b.2.2.2.2.2.1[k]=s at hs;simp only [decide_true,cond_true,vH s.2.1 (by omega),wi s.2.2.1 (by omega) (fun t ht=>by have:=hs.2.2.1 t ht; omega),sM s.2.2.2 (by omega),M0,Y0,cond_false]) (by simp [qy])]
 simp only [M0];rw [kX (n:=b.2.2.2.2.2.2.length) (e := .inl ()) (fun k hk=>by
   have hx:=h.blk b.2.2.2.2.2.2[k] (S0 hk);unfold qv qM;simp only [dlt hk,cond_true,ah hk,M0,ak hk (by omega)];generalize b.2.2.2.2.2.2[k]=x at hx;simp only [decide_true,cond_true,M7,sa x.2.2.2.2.1 (by omega),sa x.2.2.2.2.2.1 (by omega),sa x.2.2.2.2.2.2 (by omega),M0,Y0,cond_false];rw [kX (n:=x.1.length) (e := .inl ()) (fun j hj=>by unfold qw; simp [ah hj,hj,ak hj (by omega)]) (by simp [qw])]; rfl) (by simp [qv])]
 rfl
section
open Go.RowKit Lb
abbrev Ed:=Int×Int×Int×Int
abbrev zS:Stm:=(0,0,0,0,false)
abbrev zX:Blk:=([],0,0,0,[],[],[])
def edS (l:List Stm) (k:Nat) (kind:Int):Option (List Stm) :=
 if kind=1 then some (l.set k zS) else if kind=2 then some (l.take k++l.drop (k + 1)) else if kind=3 then some (l.take k++[l.getD k zS]++l.drop k)
 else if k + 1=l.length then none else some ((l.set k (l.getD (k + 1) zS)).set (k + 1) (l.getD k zS))
def chX (X:List Blk) (i k kind:Int):Option (List Blk) :=
 if 0<=i/\i < (X.length:Nat) then if 0<=k/\k < ((X.getD i.toNat zX).1.length:Nat) then (edS (X.getD i.toNat zX).1 k.toNat kind).map (fun l=>X.set i.toNat (l,(X.getD i.toNat zX).2)) else none else none
def chL (L:List (List St)) (i k r:Int):Option (List (List St)) :=
 if 0<=i/\i < (L.length:Nat) then if 0<=k/\k < ((L.getD i.toNat []).length:Nat) then some (L.set i.toNat ((L.getD i.toNat []).set k.toNat (r,((L.getD i.toNat []).getD k.toNat (0,false)).2))) else none else none
def chB (B:List (Int×Int)) (i:Int):Option (List (Int×Int)):=if 0<=i/\i < (B.length:Nat) then some (B.take i.toNat++B.drop (i.toNat + 1)) else none
def chg (b:Bo) (e:Ed):Option Bo :=
 if 1<=e.1/\e.1<=4 then (chX b.2.2.2.2.2.2 e.2.1 e.2.2.1 e.1).map fun X=>(b.1,b.2.1,b.2.2.1,b.2.2.2.1,b.2.2.2.2.1,b.2.2.2.2.2.1,X)
 else if e.1=5 then (chL b.2.2.2.1 e.2.1 e.2.2.1 e.2.2.2).map fun L=>(b.1,b.2.1,b.2.2.1,L,b.2.2.2.2)
 else if e.1=6 then (chL b.2.2.2.1 e.2.1 e.2.2.1 b.2.1).map fun L=>(b.1,b.2.1 + 1,b.2.2.1,L,b.2.2.2.2)
 else if e.1=7 then some (b.1,b.2.1,b.2.2.1++[(e.2.1,e.2.2.1)],b.2.2.2)
 else if e.1=8 then (chB b.2.2.1 e.2.1).map fun B=>(b.1,b.2.1,B,b.2.2.2) else none
theorem pP {α β:Type} (p:α×β):(p.1,p.2)=p:=rfl
theorem dC (a:Int):aT a a=some ():=by simp [aT]
theorem rZ (a b:Int):eZ a b=some (decide (0<=a/\a < b)):=by
 unfold eZ;by_cases h1:0<=a <;> by_cases h2:a < b <;> simp [h1,h2]
section
variable {a n:Int} {i k:Nat} {x:Blk} (hk:k + 1 < x.1.length) (hl:x.1.length<=1000000) (p q:Stm)
include hk hl
theorem zl:mw x (a,(i:Int),(k:Int),n) p q=some ((x.1.set k p).set (k + 1) q):=by
 unfold mw;simp only [ah (show k < x.1.length by omega),M0,ak (show k < x.1.length by omega) (by omega),O1,ah (l:=x.1.set k p) (show k + 1 < (x.1.set k p).length by rw [O4]; exact hk)]
theorem y6:qb (a,(i:Int),(k:Int),n) x p q=some ((x.1.set k p).set (k + 1) q):=by
 unfold qb;simp only [dC,M0,zl hk hl,cM]
theorem tG:io (a,(i:Int),(k:Int),n) x p q=some ((x.1.set k p).set (k + 1) q):=by
 unfold io;simp only [dC,ah (show k < x.1.length by omega),M0,ak (show k < x.1.length by omega) (by omega),O1,ah (l:=x.1.set k p) (show k + 1 < (x.1.set k p).length by rw [O4]; exact hk)]
theorem zm:mz (a,(i:Int),(k:Int),n) x p q=some ((x.1.set k p).set (k + 1) q):=by
 unfold mz;simp only [M0,tG hk hl,cM]
theorem yZ:qa (a,(i:Int),(k:Int),n) x p q=some ((x.1.set k p).set (k + 1) q):=by
 unfold qa;simp only [M0,zm hk hl,cM]
theorem FV:mB (a,(i:Int),(k:Int),n) x p q=some ((x.1.set k p).set (k + 1) q):=by
 unfold mB;simp only [dC,M0,y6 hk hl,yZ hk hl,cM]
theorem tS:mr (a,(i:Int),(k:Int),n) x p q=some ((x.1.set k p).set (k + 1) q):=by
 unfold mr;simp only [dC,M0,tG hk hl,cM]
theorem zk:my (a,(i:Int),(k:Int),n) x p q=some ((x.1.set k p).set (k + 1) q):=by
 unfold my;simp only [dC,ah (show k < x.1.length by omega),M0,ak (show k < x.1.length by omega) (by omega),O1,ah (l:=x.1.set k p) (show k + 1 < (x.1.set k p).length by rw [O4]; exact hk)]
theorem yr:p9 (a,(i:Int),(k:Int),n) x p q=some ((x.1.set k p).set (k + 1) q):=by
 unfold p9;simp only [M0,zk hk hl,cM]
theorem yN:p8 (a,(i:Int),(k:Int),n) x p q=some ((x.1.set k p).set (k + 1) q):=by
 unfold p8;simp only [M0,tS hk hl,yr hk hl,cM]
theorem ET:mo (a,(i:Int),(k:Int),n) x p q=some ((x.1.set k p).set (k + 1) q):=by
 unfold mo;simp only [M0,tS hk hl,yN hk hl,cM]
end
theorem EM {α:Type} {l:List α} {k:Nat} (hk:k < l.length) (hl:l.length<=1000000):eR l (k:Int) [l[k]]=some (l.take k++[l[k]]++l.drop k):=by
 unfold eR;rw [if_pos ⟨by omega,by omega,by simp,by simp; omega⟩,O1]
theorem yL {α:Type} {l:List α} {k:Nat} (hk:k < l.length) (hl:l.length<=1000000):bV l (k:Int) (IntKind.wrap .i64 ((k:Int) + 1))=some (l.take k++l.drop (k + 1)):=by
 unfold bV;rw [ak hk (by omega),if_pos ⟨by omega,by omega,by omega⟩,O1,O1]
theorem An (e:Ed) (a0 a1:Int) (B:List (Int×Int)) (L:List (List St)) (R:List St) (S:List Sg) (X:List Blk) (he:1<=e.1/\e.1<=4) (hX:∀ x∈X,x.1.length<=1000000) :
   (∀ X',chX X e.2.1 e.2.2.1 e.1=some X'->j7 e a0 a1 B L R S X=some (true,B,L,R,S,X'))/\(chX X e.2.1 e.2.2.1 e.1=none->∃ r,j7 e a0 a1 B L R S X=some (false,r)):=by
 obtain ⟨a,i,k,n⟩:=e;dsimp only at he ⊢;unfold j7;simp only [rZ,M0,dC];unfold chX;by_cases hi:0<=i/\i < (X.length:Nat)
 . obtain ⟨i,rfl⟩:=X0 hi.1;have hi':i < X.length:=by omega
   have hx:(X[i]).1.length<=1000000:=hX _ (S0 hi');have hset:∀ y,y=X[i]->X.set i y=X:=fun y h=>by rw [h]; exact aa0 hi'
   rw [if_pos hi,show X.getD (i:Int).toNat zX=X[i] by simp [R1,hi']];simp only [decide_eq_true hi,Y0,cond_false,ah hi',M0,pP,O1,hset _ rfl];generalize hy:X[i]=x at *;by_cases hk:0<=k/\k < (x.1.length:Nat)
   . obtain ⟨k,rfl⟩:=X0 hk.1;have hk':k < x.1.length:=by omega
     have hg:x.1.getD k zS=x.1[k]:=by simp [R1,hk']
     rw [if_pos hk];simp only [decide_eq_true hk,Y0,cond_false,ah hi',hy,M0,ah hk',O1,pP];have h4:a=1\/a=2\/a=3\/a=4:=by omega
     rcases h4 with rfl | rfl | rfl | rfl
     . exact ⟨fun X' h=>by cases h; rfl,fun h=>by cases h⟩
     . refine ⟨fun X' h=>?_,fun h=>by cases h⟩;cases h;unfold p7;rw [yL hk' hx];rfl
     . refine ⟨fun X' h=>?_,fun h=>by cases h⟩;unfold edS at h;rw [hg] at h;cases h;unfold mq mj;have:=EM hk' hx;simp only [dC,this,M0,cM,hset _ hy,O1];simp [hset _ hy,cM]
     . unfold edS;by_cases hl:k + 1=x.1.length
       . refine ⟨fun X' h=>?_,fun _=>?_⟩
         . simp [hl] at h
         . simp only [ak hk' (by omega),show decide (((k + 1:Nat):Int)=((x.1.length:Nat):Int))=true by simp; omega,cond_true];exact ⟨_,rfl⟩
       . have hk1:k + 1 < x.1.length:=by omega
         have hg1:x.1.getD (k + 1) zS=x.1[k + 1]:=by simp [R1,hk1]
         refine ⟨fun X' h=>?_,fun h=>?_⟩
         . simp only [hl,hg,hg1] at h;simp at h;subst h;simp only [ak hk' (by omega),show decide (((k + 1:Nat):Int)=((x.1.length:Nat):Int))=false by simp; omega,cond_false,ah hk1,ah hk',M0,y6 hk1 hx,tG hk1 hx,zm hk1 hx,yZ hk1 hx,FV hk1 hx,tS hk1 hx,zk hk1 hx,yr hk1 hx,yN hk1 hx,ET hk1 hx,zl hk1 hx,dC,cM,hset _ hy];simp [hset _ hy]
         . simp [hl] at h
   . rw [if_neg hk];simp only [decide_eq_false hk];exact ⟨fun X' h=>(by cases h),fun _=>⟨_,rfl⟩⟩
 . rw [if_neg hi];simp only [decide_eq_false hi];exact ⟨fun X' h=>(by cases h),fun _=>⟨_,rfl⟩⟩
theorem AB (e:Ed) (a0 a1:Int) (B:List (Int×Int)) (L:List (List St)) (R:List St) (S:List Sg) (X:List Blk) (h1:0<=a1/\a1<=1000000) :
   (∀ L',chL L e.2.1 e.2.2.1 (if e.1=6 then a1 else e.2.2.2)=some L'->j8 e a0 a1 B L R S X=some (true,if e.1=6 then a1 + 1 else a1,B,L',R,S,X)) /\
     (chL L e.2.1 e.2.2.1 (if e.1=6 then a1 else e.2.2.2)=none->∃ r,j8 e a0 a1 B L R S X=some (false,r)):=by
 obtain ⟨a,i,k,n⟩:=e;dsimp only;unfold j8;simp only [rZ,M0,dC];unfold chL;have hw:IntKind.wrap .i64 (a1 + 1)=a1 + 1:=w64 (by omega) (by omega);by_cases hi:0<=i/\i < (L.length:Nat)
 . obtain ⟨i,rfl⟩:=X0 hi.1;have hi':i < L.length:=by omega
   have hset:∀ y,y=L[i]->L.set i y=L:=fun y h=>by rw [h]; exact aa0 hi'
   rw [if_pos hi,show L.getD (i:Int).toNat []=L[i] by simp [R1,hi']];simp only [decide_eq_true hi,Y0,cond_false,ah hi',M0,O1,hset _ rfl];generalize hy:L[i]=x at *;by_cases hk:0<=k/\k < (x.length:Nat)
   . obtain ⟨k,rfl⟩:=X0 hk.1;have hk':k < x.length:=by omega
     have hg:x.getD k (0,false)=x[k]:=by simp [R1,hk']
     rw [if_pos hk];simp only [decide_eq_true hk,Y0,cond_false,M0,O1,hg,hw];refine ⟨fun L' h=>?_,fun h=>(by cases h)⟩;cases h;by_cases h6:a=6
     . simp only [h6,decide_true,cond_true,M0,ah hi',hy,ah hk',if_true]
     . simp only [h6,decide_false,cond_false,M0,ah hi',hy,ah hk',if_false]
   . rw [if_neg hk];simp only [decide_eq_false hk];exact ⟨fun X' h=>(by cases h),fun _=>⟨_,rfl⟩⟩
 . rw [if_neg hi];simp only [decide_eq_false hi];exact ⟨fun X' h=>(by cases h),fun _=>⟨_,rfl⟩⟩
theorem B9 (e:Ed) (b:Bo) (hX:∀ x∈b.2.2.2.2.2.2,x.1.length<=1000000) (hB:b.2.2.1.length<=1000000) (hR:0<=b.2.1/\b.2.1<=1000000) :
   (∀ c,chg b e=some c->c.1=b.1/\kb e b.1 b.2.1 b.2.2.1 b.2.2.2.1 b.2.2.2.2.1 b.2.2.2.2.2.1 b.2.2.2.2.2.2=some (true,c.2)) /\
     (chg b e=none->∃ r,kb e b.1 b.2.1 b.2.2.1 b.2.2.2.1 b.2.2.2.2.1 b.2.2.2.2.2.1 b.2.2.2.2.2.2=some (false,r)):=by
 obtain ⟨u,R,B,L,T,S,X⟩:=b;dsimp only at *;unfold kb;unfold chg;dsimp only;by_cases h14:1<=e.1/\e.1<=4
 . rw [if_pos h14];obtain ⟨c1,c2⟩:=An e u R B L T S X h14 hX;have ht:(cond (decide (e.1=1)) (some (decide (e.1=1))) (cond (decide (e.1=2)) (some (decide (e.1=2))) (cond (decide (e.1=3)) (some (decide (e.1=3))) (some (decide (e.1=4))))):Option Bool)=some true:=by
     have:e.1=1\/e.1=2\/e.1=3\/e.1=4:=by omega
     rcases this with h | h | h | h <;> simp [h]
   rw [ht];simp only [M0,cond_true,pP];refine ⟨fun c h=>?_,fun h=>?_⟩
   . obtain ⟨X',h3,h4⟩:=Z1.1 h;subst h4;exact ⟨rfl,by rw [c1 X' h3]; rfl⟩
   . obtain ⟨⟨r1,r2,r3,r4,r5⟩,hr⟩:=c2 (O5.1 h);exact ⟨_,by rw [hr]; rfl⟩
 . rw [if_neg h14];have ht:(cond (decide (e.1=1)) (some (decide (e.1=1))) (cond (decide (e.1=2)) (some (decide (e.1=2))) (cond (decide (e.1=3)) (some (decide (e.1=3))) (some (decide (e.1=4))))):Option Bool)=some false:=by
     simp [show ¬ e.1=1 by omega,show ¬ e.1=2 by omega,show ¬ e.1=3 by omega,show ¬ e.1=4 by omega]
   rw [ht];simp only [M0,cond_false,pP];obtain ⟨s1,s2⟩:=AB e u R B L T S X hR;by_cases h5:e.1=5
   . have h6:¬ e.1=6:=by omega
     rw [if_pos h5];simp only [h6,if_false] at s1 s2;have ht:(cond (decide (e.1=5)) (some (decide (e.1=5))) (some (decide (e.1=6))):Option Bool)=some true:=by simp [h5]
     rw [ht];simp only [M0,cond_true];refine ⟨fun c h=>?_,fun h=>?_⟩
     . obtain ⟨L',h3,h4⟩:=Z1.1 h;subst h4;exact ⟨rfl,by rw [s1 L' h3]; rfl⟩
     . obtain ⟨⟨r1,r2,r3,r4,r5,r6⟩,hr⟩:=s2 (O5.1 h);exact ⟨_,by rw [hr]; rfl⟩
   rw [if_neg h5];by_cases h6:e.1=6
   . rw [if_pos h6];simp only [h6,if_true] at s1 s2;have ht:(cond (decide (e.1=5)) (some (decide (e.1=5))) (some (decide (e.1=6))):Option Bool)=some true:=by simp [h6]
     rw [ht];simp only [M0,cond_true];refine ⟨fun c h=>?_,fun h=>?_⟩
     . obtain ⟨L',h3,h4⟩:=Z1.1 h;subst h4;exact ⟨rfl,by rw [s1 L' h3]; rfl⟩
     . obtain ⟨⟨r1,r2,r3,r4,r5,r6⟩,hr⟩:=s2 (O5.1 h);exact ⟨_,by rw [hr]; rfl⟩
   rw [if_neg h6];have ht:(cond (decide (e.1=5)) (some (decide (e.1=5))) (some (decide (e.1=6))):Option Bool)=some false:=by simp [h5,h6]
   rw [ht];simp only [M0,cond_false];by_cases h7:e.1=7
   . rw [if_pos h7];simp only [h7,decide_true,cond_true,ar (show B.length + [(e.2.1,e.2.2.1)].length<=1073741824 by simp; omega),M0];exact ⟨fun c h=>(by cases h; exact ⟨rfl,rfl⟩),fun h=>(by cases h)⟩
   rw [if_neg h7];simp only [h7,decide_false,cond_false];by_cases h8:e.1=8
   . rw [if_pos h8];unfold chB;simp only [h8,decide_true,cond_true,rZ,M0];by_cases hi:0<=e.2.1/\e.2.1 < (B.length:Nat)
     . rw [if_pos hi];refine ⟨fun c h=>?_,fun h=>(by cases h)⟩;cases h;obtain ⟨i,hi2⟩:=X0 hi.1;unfold p6;rw [hi2] at hi ⊢;rw [yL (by omega) hB];simp only [decide_eq_true hi];exact ⟨trivial,rfl⟩
     . rw [if_neg hi];simp only [decide_eq_false hi];exact ⟨fun X' h=>(by cases h),fun _=>⟨_,rfl⟩⟩
   . rw [if_neg h8];simp only [h8,decide_false,cond_false];exact ⟨fun X' h=>(by cases h),fun _=>⟨_,rfl⟩⟩
structure Nr (b:Bo) (k:Nat):Prop where
 bounds:b.2.2.1.length<=20 + k
 locals:b.2.2.2.1.length<=10
 loc:∀ t∈b.2.2.2.1,t.length<=20
 ret:b.2.2.2.2.1.length<=20
 sigs:b.2.2.2.2.2.1.length<=4
 sig:∀ s∈b.2.2.2.2.2.1,s.2.1.length<=20/\s.2.2.1.length<=20/\s.2.2.2.length<=20/\∀ t∈s.2.2.1,t.length<=20
 blocks:b.2.2.2.2.2.2.length<=8
 term:∀ x∈b.2.2.2.2.2.2,x.2.2.2.2.1.length<=20/\x.2.2.2.2.2.1.length<=20/\x.2.2.2.2.2.2.length<=20
 many:∀ x∈b.2.2.2.2.2.2,x.1.length<=24 + k
theorem Few.nr {b:Bo} (h:Few b):Nr b 0:=⟨h.bounds,h.locals,h.loc,h.ret,h.sigs,h.sig,h.blocks,h.term,fun x hx=>P8 (sF (fun x:Blk=>x.1.length) _ x hx) h.many⟩
theorem Nr.up {b:Bo} {k:Nat} (h:Nr b k):Nr b (k + 1):=⟨bv0 h.bounds,h.locals,h.loc,h.ret,h.sigs,h.sig,h.blocks,h.term,fun x hx=>bv0 (h.many x hx)⟩
theorem EP {X:List Blk} {n:Nat} (h:∀ x∈X,x.1.length<=n):stm X<=X.length * n:=by
 unfold stm
 induction X with
 | nil=>simp
 | cons x X ih =>
   rw [M2,aR0,X1,N4];have:=ih (fun y hy=>h y (by simp [hy]));have:=h x (by simp);omega
theorem Nr.sm {b:Bo} {k:Nat} (h:Nr b k) (hk:k<=10):Sm b where
 bounds:=by have:=h.bounds; omega
 locals:=by have:=h.locals; omega
 loc:=h.loc
 ret:=h.ret
 sigs:=by have:=h.sigs; omega
 sig:=h.sig
 blocks:=by have:=h.blocks; omega
 term:=h.term
 many:=by
   have h1:=EP h.many;have h2:=h.blocks;have:b.2.2.2.2.2.2.length * (24 + k)<=8 * (24 + k):=U3 _ h2;omega
theorem Nr.hx {b:Bo} {k:Nat} (h:Nr b k) (hk:k<=10):∀ x∈b.2.2.2.2.2.2,x.1.length<=140737488351232:=fun x hx=>by have:=h.many x hx; omega
theorem Ew {l l':List Stm} {k:Nat} {a:Int} (h:edS l k a=some l') (hk:k < l.length):l'.length<=l.length + 1:=by
 unfold edS at h;split at h
 . cases h; simp
 split at h
 . cases h; simp; omega
 split at h
 . cases h; simp; omega
 split at h
 . cases h
 . cases h; simp
theorem xS {X X':List Blk} {i k a:Int} (h:chX X i k a=some X'):∃ (j m:Nat) (hj:j < X.length) (l:List Stm),i=(j:Int)/\k=(m:Int)/\m < X[j].1.length/\edS X[j].1 m a=some l/\X'=X.set j (l,X[j].2):=by
 unfold chX at h;split at h
 . rename_i hi;split at h
   . rename_i hk;obtain ⟨j,rfl⟩:=X0 hi.1;obtain ⟨m,rfl⟩:=X0 hk.1;have hj:j < X.length:=by omega
     have e:X.getD (j:Int).toNat zX=X[j]:=by simp [R1,hj]
     rw [e] at h hk;obtain ⟨l,h1,h2⟩:=Z1.1 h;exact ⟨j,m,hj,l,rfl,rfl,by omega,h1,h2.symm⟩
   . cases h
 . cases h
theorem xC {L L':List (List St)} {i k r:Int} (h:chL L i k r=some L'):∃ (j:Nat) (hj:j < L.length) (t:List St),t.length=L[j].length/\L'=L.set j t:=by
 unfold chL at h;split at h
 . rename_i hi;split at h
   . obtain ⟨j,rfl⟩:=X0 hi.1;have hj:j < L.length:=by omega
     have e:L.getD (j:Int).toNat []=L[j]:=by simp [R1,hj]
     rw [e] at h;cases h;exact ⟨j,hj,_,by simp,rfl⟩
   . cases h
 . cases h
theorem Nr.stp {b c:Bo} {k:Nat} (h:Nr b k) {e:Ed} (hc:chg b e=some c):Nr c (k + 1):=by
 have hu:=h.up;unfold chg at hc;split at hc
 . obtain ⟨X',h1,rfl⟩:=Z1.1 hc;obtain ⟨j,m,hj,l,_,_,hm,h2,rfl⟩:=xS h1;have hl:=Ew h2 hm;refine { hu with blocks:=by show (List.set _ _ _).length<=8; rw [O4]; exact h.blocks,term:=fun x hx=>?_,many:=fun x hx=>?_ }
   . rcases Q4 hx with hx | rfl
     . exact h.term x hx
     . have q:=h.term _ (S0 hj);exact q
   . rcases Q4 hx with hx | rfl
     . exact hu.many x hx
     . have:=h.many _ (S0 hj); dsimp only; omega
 split at hc
 . obtain ⟨L',h1,rfl⟩:=Z1.1 hc;obtain ⟨j,hj,t,ht,rfl⟩:=xC h1;refine { hu with locals:=by show (List.set _ _ _).length<=10; rw [O4]; exact h.locals,loc:=fun x hx=>?_ }
   rcases Q4 hx with hx | rfl
   . exact h.loc x hx
   . rw [ht]; exact h.loc _ (S0 hj)
 split at hc
 . obtain ⟨L',h1,rfl⟩:=Z1.1 hc;obtain ⟨j,hj,t,ht,rfl⟩:=xC h1;refine { hu with locals:=by show (List.set _ _ _).length<=10; rw [O4]; exact h.locals,loc:=fun x hx=>?_ }
   rcases Q4 hx with hx | rfl
   . exact h.loc x hx
   . rw [ht]; exact h.loc _ (S0 hj)
 split at hc
 . cases hc;refine { hu with bounds:=?_ };have:=h.bounds;dsimp only;simp;omega
 split at hc
 . obtain ⟨B',h1,rfl⟩:=Z1.1 hc;unfold chB at h1;split at h1
   . cases h1;refine { hu with bounds:=?_ };have:=h.bounds;dsimp only;simp;omega
   . cases h1
 . cases hc
theorem okL {b:Bo} (hx:∀ x∈b.2.2.2.2.2.2,x.1.length<=140737488351232):gC b=some (decide ((lck b).1=0))/\iU b=some (decide ((lck b).1=0)):=by
 obtain ⟨h1,h2⟩:=rC hx;constructor
 . unfold gC;rw [show d8 b=_ from h1]; rfl
 . unfold iU;rw [show iJ b=_ from h2]; rfl
theorem Nr.pz {b:Bo} {k:Nat} (h:Nr b k) (hk:k<=10):Pz b where
 B:=by have:=h.bounds; omega
 L:=⟨by have:=h.locals; omega,h.loc⟩
 R:=h.ret
 S:=⟨by have:=h.sigs; omega,fun g hg=>by obtain ⟨h1,h2,h3,h4⟩:=h.sig g hg; exact ⟨h1,h2,h4,h3⟩⟩
 X:=⟨by have:=h.blocks; omega,fun x hx=>by have:=h.many x hx; omega⟩
theorem BT {b:Bo} {k:Nat} (h:Nr b k) (hk:k<=10) (ho:okBd b):(cF b).length<=300000:=by
 have hp:=xK ho;have hz:=h.pz hk;have hf:b.2.2.2.2.2.2.find? (fun x=>!decide (bn x=0))=none:=by
   rw [aq0]; intro x hx; simp [ro (ho.X x hx)]
 unfold lU at hp;rw [hf] at hp;dsimp only at hp;have he:=congrArg M1 (Prod.mk.inj hp).1;have hb0:=h.bounds; have hb1:=h.locals; have hb2:=h.ret; have hb3:=h.sigs; have hb4:=h.blocks;have q (n:Int):(put n).length<=5:=aR n;have q1:=q b.1; have q2:=q b.2.1; have q3:=q (b.2.2.2.1.length:Int); have q4:=q (b.2.2.2.2.2.1.length:Int); have q5:=q (b.2.2.2.2.2.2.length:Int);have l1:=np b.2.2.1;have l2:=cC aU 105 b.2.2.2.1 (fun t ht=>by have:=dB t; have:=h.loc t ht; omega);have l3:=dB b.2.2.2.2.1;have l4:=cC cd 2500 b.2.2.2.2.2.1 (fun g hg=>rI (hz.S.2 g hg));have l5:=cC bQ 20305 b.2.2.2.2.2.2 (fun x hx=>vV (ro (ho.X x hx)) (hz.X.2 x hx));unfold oX at he;simp only [P0,X1,M3] at he;omega
theorem xo {b:Bo} {k:Nat} (h:Nr b k) (hk:k<=10) (hv:(lck b).1=0):gv b=some b:=by
 have hs:=h.sm hk;rw [gX (h.hx hk) hs] at hv;have ho:=FR hs hv;have hh:=ph (gW.1 hv).1.1;have hl:=BT h hk ho;have h3:=h.locals; have h4:=h.sigs; have h5:=h.blocks;have ht:=Ga b (C1 b ho ⟨by omega,by omega⟩ ⟨by omega,by omega⟩ (by omega) (by omega) (by omega) (by omega));unfold gv;rw [show kP b=_ from Ba b (h.pz hk),xK ho,M0];dsimp only;rw [Cr _ (by simp; omega),ht];rfl
end
section
open Go.RowKit Lb
theorem rh {α:Type} (l:List α) (f:Nat->List α):∀ n,n<=l.length->(∀ i (hi:i < l.length),i < n->f i=[l[i]])->(T3 n).flatMap f=l.take n
 | 0,_,_=>by simp
 | n + 1,hn,h=>by
   rw [bL0,N3,rh l f n (by omega) (fun i hi hin=>h i hi (by omega)),bz (by omega)];simp [h n (by omega) (by omega)]
theorem rK {α:Type} (l:List α) (f:Nat->List α) (k m:Nat) (hkm:k + m<=l.length) (h:∀ i (hi:i < l.length),i < k\/k + m<=i->f i=[l[i]]) :
   (T3 l.length).flatMap f=l.take k++(T3 m).flatMap (fun j=>f (k + j))++l.drop (k + m):=by
 have e:l.length=k + (m + (l.drop (k + m)).length):=by rw [U0]; omega
 have h1:=rh l f k (by omega) (fun i hi hin=>h i hi (.inl hin));have h2:=rh (l.drop (k + m)) (fun j=>f (k + m + j)) (l.drop (k + m)).length (T2 _) (fun i hi _=>by
   rw [U0] at hi;rw [h (k + m + i) (by omega) (.inr (by omega)),by0])
 rw [T7] at h2;rw [e,List.range_add,N3,h1,List.range_add,Z2,N3,O0]
 congr 2
 . rw [bF0]
 . rw [bb0,bF0];refine Eq.trans ?_ h2
   congr 1
   funext j
   show f (k + (m + j))=_;rw [W2]
theorem rl {α:Type} (f:Nat->List α) (n:Nat):(T3 (n + 1)).flatMap f=(T3 n).flatMap f++f n:=by
 rw [bL0,N3]; simp
theorem su {α:Type} (f:Nat->List α) (h:∀ i,(f i).length<=2):∀ n,((T3 n).flatMap f).length<=2 * n
 | 0=>by simp
 | n + 1=>by
   have:=su f h n;have:=h n;rw [rl,P0];omega
theorem rH {α:Type} (A D:List α) (x y:α):((A++x :: y :: D).set A.length y).set (A.length + 1) x=A++[y,x]++D:=by
 rw [bK0,if_neg (by omega),V8,bK0,if_neg (by omega),M6];simp
def stF (l:List Stm) (a:Int) (k i:Nat):List Stm :=
 if a=4/\i=k then [l.getD (k + 1) zS] else if a=4/\i=k + 1 then [l.getD k zS] else if i≠k then [l.getD i zS] else if a=1 then [zS] else if a=3 then [l.getD k zS,l.getD k zS] else []
theorem EN (l:List Stm) (a:Int) (k i:Nat):(stF l a k i).length<=2:=by
 unfold stF
 repeat' split
 all_goals simp
theorem CT {l l':List Stm} {a:Int} {k:Nat} (ha:1<=a/\a<=4) (hk:k < l.length) (h:edS l k a=some l'):(T3 l.length).flatMap (stF l a k)=l':=by
 have hg (i:Nat) (hi:i < l.length):l.getD i zS=l[i]:=by simp [R1,hi]
 by_cases h4:a=4
 . subst h4;have hk1:k + 1 < l.length:=by
     unfold edS at h;simp at h;omega
   rw [rK l _ k 2 (by omega) (fun i hi hik=>by
     unfold stF;rw [if_neg (by omega),if_neg (by omega),if_pos (by omega),hg i hi])]
   unfold edS at h;rw [if_neg (by decide),if_neg (by decide),if_neg (by decide),if_neg (by omega)] at h;have h:=X3 h;rw [<- h];have e:(T3 2).flatMap (fun j=>stF l 4 k (k + j))=[l[k + 1],l[k]]:=by
     show stF l 4 k (k + 0)++(stF l 4 k (k + 1)++[])=_;unfold stF;simp [hk,hk1]
   rw [e,hg _ hk,hg _ hk1];have e0:l.take k++l[k] :: l[k + 1] :: l.drop (k + 2)=l:=by rw [W7 hk1,W7 hk,Y2]
   have:=rH (l.take k) (l.drop (k + 2)) l[k] l[k + 1];rw [e0,show (l.take k).length=k by simp; omega] at this;exact this.symm
 . rw [rK l _ k 1 (by omega) (fun i hi hik=>by
     unfold stF;rw [if_neg (by omega),if_neg (by omega),if_pos (by omega),hg i hi])]
   have e:(T3 1).flatMap (fun j=>stF l a k (k + j))=stF l a k k:=by
     show stF l a k (k + 0)++[]=_;simp
   rw [e];unfold stF;unfold edS at h;have h123:a=1\/a=2\/a=3:=by omega
   rcases h123 with rfl | rfl | rfl
   . simp at h;simp;rw [<- h,R8,if_pos hk]
   . simp at h;simp;exact h
   . simp at h;simp;rw [<- h,show l.drop k=l[k] :: l.drop (k + 1) from (W7 hk).symm];simp [hk]
theorem BU (l:List Stm) (a:Int) (i:Int) (k:Nat) (n:Int) (ha:1<=a/\a<=4) (hk:k < l.length) (hl:l.length<=1000000) :
   (∀ l',edS l k a=some l'->iF l (a,i,(k:Int),n)=some (l',true))/\(edS l k a=none->∃ r,iF l (a,i,(k:Int),n)=some (r,false)):=by
 unfold iF;dsimp only;have c1:(decide ((k:Int) < 0)||decide (((l.length:Nat):Int)<=(k:Int)))=false:=by simp; omega
 have c2:decide ((k:Int)=IntKind.wrap .i64 (((l.length:Nat):Int) - 1))=decide (k + 1=l.length):=by
   rw [w64 (by omega) (by omega)];by_cases q:k + 1=l.length
   . rw [decide_eq_true q,decide_eq_true]; omega
   . rw [decide_eq_false q,decide_eq_false]; omega
 rw [c1,c2];by_cases h4:a=4/\k + 1=l.length
 . refine ⟨fun l' h=>?_,fun _=>⟨[],by simp [h4]⟩⟩;unfold edS at h;simp [h4] at h
 . have c3 : (decide (a = 4) && decide (k + 1 = l.length)) = false := by
     by_cases q:a=4
     . have:¬ k + 1=l.length:=fun e=>h4 ⟨q,e⟩
       simp [this]
     . simp [q]
   rw [c3,aW0,cond_false];refine ⟨fun l' h=>?_,fun h=>?_⟩
   . have hg (i:Nat) (hi:i < l.length):l.getD i zS=l[i]:=by simp [R1,hi]
     have hloop:=kV (body:=mO l (a,i,(k:Int),n)) l (fun j=>(T3 j).flatMap (stF l a k)) l' (fun j hj=>?_) ?_
     . have h0:(T3 0).flatMap (stF l a k)=[]:=rfl;rw [h0] at hloop;rw [hloop]; rfl
     . have hle:=su (stF l a k) (EN l a k) j;unfold mO;dsimp only;rw [dlt hj,cond_true,rl];generalize (T3 j).flatMap (stF l a k)=acc at *;have ap (x:Stm):app acc [(x.1,x.2.1,x.2.2.1,x.2.2.2.1,x.2.2.2.2)]=some (acc++[x]):=ar (by simp; omega);have wj:IntKind.wrap .i64 ((j:Int) + 1)=((j + 1:Nat):Int):=ak hj (by omega);have wk:IntKind.wrap .i64 ((k:Int) + 1)=((k + 1:Nat):Int):=ak hk (by omega);have dj (p:Nat):decide ((j:Int)=(p:Int))=decide (j=p):=by by_cases q:j=p <;> simp [q] <;> omega
       rw [wk,dj,dj];unfold stF;by_cases q1:a=4/\j=k
       . have hk1:k + 1 < l.length:=by have:=fun e=>h4 ⟨q1.1,e⟩; omega
         obtain ⟨rfl,rfl⟩:=q1;simp only [decide_true,M7,cond_true,wj,ah hk1,M0,ap,hg _ hk1,and_self,if_true]
       rw [if_neg q1];have b1:(decide (a=4)&&decide (j=k))=false:=by
         by_cases q:a=4
         . simp [q,show ¬ j=k from fun e=>q1 ⟨q,e⟩]
         . simp [q]
       rw [b1,cond_false];by_cases q2:a=4/\j=k + 1
       . obtain ⟨rfl,rfl⟩:=q2;have w1:IntKind.wrap .i64 (((k + 1:Nat):Int) - 1)=(k:Int):=by rw [w64 (by omega) (by omega)]; omega
         simp only [decide_true,M7,cond_true,w1,ah hk,M0,ap,hg _ hk,wj,and_self,if_true]
       rw [if_neg q2];have b2:(decide (a=4)&&decide (j=k + 1))=false:=by
         by_cases q:a=4
         . simp [q,show ¬ j=k + 1 from fun e=>q2 ⟨q,e⟩]
         . simp [q]
       rw [b2,cond_false];by_cases q3:j=k
       . subst q3;simp only [decide_true,Y0,cond_false,ne_eq,not_true,if_false];by_cases q4:a=1
         . simp only [q4,decide_true,cond_true,if_true,M0,wj,show app acc [zS]=some (acc++[zS]) from ap zS]
         . by_cases q5:a=3
           . subst q5;have ap2 (x:Stm):app (acc++[l[j]]) [(x.1,x.2.1,x.2.2.1,x.2.2.2.1,x.2.2.2.2)]=some (acc++[l[j]]++[x]):=ar (by simp; omega);simp only [ah hj,M0,ap,ap2,wj,hg _ hj];simp
           . simp [q4,q5,wj]
       . rw [decide_eq_false q3,if_pos q3,hg _ hj];simp only [Q6,cond_true,ah hj,M0,ap,wj]
     . unfold mO;dsimp only;rw [dge (by omega),cond_false,CT ha hk h]
   . exfalso;unfold edS at h;split at h
     . cases h
     split at h
     . cases h
     split at h
     . cases h
     split at h
     . rename_i h5; exact h4 ⟨by omega,h5⟩
     . cases h
def rwT (t:List St) (k:Nat) (r:Int):List St:=t.set k (r,(t.getD k (0,false)).2)
theorem Ck (L:List (List St)) (a r:Int) (i k j:Nat) (hj:j < L.length) (hl:∀ t∈L,t.length<=1000000) :
   loop (ko L (a,(i:Int),(k:Int),r) (j:Int)) (0,[])=some (if j=i then rwT L[j] k r else L[j]):=by
 have hlj:=hl _ (S0 hj);have hx:aa L (j:Int)=some L[j]:=ah hj;generalize L[j]=t at *;have hlen:(if j=i then rwT t k r else t).length=t.length:=by unfold rwT; split <;> simp
 have hloop:=bq (body:=ko L (a,(i:Int),(k:Int),r) (j:Int)) (fun q=>((q:Int),(if j=i then rwT t k r else t).take q)) t.length (b:=if j=i then rwT t k r else t) (fun q hq=>?_) ?_
 . exact hloop
 . unfold ko;dsimp only;have hq':q < (if j=i then rwT t k r else t).length:=by rw [hlen]; exact hq
   have dj:decide ((j:Int)=(i:Int))=decide (j=i):=by by_cases q:j=i <;> simp [q] <;> omega
   have dq:decide ((q:Int)=(k:Int))=decide (q=k):=by by_cases h:q=k <;> simp [h] <;> omega
   rw [hx,M0,dlt hq,cond_true,M0,ah hq,M0,dj,dq,ak hq (by omega),bz hq'];have e:(cond (decide (j=i)&&decide (q=k)) (some r) (some t[q].1):Option Int)=some ((if j=i then rwT t k r else t)[q].1)/\t[q].2=(if j=i then rwT t k r else t)[q].2:=by
     by_cases h1:j=i
     . simp only [h1,if_true,decide_true,L7];unfold rwT;rw [bE0];by_cases h2:k=q
       . subst h2;simp [R1,hq]
       . simp [h2,show ¬ q=k from fun e=>h2 e.symm]
     . simp [h1]
   rw [e.1,M0,e.2];generalize (if j=i then rwT t k r else t)=t' at *;rw [show [(t'[q].1,t'[q].2)]=[t'[q]] from rfl,ar (by simp; omega)];rfl
 . unfold ko;dsimp only;rw [hx,M0,dge (by omega),cond_false,L3 (by omega)]
theorem w7 (L:List (List St)) (a i k r:Int) (hL:L.length<=1000000) (hl:∀ t∈L,t.length<=1000000) :
   (∀ L',chL L i k r=some L'->nd L (a,i,k,r)=some (L',true))/\(chL L i k r=none->∃ x,nd L (a,i,k,r)=some (x,false)):=by
 unfold nd chL;dsimp only;by_cases h1:i < 0
 . rw [if_neg (by omega),decide_eq_true h1];exact ⟨fun X' h=>(by cases h),fun _=>⟨_,rfl⟩⟩
 rw [decide_eq_false h1,cond_false];by_cases h2:(L.length:Int)<=i
 . rw [if_neg (by omega),decide_eq_true h2];exact ⟨fun X' h=>(by cases h),fun _=>⟨_,rfl⟩⟩
 rw [decide_eq_false h2,cond_false,if_pos (by omega)];obtain ⟨i,rfl⟩:=X0 (show 0<=i by omega);have hi:i < L.length:=by omega
 rw [show L.getD (i:Int).toNat []=L[i] by simp [R1,hi]];by_cases h3:k < 0
 . rw [if_neg (by omega),decide_eq_true h3];exact ⟨fun X' h=>(by cases h),fun _=>⟨_,rfl⟩⟩
 rw [decide_eq_false h3,cond_false,ah hi,M0];by_cases h4:(L[i].length:Int)<=k
 . rw [if_neg (by omega),decide_eq_true h4];exact ⟨fun X' h=>(by cases h),fun _=>⟨_,rfl⟩⟩
 rw [decide_eq_false h4,cond_false,if_pos (by omega)];obtain ⟨k,rfl⟩:=X0 (show 0<=k by omega);refine ⟨fun L' h=>?_,fun h=>(by cases h)⟩;have h:=X3 h;have hlen:L'.length=L.length:=by rw [<- h]; simp
 have hget:∀ j (hj:j < L.length) (hj':j < L'.length),L'[j]=if j=i then rwT L[j] k r else L[j]:=by
   intro j hj hj';subst h;simp only [O1];rw [bE0];by_cases q:i=j
   . subst q;simp [rwT]
   . rw [if_neg q,if_neg (fun e=>q e.symm)]
 have hloop:=kV (body:=mW L (a,(i:Int),(k:Int),r)) L (fun j=>L'.take j) L' (fun j hj=>?_) ?_
 . have h0:L'.take 0=[]:=rfl;rw [h0] at hloop;rw [hloop]; rfl
 . unfold mW;dsimp only;have hj':j < L'.length:=by omega
   rw [dlt hj,cond_true,Ck L a r i k j hj hl,M0,<- hget j hj hj',bz hj',ar (by simp; omega),M0,ak hj (by omega)]
 . unfold mW;dsimp only;rw [dge (by omega),cond_false,L3 (by omega)]
theorem AN (e:Ed) (b:Bo) (hX:∀ x∈b.2.2.2.2.2.2,x.1.length<=1000000) (hXl:b.2.2.2.2.2.2.length<=1000000) (hB:b.2.2.1.length<=1000000) (hL:b.2.2.2.1.length<=1000000) (hl:∀ t∈b.2.2.2.1,t.length<=1000000) (hR:0<=b.2.1/\b.2.1<=1000000) :
   (∀ c,chg b e=some c->iB b e=some (c.1,c.2.1,c.2.2.1,c.2.2.2.1,c.2.2.2.2.1,c.2.2.2.2.2.1,c.2.2.2.2.2.2,true)) /\
     (chg b e=none->∃ c:Bo,iB b e=some (c.1,c.2.1,c.2.2.1,c.2.2.2.1,c.2.2.2.2.1,c.2.2.2.2.2.1,c.2.2.2.2.2.2,false)):=by
 obtain ⟨u,R,B,L,T,S,X⟩:=b;obtain ⟨a,i,k,n⟩:=e;dsimp only at *;unfold iB;unfold chg;dsimp only;by_cases h14:1<=a/\a<=4
 . rw [if_pos h14,decide_eq_true h14.1,decide_eq_true h14.2,M7,cond_true];unfold chX;by_cases hi:0<=i/\i < (X.length:Nat)
   . obtain ⟨i,rfl⟩:=X0 hi.1;have hi':i < X.length:=by omega
     have hx:(X[i]).1.length<=1000000:=hX _ (S0 hi');rw [if_pos hi,show X.getD (i:Int).toNat zX=X[i] by simp [R1,hi'],decide_eq_false (show ¬ (i:Int) < 0 by omega),decide_eq_false (show ¬ (X.length:Int)<=(i:Int) by omega),Q8,cond_false];have ha:app ([]:List Blk) X=some X:=ar (by simp; omega);simp only [ah hi',M0,dC,ha,O1];generalize hy:X[i]=x at *;by_cases hk:0<=k/\k < (x.1.length:Nat)
     . obtain ⟨k,rfl⟩:=X0 hk.1;have hk':k < x.1.length:=by omega
       obtain ⟨r1,r2⟩:=BU x.1 a (i:Int) k n h14 hk' hx;rw [if_pos hk];simp only [O1,ah hi',hy,M0];refine ⟨fun c h=>?_,fun h=>?_⟩
       . obtain ⟨X',h3,h4⟩:=Z1.1 h;obtain ⟨l',h5,h6⟩:=Z1.1 h3;subst h4; subst h6;rw [r1 l' h5]; rfl
       . rw [O5,O5] at h;obtain ⟨r,hr⟩:=r2 h;rw [hr];exact ⟨(u,R,B,L,T,S,X.set i (r,x.2)),rfl⟩
     . rw [if_neg hk];have:iF x.1 (a,(i:Int),k,n)=some ([],false):=by
         unfold iF;dsimp only;have:(decide (k < 0)||decide (((x.1.length:Nat):Int)<=k))=true:=by simp; omega
         rw [this]; rfl
       simp only [this,ah hi',hy,M0];exact ⟨fun X' h=>(by cases h),fun _=>⟨(u,R,B,L,T,S,X.set i ([],x.2)),rfl⟩⟩
   . rw [if_neg hi];have:(decide (i < 0)||decide (((X.length:Nat):Int)<=i))=true:=by simp; omega
     rw [this];exact ⟨fun X' h=>(by cases h),fun _=>⟨(u,R,B,L,T,S,X),rfl⟩⟩
 . rw [if_neg h14];have:(decide (1<=a)&&decide (a<=4))=false:=by
     by_cases q:1<=a
     . simp [q]; omega
     . simp [q]
   rw [this,cond_false];have hw:IntKind.wrap .i64 (R + 1)=R + 1:=w64 (by omega) (by omega);by_cases h5:a=5
   . subst h5;obtain ⟨s1,s2⟩:=w7 L 5 i k n hL hl;rw [if_pos rfl];simp only [show ¬ ((5:Int)=6) by decide,decide_false,cond_false,M0,decide_true,be0,cond_true];refine ⟨fun c h=>?_,fun h=>?_⟩
     . obtain ⟨L',h3,h4⟩:=Z1.1 h;subst h4;rw [s1 L' h3]; rfl
     . obtain ⟨r,hr⟩:=s2 (O5.1 h);exact ⟨(u,R,B,r,T,S,X),by rw [hr]; rfl⟩
   rw [if_neg h5];by_cases h6:a=6
   . subst h6;obtain ⟨s1,s2⟩:=w7 L 6 i k R hL hl;rw [if_pos rfl];simp only [decide_true,cond_true,M0,Bool.or_true,hw];refine ⟨fun c h=>?_,fun h=>?_⟩
     . obtain ⟨L',h3,h4⟩:=Z1.1 h;subst h4;rw [s1 L' h3]; rfl
     . obtain ⟨r,hr⟩:=s2 (O5.1 h);exact ⟨(u,R + 1,B,r,T,S,X),by rw [hr]; rfl⟩
   rw [if_neg h6];simp only [h5,h6,decide_false,cond_false,M0,Q8];have hloop7:a=7->loop (eY (u,R,B,L,T,S,X) (a,i,k,n)) ([],0)=some B:=by
     intro h7;have hloop:=kV (body:=eY (u,R,B,L,T,S,X) (a,i,k,n)) B (fun j=>B.take j) B (fun j hj=>?_) ?_
     . have h0:B.take 0=[]:=rfl;rw [h0] at hloop;exact hloop
     . unfold eY;dsimp only;rw [dlt hj,cond_true,decide_eq_true h7,be0,cond_true,ah hj,M0,show [(B[j].1,B[j].2)]=[B[j]] from rfl,ar (by simp; omega),M0,bz hj,ak hj (by omega)]
     . unfold eY;dsimp only;rw [dge (by omega),cond_false,T7]
   by_cases h7:a=7
   . rw [if_pos h7];simp only [h7,decide_true,Y0,N7,cond_false];have:=hloop7 h7;rw [h7] at this;rw [this];simp only [M0,cond_true,ar (show B.length + [(i,k)].length<=1073741824 by simp; omega)];exact ⟨fun c h=>(by cases h; rfl),fun h=>(by cases h)⟩
   rw [if_neg h7];simp only [h7,decide_false,Q6,L7];by_cases h8:a=8
   . rw [if_pos h8];unfold chB;by_cases hi:0<=i/\i < (B.length:Nat)
     . rw [if_pos hi];refine ⟨fun c h=>?_,fun h=>(by cases h)⟩;cases h;obtain ⟨i,rfl⟩:=X0 hi.1;have hi':i < B.length:=by omega
       have c1:((!decide (a=8)||decide ((i:Int) < 0))||decide (((B.length:Nat):Int)<=(i:Int)))=false:=by simp [h8]; omega
       rw [c1,cond_false];have hflat:=rK B (fun j=>if j=i then [] else [B.getD j (0,0)]) i 1 (by omega) (fun j hj hji=>by
         simp [show ¬ j=i by omega,R1,hj])
       have e1:(T3 1).flatMap (fun j=>(fun j=>if j=i then [] else [B.getD j (0,0)]) (i + j))=[]:=by
         show (if i + 0=i then [] else [B.getD (i + 0) (0,0)])++[]=_;simp
       rw [e1,P1] at hflat;have hloop:=kV (body:=eY (u,R,B,L,T,S,X) (a,(i:Int),k,n)) B (fun j=>(T3 j).flatMap (fun j=>if j=i then [] else [B.getD j (0,0)])) (B.take i++B.drop (i + 1)) (fun j hj=>?_) ?_
       . have h0:(T3 0).flatMap (fun j=>if j=i then [] else [B.getD j (0,0)])=[]:=rfl;rw [h0] at hloop;rw [hloop]; rfl
       . have hle:=su (fun j=>if j=i then [] else [B.getD j (0,0)]) (fun j=>by split <;> simp) j;unfold eY;dsimp only;rw [dlt hj,cond_true,decide_eq_false h7,aW0,rl,ak hj (by omega)];generalize (T3 j).flatMap (fun j=>if j=i then [] else [B.getD j (0,0)])=acc at *;have dj:decide ((j:Int)=(i:Int))=decide (j=i):=by by_cases q:j=i <;> simp [q] <;> omega
         rw [dj];by_cases q:j=i
         . simp [q]
         . rw [decide_eq_false q,Q6,cond_true,ah hj,M0,show [(B[j].1,B[j].2)]=[B[j]] from rfl,ar (by simp; omega),if_neg q];simp [R1,hj]
       . unfold eY;dsimp only;rw [dge (by omega),cond_false,hflat]
     . rw [if_neg hi];have c1:((!decide (a=8)||decide (i < 0))||decide (((B.length:Nat):Int)<=i))=true:=by simp [h8]; omega
       rw [c1];exact ⟨fun X' h=>(by cases h),fun _=>⟨(u,R,B,L,T,S,X),rfl⟩⟩
   . rw [if_neg h8];simp only [h8,decide_false,Q6,be0,cond_true];exact ⟨fun X' h=>(by cases h),fun _=>⟨(u,R,B,L,T,S,X),rfl⟩⟩
end
end
end Go.Proofs.YtcocmnheohgndaaGreat
