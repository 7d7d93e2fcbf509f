/- A part of the proof: what lies ahead of the law. Nothing is claimed here. -/
import Derived.Test.YtcocmnheohgndaaGreatZ5
open Bool renaming and_assoc → aV0, and_eq_true → Q0, and_false → Q8, and_self → S7, false_and → T7, false_eq_true → N2, not_eq_true' → ah0, not_false → V6, not_not → bq0, not_true → X0, or_eq_false_iff → W7, or_eq_true → cb0, or_self → Z7, true_and → R7
open Int renaming eq_ofNat_of_zero_le → Y0, tdiv → aq0, tdiv_eq_ediv_of_nonneg → X9, tmod → aB0, tmod_eq_emod_of_nonneg → aP0, toNat_natCast → O1, toNat_zero → aT0
open List renaming any_eq_false → W3, any_eq_true → R6, append_assoc → O0, append_eq_nil_iff → bk0, append_nil → P1, cons_append → N4, drop_drop → M4, drop_eq_getElem_cons → Y8, drop_left → S5, drop_succ_cons → Y6, drop_zero → X2, find?_cons → bY0, find?_eq_none → aA0, findIdx?_eq_none_iff → U1, findIdx?_eq_some_iff_getElem → R1, flatMap_append → N3, flatMap_cons → P3, flatMap_nil → Q5, getD → S1, getD_cons_succ → bx0, getD_cons_zero → bw0, getElem?_eq_none → R3, getElem_cons_succ → bh0, getElem_cons_zero → O9, getElem_mem → U0, getElem_of_mem → X3, length → N1, length_append → P0, length_cons → V1, length_drop → T0, length_eq_one_iff → bg0, length_eq_zero_iff → V0, length_map → U8, length_nil → M3, length_pos_iff → N8, length_range → bI0, length_set → N5, length_take → Z0, map_append → Y2, map_cons → Z1, map_map → bm0, map_nil → N6, mem_append → M2, mem_cons → T2, mem_cons_of_mem → R2, mem_cons_self → ab0, mem_map → Z4, mem_of_getElem? → V8, mem_of_mem_drop → V7, mem_of_mem_take → U7, mem_or_eq_of_mem_set → Z5, mem_range → W8, mem_singleton → X1, nil_append → O4, range → U3, set_getElem_self → bl0, singleton_append → al0, sum_append → bU0, sum_cons → ba0, take_add → Q7, take_append_drop → O3, take_length → Q6, take_zero → S6
open Nat renaming add_assoc → V2, add_zero → Z3, eq_zero_or_pos → aa0, le_refl → S2, le_succ_of_le → bG0, le_trans → M9, min_eq_left → U4, mul_le_mul_right → V3, not_lt → bF0, succ_mul → Q4, zero_add → O2
open Option renaming bind_eq_some_iff → aW0, bind_some → M0, map_eq_none_iff → X5, map_eq_some_iff → Y1
open Option.some renaming inj → P4, injEq → W0
open Prod.mk renaming injEq → Y5
open Sum renaming inr → aK0
open Sum.inr renaming injEq → ax0
namespace Go.Proofs.YtcocmnheohgndaaGreat
noncomputable section
set_option linter.unusedVariables false
set_option linter.unnecessarySimpa false
set_option linter.unusedSimpArgs false
section
open Go.RowKit Lb
def jR (x:St):Int:=2 * x.1 + (if x.2 then 1 else 0)
def pi (x:St):List UInt8:=put (jR x)
def fL (l:List St):List UInt8:=put (l.length:Int)++l.flatMap pi
def jG (b:Int×Int):List UInt8:=put b.1++put b.2
def cv (l:List (Int×Int)):List UInt8:=put (l.length:Int)++l.flatMap jG
def ta (l:List (List St)):List UInt8:=put (l.length:Int)++l.flatMap fL
def j5 (g:Sgt):List UInt8:=put g.1++(cv g.2.1++(ta g.2.2.1++fL g.2.2.2))
abbrev okN (n:Int):Prop:=0<=n/\n<=4294967295
def qi (x:St):Prop:=0<=x.1/\x.1<=2147483647
def okT (l:List St):Prop:=(l.length:Int)<=16/\∀ x∈l,qi x
def okB (most:Int) (l:List (Int×Int)):Prop:=(l.length:Int)<=most/\∀ b∈l,okN b.1/\okN b.2
def zY (l:List (List St)):Prop:=(l.length:Int)<=16/\∀ x∈l,okT x
def okS (g:Sgt):Prop:=okN g.1/\okB 16 g.2.1/\zY g.2.2.1/\okT g.2.2.2
theorem Cod.slot:Cod pE pi qi:=by
 have h:=Cod.map (fun n=>((n / 2,decide (n % 2=1)):St)) jR Cod.num (fun n hn=>by
   unfold jR;by_cases q:n % 2=1
   . simp [q]; omega
   . simp [q]; omega)
 refine h.imp (fun x=>?_) (fun x _=>rfl);obtain ⟨r,i⟩:=x;unfold jR qi;cases i with
 | true=>simp; omega
 | false=>simp; omega
theorem Cod.type:Cod bB fL okT:=Cod.list (by decide) Cod.slot
theorem Cod.bound:Cod pd jG (fun b=>okN b.1/\okN b.2):=Cod.pair (q:=fun _=>bx) (v:=fun _=>put) (ok':=fun _=>okN) Cod.num (fun _ _=>Cod.num)
theorem Cod.bounds {most:Int} (h:most<=4294967295):Cod (dK most) cv (okB most):=Cod.list h Cod.bound
theorem Cod.types:Cod o9 ta zY:=Cod.list (by decide) Cod.type
theorem Cod.sig:Cod bX j5 okS:=by
 refine ⟨fun s g m h=>?_,fun g T ⟨h1,h2,h3,h4⟩=>?_⟩
 . obtain ⟨n,a,j,h1,h2,rfl⟩:=bF h;obtain ⟨B,b,j2,h3,h4,rfl⟩:=bF h2;obtain ⟨A,c,j3,h5,h6,rfl⟩:=bF h4;obtain ⟨R,d,j4,h7,h8,rfl⟩:=bF h6;cases h8;obtain ⟨o1,t1⟩:=Cod.num.back _ _ _ h1;obtain ⟨o2,t2⟩:=(Cod.bounds (by decide)).back _ _ _ h3;obtain ⟨o3,t3⟩:=Cod.types.back _ _ _ h5;obtain ⟨o4,t4⟩:=Cod.type.back _ _ _ h7;refine ⟨⟨o1,o2,o3,o4⟩,?_⟩;rw [Z3,Q7,t1,Q7,t2,Q7,t3,t4]; rfl
 . obtain ⟨n,B,A,R⟩:=g;dsimp only at *;unfold j5 bX;simp only [O0];rw [bH (Cod.num.to n _ h1),S5,bH ((Cod.bounds (by decide)).to B _ h2),S5,bH (Cod.types.to A _ h3),S5,bH (Cod.type.to R _ h4)];simp [aC,eU]
theorem cF {α:Type} (w:α->List UInt8) (c:Nat):∀ (l:List α),(∀ x∈l,(w x).length<=c)->(l.flatMap w).length<=l.length * c
 | [],_=>by simp
 | x :: l,h=>by
   have h1:=h x (by simp);have h2:=cF w c l (fun y hy=>h y (by simp [hy]));rw [P3,P0,V1,Q4]; omega
theorem nN (l:List (Int×Int)):(cv l).length<=5 + l.length * 10:=by
 have h1:=aQ (l.length:Int);have h2:=cF jG 10 l (fun x _=>by have:=aQ x.1; have:=aQ x.2; unfold jG; rw [P0]; omega);unfold cv; rw [P0]; omega
theorem FG {α β:Type} (f:α->β) (w:β->List UInt8) (l:List α):(l.map f).flatMap w=l.flatMap (fun x=>w (f x)):=by
 induction l with
 | nil=>rfl
 | cons x l ih=>simp [ih]
theorem EH {x:St} (h:qi x):(cond x.2 (some (IntKind.wrap .i64 ((IntKind.wrap .i64 (2 * x.1)) + 1))) (some (IntKind.wrap .i64 (2 * x.1))):Option Int)=some (jR x):=by
 obtain ⟨r,i⟩:=x;obtain ⟨h0,h1⟩:=h;dsimp only at *;rw [w64 (x:=2 * r) (by omega) (by omega),w64 (by omega) (by omega)];cases i <;> simp [jR]
theorem cS (a b:List UInt8) (h:a.length + b.length<=1000000):wrS a b=some (a++b):=aq (by omega)
theorem eC (n:Int):cN n=some (put n):=by
 unfold cN; rw [g8 _ (by simp)]; simp
theorem sC:∀ l:List (Int×Int),(l.flatMap (fun b=>[b.1,b.2])).length=2 * l.length
 | []=>rfl
 | x :: l=>by have:=sC l; simp only [P3,P0,V1,M3]; omega
theorem xX:∀ l:List (Int×Int),(l.flatMap (fun b=>[b.1,b.2])).flatMap put=l.flatMap jG
 | []=>rfl
 | x :: l=>by have:=xX l; simp only [P3,N3,this]; simp [jG]
theorem uU (l:List (Int×Int)) (hl:l.length<=1000):kw l=some (cv l):=by
 unfold kw;have hloop:=bd (body:=km l) (fun k:Nat=>([(l.length:Int)]++(l.take k).flatMap (fun b=>[b.1,b.2]),(k:Int))) l.length (b:=[(l.length:Int)]++l.flatMap (fun b=>[b.1,b.2])) ?_ ?_
 . have:loop (km l) ([(l.length:Int)],0)=some ([(l.length:Int)]++l.flatMap (fun b=>[b.1,b.2])):=by simpa using hloop
   have h2:=sC l;rw [this,M0,g8 _ (by rw [P0,h2]; simp; omega)];have h3:=xX l;simp only [M0,N3,h3];simp [cv]
 . intro k hk;have h2:((l.take k).flatMap (fun b=>[b.1,b.2])).length<=2 * l.length:=by
     rw [sC]; simp; omega
   unfold km;dsimp only;rw [dlt hk,cond_true,ah hk,M0,aq (by rw [P0]; simp only [V1,M3]; omega),M0,ak hk (by omega)];rw [bw hk,N3];simp
 . unfold km;simp
end
open Go.RowKit
abbrev Nd:=Int×Int×Int×Int×Bool
def jQ (kind f:Int) (x y:St):List Nd:=(x.1,y.1,kind,f,false) :: if y.2 then [(y.1,x.1,kind,f,true)] else []
def rel (kind f:Int):List St->List St->List Nd
 | x :: xs,y :: ys=>jQ kind f x y++rel kind (f + 1) xs ys
 | _,_=>[]
theorem xt (kind:Int) (x y:St):∀ (xs ys:List St) (f:Int),xs.length=ys.length->rel kind f (xs++[x]) (ys++[y])=rel kind f xs ys++jQ kind (f + xs.length) x y
 | [],[],f,_=>by simp [rel]
 | [],_ :: _,f,h=>by simp at h
 | _ :: _,[],f,h=>by simp at h
 | a :: xs,b :: ys,f,h=>by
   simp only [N4,rel,xt kind x y xs ys (f + 1) (by simpa using h),O0,V1];rw [show f + 1 + (xs.length:Int)=f + ((xs.length + 1:Nat):Int) by omega]
theorem cD (kind:Int) (xs ys:List St) (f:Int):(rel kind f xs ys).length<=2 * xs.length:=by
 induction xs generalizing ys f with
 | nil=>simp [rel]
 | cons a xs ih=>cases ys with
   | nil=>simp [rel]
   | cons b ys =>
     have:=ih ys (f + 1);cases hb:b.2 <;> simp [rel,jQ,hb] <;> omega
theorem ja (xa xb:List St) (kind f:Int) (hl:xa.length=xb.length) (hn:xa.length<=30) (hf : -9223372036854775808<=f) (hf2:f<=1099511627776) (c:List Nd) (hc:c.length<=10) :
   f6 xa xb kind f c=some (c++rel kind f xa xb):=by
 unfold f6;have h:=jb (body:=mP xa xb kind f) xa (fun k=>c++rel kind f (xa.take k) (xb.take k)) (c++rel kind f xa xb) ?_ ?_
 . simp only [S6,rel,P1] at h;rw [h]; rfl
 . intro k h;have h2:k < xb.length:=by omega
   have hlen:=cD kind (xa.take k) (xb.take k) f;simp only [Z0] at hlen;have hw:IntKind.wrap .i64 (f + (k:Int))=f + k:=w64 (by omega) (by omega);unfold mP;rw [bw h,bw h2,xt _ _ _ _ _ _ (by simp; omega)];have e:(xa.take k).length=k:=by simp; omega
   rw [e];cases hb:xb[k].2 with
   | true =>
     simp [ah h,ah h2,h,hb,ak h (by omega),hw,jQ];rw [aq (by simp; omega)];simp;rw [aq (by simp; omega)];simp
   | false =>
     simp [ah h,ah h2,h,hb,ak h (by omega),hw,jQ];rw [aq (by simp; omega)];simp
 . have e:xb.take xa.length=xb:=by rw [hl,Q6]
   simp [mP,e]
theorem qY (xa xb:List St) (kind f:Int):kr xa xb kind f=f6 xa xb kind f []:=rfl
theorem nQ (xa xb:List St) (kind f:Int) (hn:xa.length<=30) (hf : -9223372036854775808<=f) (hf2:f<=1099511627776):gD xa xb kind f=some (if shp xa xb then (rel kind f xa xb,0) else ([],8)):=by
 unfold gD;rw [gW _ _ (by omega),M0];cases hs:shp xa xb with
 | false=>rfl
 | true=>rw [X0,cond_false,qY,ja xa xb kind f (lm hs) hn hf hf2 [] (by simp)]; simp
theorem fu (xa xb:List St) (kind f:Int) (hn:xa.length<=30) (hf : -9223372036854775808<=f) (hf2:f<=1099511627776):gL xa xb kind f=some (if shp xa xb then (rel kind f xa xb,0) else ([],8)):=by
 unfold gL;rw [kY _ _ (by omega),M0];cases hs:shp xa xb with
 | false=>rfl
 | true=>rw [X0,cond_false,ja xa xb kind f (lm hs) hn hf hf2 [] (by simp)]; simp
def lo (n:Int) (m:Bool) (xa xb:List St):List Nd×Int :=
 if shp ((n,false) :: xa.map fun x=>(x.1,x.2||m)) xb then ((n,(xb.head?.getD (0,false)).1,2,0,false) :: rel 1 1 xa (xb.drop 1),0) else ([],8)
theorem tG {n:Int} {m:Bool} {xa xb:List St} (h:shp ((n,false) :: xa.map fun x=>(x.1,x.2||m)) xb=true):xb.length=xa.length + 1:=by
 have:=lm h; simp at this; omega
theorem BN (xa xb:List St) (n:Int) (m:Bool) (hn:xa.length<=30):nv xa xb n m=some (lo n m xa xb):=by
 unfold nv lo;rw [Cf _ _ _ (by omega),M0,hU];by_cases hb:xb.length<=1000
 . rw [gW _ _ (by omega),M0];cases hs:shp xb ((n,false) :: xa.map fun x=>(x.1,x.2||m)) with
   | false=>rfl
   | true =>
     have hl:=tG (by rw [hU]; exact hs);cases xb with
     | nil=>simp at hl
     | cons y ys =>
       have hl2:xa.length=ys.length:=by simpa using hl.symm
       rw [X0,cond_false,show aa (y :: ys) 0=some y from rfl,M0,iw (by simp),M0,qY,ja _ _ _ _ (by simpa using hl2) hn (by omega) (by omega) _ (by simp)];have:=cD 1 xa ys 1;simp only [O4,M0,Y6,X2];rw [aq (by simp; omega)];simp
 . have hs:shp xb ((n,false) :: xa.map fun x=>(x.1,x.2||m))=false:=sM (by simp; omega);unfold dB mq;rw [pI (by simp; omega),cond_true,hs]; rfl
theorem vN (xa xb:List St) (n:Int) (m:Bool) (hn:xa.length<=30):nB xa xb n m=some (lo n m xa xb):=by
 unfold nB lo;rw [BW _ _ _ (by omega),M0,kY _ _ (by simp; omega),M0];cases hs:shp ((n,false) :: xa.map fun x=>(x.1,x.2||m)) xb with
 | false=>rfl
 | true =>
   have hl:=tG hs;cases xb with
   | nil=>simp at hl
   | cons y ys =>
     have hl2:xa.length=ys.length:=by simpa using hl.symm
     rw [X0,cond_false,show aa (y :: ys) 0=some y from rfl,M0,iw (by simp),M0,ja _ _ _ _ (by simpa using hl2) hn (by omega) (by omega) _ (by simp)];simp
def ag (n:Int) (m:Bool) (xa xb:List St):List Nd×Int :=
 match xa,xb with
 | x :: xs,y :: ys=>if x.2||!shp (x :: xs) (y :: ys)||(m&&xs.any (fun z=>!z.2)) then ([],8) else ((x.1,n,3,0,false) :: (n,y.1,2,0,false) :: rel 1 1 xs ys,0)
 | _,_=>([],8)
theorem E6 (xa xb:List St) (m:Bool) (hn:xa.length<=30):mO xa xb m=some (match xa with | []=>false | x :: xs=>!(x.2||!shp xa xb||(m&&xs.any (fun z=>!z.2)))):=by
 unfold mO;cases xa with
 | nil=>rfl
 | cons x xs =>
   have e0:decide ((((x :: xs).length:Nat):Int)=0)=false:=by simp; omega
   rw [e0,cond_false,show aa (x :: xs) 0=some x from rfl,M0,M0];cases hx:x.2 with
   | true=>simp [hx]
   | false =>
     rw [cond_false,gW _ _ (by omega),M0,M0];cases hs:shp (x :: xs) xb with
     | false=>simp
     | true =>
       rw [X0,cond_false,iw (by simp),M0];unfold qp qq;rw [bv (List.drop 1 (x :: xs)) (fun z:St=>!z.2) (fun k => .inr (k:Int)) (.inl ()) ?_ ?_]
       . simp only [Y6,X2];cases h:xs.findIdx? (fun z:St=>!z.2) with
         | none =>
           have:xs.any (fun z:St=>!z.2)=false:=by
             rw [W3]; intro z hz; have:=U1.1 h z hz; simpa using this
           simp [this,hx]
         | some k =>
           obtain ⟨hk,h1,_⟩:=R1.1 h;have:xs.any (fun z:St=>!z.2)=true:=R6.2 ⟨_,U0 hk,h1⟩;simp [this,hx]
       . intro k h;unfold qn qK;simp only [Y6,X2] at h ⊢;have hn':xs.length<=30:=by simp at hn; omega
         cases hz:xs[k].2 <;> simp [ah h,h,ak h (by omega),hz]
       . simp [qn]
theorem Ba (xa xb:List St) (n:Int) (m:Bool) (hn:xa.length<=30):nj xa xb n m=some (ag n m xa xb):=by
 unfold nj;rw [E6 _ _ _ hn,M0];cases xa with
 | nil=>rfl
 | cons x xs =>
   simp only [ag,bq0];by_cases hc:(x.2||!shp (x :: xs) xb||(m&&xs.any (fun z=>!z.2)))=true
   . rw [hc]; cases xb <;> simp_all
   . have hc':(x.2||!shp (x :: xs) xb||(m&&xs.any (fun z=>!z.2)))=false:=by simpa using hc
     have hs:shp (x :: xs) xb=true:=by
       cases q:shp (x :: xs) xb with
       | true=>rfl
       | false=>rw [q] at hc'; simp at hc'
     have hl:=lm hs;cases xb with
     | nil=>simp at hl
     | cons y ys =>
       simp only [hc',cond_false,if_false,show aa (x :: xs) 0=some x from rfl,show aa (y :: ys) 0=some y from rfl,M0,iw (show 1<=(x :: xs).length by simp),iw (show 1<=(y :: ys).length by simp),Y6,X2,N2];have hl2:xs.length=ys.length:=by simpa using hl
       rw [qY,ja _ _ _ _ hl2 (by simp at hn; omega) (by omega) (by omega) _ (by simp),M0];have:=cD 1 xs ys 1;simp at hn;rw [aq (by simp; omega)];simp
theorem vu (xa xb:List St) (n:Int) (m:Bool) (hn:xa.length<=30):nq xa xb n m=some (ag n m xa xb):=by
 unfold nq;cases xa with
 | nil=>rfl
 | cons x xs =>
   have e0:decide ((((x :: xs).length:Nat):Int)=0)=false:=by simp; omega
   rw [e0,cond_false,kY _ _ (by omega),M0,M0];cases hs:shp (x :: xs) xb with
   | false=>cases xb <;> simp [ag,hs]
   | true =>
     have hl:=lm hs;cases xb with
     | nil=>simp at hl
     | cons y ys =>
       have hl2:xs.length=ys.length:=by simpa using hl
       simp only [X0,cond_false,show aa (x :: xs) 0=some x from rfl,show aa (y :: ys) 0=some y from rfl,M0];cases hx:x.2 with
       | true=>simp [ag,hx]
       | false =>
         have hn':xs.length<=29:=by simp at hn; omega
         have hloop:loop (iL (x :: xs) m) 1=some (if (m&&xs.any (fun z=>!z.2)) then .inr ([],8) else .inl ()):=by
           have:=DN (body:=iL (x :: xs) m) (fun k=>(m&&(xs[k]?.any (fun z=>!z.2)))=true) (fun k=>((k + 1:Nat):Int)) xs.length (.inr ([],8)) (.inl ()) ?_ ?_ ?_
           . rw [show ((1:Int))=((0 + 1:Nat):Int) from rfl,this]
             congr 1
             by_cases hq:(m&&xs.any (fun z=>!z.2))=true
             . rw [if_pos hq,if_pos];simp only [Q0] at hq;obtain ⟨z,hz,hz2⟩:=R6.1 hq.2;obtain ⟨k,hk,rfl⟩:=X3 hz;exact ⟨k,hk,by simp [hq.1,hk]; simpa using hz2⟩
             . rw [if_neg hq,if_neg];rintro ⟨k,hk,hk2⟩;apply hq;simp [hk] at hk2;rw [hk2.1,R7];exact R6.2 ⟨_,U0 hk,by simpa using hk2.2⟩
           . intro k hk hp;have h2:k + 1 < (x :: xs).length:=by simp; omega
             simp [hk] at hp;unfold iL;rw [dlt h2,cond_true,ak h2 (by simp; omega)];cases m with
             | false=>simp
             | true=>simp [zJ h2,hp rfl]
           . intro k hk hp;have h2:k + 1 < (x :: xs).length:=by simp; omega
             simp [hk] at hp;unfold iL;rw [dlt h2,cond_true];simp [zJ h2,hp.1,hp.2]
           . simp [iL]
         rw [hloop];by_cases hq:(m&&xs.any (fun z=>!z.2))=true
         . simp [ag,hx,hs,hq]
         . have hq':(m&&xs.any (fun z=>!z.2))=false:=by simpa using hq
           rw [hq'];simp only [cond_false,M0,if_false,iw (show 1<=(x :: xs).length by simp),iw (show 1<=(y :: ys).length by simp),Y6,X2,N2];rw [ja _ _ _ _ hl2 (by omega) (by omega) (by omega) _ (by simp)];simp [ag,hx,hs,hq']
theorem Dn (n:Int) (m:Bool) (xa xb:List St) (h:xa.length<=30):(lo n m xa xb).1.length<=100:=by
 unfold lo;have:=cD 1 xa (xb.drop 1) 1;simp at this;split <;> simp; omega
theorem CE (n:Int) (m:Bool) (xa xb:List St) (h:xa.length<=30):(ag n m xa xb).1.length<=100:=by
 unfold ag;split
 . rename_i x xs y ys;have:=cD 1 xs ys 1;simp at h;split <;> simp; omega
 . simp
abbrev Stm:=Int×Int×Int×Int×Bool
def aF (k:Int):Bool:=(((decide (k=1))||(decide (k=2)))||(decide (k=3)))||(decide (k=5))
def aE (k:Int):Bool:=(decide (1<=k))&&(decide (k<=4))
def aD (k:Int):Bool:=(decide (k=2))||(decide (k=3))
def fOk (x:Stm):Bool:=decide (0<=x.1)&&decide (x.1<=5)&&(aF x.1||decide (x.2.1=0))&&(aE x.1||decide (x.2.2.1=0))&&(aD x.1||(decide (x.2.2.2.1=0)&&!x.2.2.2.2))
theorem six {k:Int} (h:decide (0<=k)&&decide (k<=5)):k=0\/k=1\/k=2\/k=3\/k=4\/k=5:=by simp at h; omega
theorem vx (k:Int):ky k=some (if decide (0<=k)&&decide (k<=5) then (aF k,aE k,aD k,true) else (false,false,false,false)):=by
 by_cases h:(decide (0<=k)&&decide (k<=5))=true
 . rcases six h with rfl | rfl | rfl | rfl | rfl | rfl <;> rfl
 . rw [if_neg h];have h':k < 0\/5 < k:=by simp at h; omega
   have e (j:Int) (h0:0<=j) (h5:j<=5):decide (k=j)=false:=by simp; omega
   unfold ky;simp only [e 0 (by omega) (by omega),e 1 (by omega) (by omega),e 2 (by omega) (by omega),e 3 (by omega) (by omega),e 4 (by omega) (by omega),e 5 (by omega) (by omega),cond_false,M0]
theorem nS (x:Stm):iV x=some (fOk x):=by
 obtain ⟨k,d,s,r,m⟩:=x;have h1:gR k=some (aF k):=rfl;have h2:gO k=some (aE k):=rfl;have h3:gq k=some (aD k):=rfl;unfold iV fOk;simp only [h1,h2,h3,M0];cases (decide (0<=k)&&decide (k<=5)) <;> simp
 cases (aF k||decide (d=0)) <;> simp
 cases (aE k||decide (s=0)) <;> simp
theorem yb (x:Stm):kQ x=some (if fOk x then (aF x.1,aE x.1,aD x.1,0) else (false,false,false,3)):=by
 obtain ⟨k,d,s,r,m⟩:=x;unfold kQ;rw [vx];by_cases h:(decide (0<=k)&&decide (k<=5))=true
 . simp only [h,if_true,M0,X0,cond_false];have ho:nO (k,d,s,r,m) (aF k,aE k,aD k)=some (k,if aF k then d else 0,if aE k then s else 0,if aD k then r else 0,if aD k then m else false):=by
     unfold nO;cases aF k <;> cases aE k <;> cases aD k <;> rfl
   rw [ho,M0];unfold fOk;simp only [h,R7];cases aF k <;> cases aE k <;> cases aD k <;> simp
   all_goals (by_cases q1:d=0 <;> by_cases q2:s=0 <;> by_cases q3:r=0 <;> cases m <;> simp [q1,q2,q3])
 . have h':(decide (0<=k)&&decide (k<=5))=false:=by simpa using h
   unfold fOk;simp [h']
def loc (xb:List (List St)) (d:Int):Bool:=decide (0<=d)&&decide (d < ((xb.length:Nat):Int))
theorem xL (xb:List (List St)) (d:Int):(decide (d < 0)||decide (((xb.length:Nat):Int)<=d)) = !loc xb d:=by
 unfold loc;by_cases h1:d < 0 <;> by_cases h2:((xb.length:Nat):Int)<=d <;> simp [h1,h2] <;> omega
theorem cR {xb:List (List St)} {d:Int} (h:loc xb d=true) (hb:∀ t∈xb,t.length<=20):∃ t:List St,aa xb d=some t/\t.length<=20:=by
 unfold loc at h;simp at h;exact ⟨_,iv h.1 h.2,hb _ (U0 _)⟩
def Gd (R:Int) (n:Nd):Prop:=(0<=n.1/\n.1 < R)/\(0<=n.2.1/\n.2.1 < R)/\(1<=n.2.2.1/\n.2.2.1<=7)/\(0<=n.2.2.2.1/\n.2.2.2.1<=1000000)
theorem dp {R:Int} {t:List St} (h:rin R t=false) {x:St} (hx:x∈t):0<=x.1/\x.1 < R:=by
 have:=W3.1 h x hx;simp at this; omega
theorem jA {R:Int} {t:List St} (h:∀ x∈t,0<=x.1/\x.1 < R):rin R t=false:=by
 unfold rin;rw [W3];intro x hx;have:=h x hx;simp; omega
theorem ia {R kind:Int} (hk:1<=kind/\kind<=7):∀ (xs ys:List St) (f:Int),0<=f->f + (xs.length:Int)<=1000000->rin R xs=false->rin R ys=false->∀ n∈rel kind f xs ys,Gd R n
 | x :: xs,y :: ys,f,h0,h1,hx,hy,n,hn=>by
   have a1:=dp hx (x:=x) (by simp);have a2:=dp hy (x:=y) (by simp);simp only [V1] at h1;simp only [rel,M2] at hn
   rcases hn with hn | hn
   . unfold jQ at hn
     rcases T2.1 hn with rfl | hn
     . exact ⟨a1,a2,hk,h0,by show f<=_; omega⟩
     . split at hn
       . rcases T2.1 hn with rfl | hn
         . exact ⟨a2,a1,hk,h0,by show f<=_; omega⟩
         . simp at hn
       . simp at hn
   . exact ia hk xs ys (f + 1) (by omega) (by omega) (jA fun z hz=>dp hx (by simp [hz])) (jA fun z hz=>dp hy (by simp [hz])) n hn
 | [],_,_,_,_,_,_,n,hn=>by simp [rel] at hn
 | _ :: _,[],_,_,_,_,_,n,hn=>by simp [rel] at hn
theorem Ec {R r:Int} {m:Bool} {xa xb:List St} (hr:0<=r/\r < R) (hl:xa.length<=30) (hx:rin R xa=false) (hy:rin R xb=false):∀ n∈(lo r m xa xb).1,Gd R n:=by
 intro n hn;unfold lo at hn;split at hn
 . rename_i hs;have:=tG hs;cases xb with
   | nil=>simp at this
   | cons y ys =>
     rcases T2.1 hn with rfl | hn
     . exact ⟨hr,dp hy (x:=y) (by simp),by simp,by simp⟩
     . exact ia (by decide) xa _ 1 (by omega) (by omega) hx (jA fun z hz=>dp hy (V7 hz)) n hn
 . simp at hn
theorem D9 {R r:Int} {m:Bool} {xa xb:List St} (hr:0<=r/\r < R) (hl:xa.length<=30) (hx:rin R xa=false) (hy:rin R xb=false):∀ n∈(ag r m xa xb).1,Gd R n:=by
 intro n hn;unfold ag at hn;split at hn
 . split at hn
   . simp at hn
   . rename_i x xs y ys _;simp only [V1] at hl
     rcases T2.1 hn with rfl | hn
     . exact ⟨dp hx (by simp),hr,by simp,by simp⟩
     . rcases T2.1 hn with rfl | hn
       . exact ⟨hr,dp hy (by simp),by simp,by simp⟩
       . exact ia (by decide) xs ys 1 (by omega) (by omega) (jA fun z hz=>dp hx (by simp [hz])) (jA fun z hz=>dp hy (by simp [hz])) n hn
 . simp at hn
theorem jh {α:Type} {l:List α} {i:Int} {x:α} (h:aa l i=some x):x∈l:=V8 (dE h).2.1
theorem ve (x:Stm) (xb:List (List St)) (xc:Int) (hb:∀ t∈xb,t.length<=20):∃ l e,fi x xb xc=some (l,e)/\ck x xb xc=some (l,e)/\l.length<=1000/\((∀ t∈xb,rin xc t=false)->∀ n∈l,Gd xc n):=by
 obtain ⟨k,d,s,r,m⟩:=x;unfold fi ck;have g1:gR k=some (aF k):=rfl;have g2:gO k=some (aE k):=rfl;have g3:gq k=some (aD k):=rfl;have g4 (d:Int):mQ d xb=some (loc xb d):=rfl;simp only [yb,nS,M0,g1,g2,g3,g4,xL];cases hf:fOk (k,d,s,r,m) with
 | false=>exact ⟨[],3,rfl,rfl,by simp,by simp⟩
 | true =>
   have hk:k=0\/k=1\/k=2\/k=3\/k=4\/k=5:=by
     unfold fOk at hf;simp only [Q0] at hf;exact six (by simpa using hf.1.1.1)
   have bad:∃ l e,(some (([]:List Nd),(7:Int)):Option (List Nd×Int))=some (l,e)/\(some (([]:List Nd),(7:Int)):Option (List Nd×Int))=some (l,e)/\l.length<=1000/\((∀ t∈xb,rin xc t=false)->∀ n∈l,Gd xc n):=⟨[],7,rfl,rfl,by simp,by simp⟩
   have good:∃ l e,(some (([]:List Nd),(0:Int)):Option (List Nd×Int))=some (l,e)/\(some (([]:List Nd),(0:Int)):Option (List Nd×Int))=some (l,e)/\l.length<=1000/\((∀ t∈xb,rin xc t=false)->∀ n∈l,Gd xc n):=⟨[],0,rfl,rfl,by simp,by simp⟩
   rcases hk with rfl | rfl | rfl | rfl | rfl | rfl
   . simpa [aF,aE,aD] using good
   . have e1:aF 1=true:=rfl;have e2:aE 1=true:=rfl;have e3:aD 1=false:=rfl;cases h1:loc xb d with
     | false=>simpa [e1,e2,e3,h1] using bad
     | true =>
       cases h2:loc xb s with
       | false=>simpa [e1,e2,e3,h1,h2] using bad
       | true =>
         obtain ⟨t1,a1,b1⟩:=cR h1 hb;obtain ⟨t2,a2,b2⟩:=cR h2 hb;simp [e1,e2,e3,h1,h2,a1,a2];rw [nQ _ _ _ _ (by omega) (by omega) (by omega),fu _ _ _ _ (by omega) (by omega) (by omega)];have hr:=cD 1 t2 t1 0;by_cases q:shp t2 t1=true
         . exact ⟨rel 1 0 t2 t1,0,by simp [q],by simp [q],by omega,fun hg=>by simpa using ia (kind:=1) (by decide) t2 t1 0 (by omega) (by omega) (hg _ (jh a2)) (hg _ (jh a1))⟩
         . exact ⟨[],8,by simp [q],by simp [q],by simp,by simp⟩
   all_goals try
     (have e1:aF 4=false:=rfl
      have e2:aE 4=true:=rfl;have e3:aD 4=false:=rfl;cases h2:loc xb s with
      | false=>simpa [e1,e2,e3,h2] using bad
      | true=>simpa [e1,e2,e3,h2] using good)
   all_goals try
     (have e1:aF 5=true:=rfl
      have e2:aE 5=false:=rfl;have e3:aD 5=false:=rfl;cases h2:loc xb d with
      | false=>simpa [e1,e2,e3,h2] using bad
      | true=>simpa [e1,e2,e3,h2] using good)
   . have e1:aF 2=true:=rfl;have e2:aE 2=true:=rfl;have e3:aD 2=true:=rfl;cases h1:loc xb d with
     | false=>simpa [e1,e2,e3,h1] using bad
     | true =>
       cases h2:loc xb s with
       | false=>simpa [e1,e2,e3,h1,h2] using bad
       | true =>
         cases h3:(decide (r < 0)||decide (xc<=r)) with
         | true=>simpa [e1,e2,e3,h1,h2,h3] using bad
         | false =>
           obtain ⟨t1,a1,b1⟩:=cR h1 hb;obtain ⟨t2,a2,b2⟩:=cR h2 hb;have hq:=Dn r m t2 t1 (by omega);refine ⟨(lo r m t2 t1).1,(lo r m t2 t1).2,?_,?_,by omega,fun hg=>Ec (by simp at h3; omega) (by omega) (hg _ (jh a2)) (hg _ (jh a1))⟩
           . simp [e1,e2,e3,h1,h2,h3,a1,a2,BN t2 t1 r m (by omega)]
           . simp [e1,e2,e3,h1,h2,h3,a1,a2,vN t2 t1 r m (by omega)]
   . have e1:aF 3=true:=rfl;have e2:aE 3=true:=rfl;have e3:aD 3=true:=rfl;cases h1:loc xb d with
     | false=>simpa [e1,e2,e3,h1] using bad
     | true =>
       cases h2:loc xb s with
       | false=>simpa [e1,e2,e3,h1,h2] using bad
       | true =>
         cases h3:(decide (r < 0)||decide (xc<=r)) with
         | true=>simpa [e1,e2,e3,h1,h2,h3] using bad
         | false =>
           obtain ⟨t1,a1,b1⟩:=cR h1 hb;obtain ⟨t2,a2,b2⟩:=cR h2 hb;have hq:=CE r m t2 t1 (by omega);refine ⟨(ag r m t2 t1).1,(ag r m t2 t1).2,?_,?_,by omega,fun hg=>D9 (by simp at h3; omega) (by omega) (hg _ (jh a2)) (hg _ (jh a1))⟩
           . simp [e1,e2,e3,h1,h2,h3,a1,a2,Ba t2 t1 r m (by omega)]
           . simp [e1,e2,e3,h1,h2,h3,a1,a2,vu t2 t1 r m (by omega)]
section
open Go.RowKit Lb
def ce (r:Int) (m:Bool):Int:=2 * r + if m then 1 else 0
def cK (x:Stm):List UInt8:=bJ [true,aF x.1,aE x.1,aD x.1] [x.1,x.2.1,x.2.2.1,ce x.2.2.2.1 x.2.2.2.2]
theorem Ee {r:Int} {m:Bool} (h0:0<=r) (h1:r < 2147483648):(cond m (some (IntKind.wrap .i64 ((IntKind.wrap .i64 (2 * r)) + 1))) (some (IntKind.wrap .i64 (2 * r))):Option Int)=some (ce r m):=by
 rw [w64 (x:=2 * r) (by omega) (by omega),w64 (x:=2 * r + 1) (by omega) (by omega)];cases m <;> simp [ce]
def aI (l:List UInt8):Int×Int×Int×Int×Bool×Int×Int :=
 if (take l).2.2≠0 then (0,0,0,0,false,0,(take l).2.2)
 else if 5 < (take l).1 then (0,0,0,0,false,0,3)
 else if (aO [aF (take l).1,aE (take l).1,aD (take l).1] (l.drop (take l).2.1.toNat)).1≠0 then (0,0,0,0,false,0,(aO [aF (take l).1,aE (take l).1,aD (take l).1] (l.drop (take l).2.1.toNat)).1)
 else let N:=aO [aF (take l).1,aE (take l).1,aD (take l).1] (l.drop (take l).2.1.toNat); ((take l).1,N.2.1.getD 0 0,N.2.1.getD 1 0,N.2.1.getD 2 0 / 2,decide (N.2.1.getD 2 0 % 2=1),(take l).2.1 + N.2.2,0)
theorem Fx (has:Bool) (e:Int) (l:List UInt8) (k:Nat) (h:k<=l.length) (hl:l.length<=1073741824) :
   d5 has e l (k:Int)=some (if has=true/\e=0 then ((take (l.drop k)).1,(take (l.drop k)).2.2,(k:Int) + (take (l.drop k)).2.1) else (0,e,(k:Int))):=by
 unfold d5;cases has with
 | false=>simp
 | true =>
   by_cases he:e=0
   . subst he;simp only [X0,decide_true,Z7,cond_false,lr l k h,M0,true_and,if_true];rw [gX _ (by simp; omega)]
     rcases db (l.drop k) with ⟨n,m,ht,_,_,m0,m1,_⟩ | ⟨e,ht,he⟩
     . simp only [T0] at m1;simp only [ht,M0];rw [w64 (by omega) (by omega)]
     . simp only [ht,M0];rw [w64 (by omega) (by omega)]
   . simp [he]
theorem vB (l:List UInt8) (hl:l.length<=1073741824):kS l=some (aI l):=by
 unfold kS aI;rw [gX l hl]
 rcases db l with ⟨k,m,ht,k0,k1,m0,m1,_⟩ | ⟨e,ht,he⟩
 . rw [ht,M0];simp only [decide_true,X0,cond_false,ne_eq,not_true_eq_false,if_false,O1,vx];by_cases h5:5 < k
   . have:(decide (0<=k)&&decide (k<=5))=false:=by simp; omega
     simp [this,h5]
   . have : (decide (0 <= k) && decide (k <= 5)) = true := by simp; omega
     simp only [this,if_true,if_neg h5,M0,X0,cond_false];have st:=Fx (l:=l) (hl:=hl);have fin (n r:Int) (hr:0<=r):IntKind.wrap .i64 (aq0 r 2)=r / 2\/¬ r<=4294967295:=by
       by_cases q:r<=4294967295
       . left; rw [X9 hr,w64 (by omega) (by omega)]
       . exact .inr q
     have tw (r:Int) (hr:0<=r) (hr2:r<=4294967295):IntKind.wrap .i64 (aq0 r 2)=r / 2/\aB0 r 2=r % 2:=by
       constructor
       . rw [X9 hr,w64 (by omega) (by omega)]
       . exact aP0 hr
     have z0:IntKind.wrap .i64 0=0:=by decide
     have dr (a b:Nat):(l.drop a).drop b=l.drop (a + b):=by rw [M4]
     have no (b:Bool) (e:Int) (q:Nat) (he:e≠0) (hq:q<=l.length):d5 b e l (q:Int)=some (0,e,(q:Int)):=by
       rw [st _ _ _ hq,if_neg (by simp [he])]
     have ye (e:Int) (q:Nat) (hq:q<=l.length):d5 false e l (q:Int)=some (0,e,(q:Int)):=by
       rw [st _ _ _ hq,if_neg (by simp)]
     have ys (q:Nat) (hq:q<=l.length):d5 true 0 l (q:Int)=some ((take (l.drop q)).1,(take (l.drop q)).2.2,(q:Int) + (take (l.drop q)).2.1):=by
       rw [st _ _ _ hq,if_pos (by simp)]
     have am (a b:Nat):(a:Int) + (b:Int)=((a + b:Nat):Int):=by omega
     have tz (q:Nat):(q:Int) + 0=(q:Int):=by omega
     have i0:decide ((0:Int) % 2=1)=false:=by decide
     have dd:(0:Int) / 2=0:=by decide
     cases h1:aF k <;> cases h2:aE k <;> cases h3:aD k <;>
       simp only [aO,ye _ _ m1,M0,N2,if_false]
     all_goals
       first
       | simp [z0]; done
       | (rw [ys m m1,M0]
          rcases db (l.drop m) with ⟨n2,q2,t2,a2,b2,c2,d2,_⟩ | ⟨e2,t2,f2⟩
          . simp only [T0] at d2;have g2:m + q2<=l.length:=by omega
            have w2:=tw n2 a2 b2;simp only [t2,ne_eq,not_true_eq_false,if_false,O1,am,dr,ye _ _ g2,M0,decide_true,X0,cond_false]
            first
            | simp [z0,w2]; done
            | (rw [ys _ g2,M0]
               rcases db (l.drop (m + q2)) with ⟨n3,q3,t3,a3,b3,c3,d3,_⟩ | ⟨e3,t3,f3⟩
               . simp only [T0] at d3;have g3:m + q2 + q3<=l.length:=by omega
                 have w3:=tw n3 a3 b3;simp only [t3,ne_eq,not_true_eq_false,if_false,O1,am,dr,ye _ _ g3,M0,decide_true,X0,cond_false]
                 first
                 | (simp [z0,w3,V2]; done)
                 | (rw [ys _ g3,M0]
                    rcases db (l.drop (m + q2 + q3)) with ⟨n4,q4,t4,a4,b4,c4,d4,_⟩ | ⟨e4,t4,f4⟩
                    . have w4:=tw n4 a4 b4;simp only [t4,ne_eq,not_true_eq_false,if_false,O1,am,dr,M0];simp [z0,w4,V2]; done
                    . simp [t4,f4])
               . simp only [t3,ne_eq,f3,not_false_eq_true,if_true,tz,no _ _ _ f3 g2,M0];simp [f3])
          . simp only [t2,ne_eq,f2,not_false_eq_true,if_true,tz,no _ _ _ f2 m1,M0];simp [f2])
 . rw [ht,M0]; simp [he]
theorem CS (l:List UInt8) (h:(aI l).2.2.2.2.2.2=0):∃ (m:Nat),(aI l).2.2.2.2.2.1=(m:Int)/\m<=l.length/\fOk ((aI l).1,(aI l).2.1,(aI l).2.2.1,(aI l).2.2.2.1,(aI l).2.2.2.2.1)=true/\0<=(aI l).2.2.2.1/\(aI l).2.2.2.1 < 2147483648/\cK ((aI l).1,(aI l).2.1,(aI l).2.2.1,(aI l).2.2.2.1,(aI l).2.2.2.2.1)=l.take m/\okN (aI l).2.1/\okN (aI l).2.2.1:=by
 rcases db l with ⟨k,m,ht,k0,k1,m0,m1,hp⟩ | ⟨e,ht,he⟩
 . unfold aI at h ⊢;simp only [ht,ne_eq,not_true_eq_false,if_false,O1] at h ⊢;by_cases h5:5 < k
   . simp [h5] at h
   . simp only [if_neg h5] at h ⊢;have pn:=sh [aF k,aE k,aD k] (l.drop m);generalize aO [aF k,aE k,aD k] (l.drop m)=N at *;obtain ⟨e,ns,q⟩:=N;dsimp only at h ⊢ pn;by_cases he:e=0
     . subst he;obtain ⟨p1,p2,p3,p4⟩:=pn rfl
       rcases ns with _ | ⟨d,_ | ⟨s,_ | ⟨r,_ | ⟨_,_⟩⟩⟩⟩
       case cons.cons.cons.nil =>
         have a0:=p4 0 (by simp) (by simp);have a1:=p4 1 (by simp) (by simp);have a2:=p4 2 (by simp) (by simp);simp only [T0] at p1;simp at a0 a1 a2;simp only [not_true_eq_false,if_false,bw0,bx0];refine ⟨m + q,by omega,by omega,?_,by omega,by omega,?_,⟨by omega,by omega⟩,⟨by omega,by omega⟩⟩
         . unfold fOk;have hk:(decide (0<=k)&&decide (k<=5))=true:=by simp; omega
           try dsimp only
           rw [hk];cases c1:aF k <;> cases c2:aE k <;> cases c3:aD k <;> simp_all
         . unfold cK;have e2:ce (r / 2) (decide (r % 2=1))=r:=by
             unfold ce;by_cases q:r % 2=1
             . simp [q]; omega
             . simp [q]; omega
           try dsimp only
           rw [e2];simp only [bJ] at p2 ⊢;rw [hp,p2,Q7]
       all_goals simp at p3
     . simp only [he,not_false_eq_true,if_true] at h
 . unfold aI at h;simp [ht,he] at h
theorem Ch (x:Stm) (l:List UInt8) (hf:fOk x=true) (h1:0<=x.2.1) (h2:0<=x.2.2.1) (h3:0<=x.2.2.2.1) (g1:x.2.1<=4294967295) (g2:x.2.2.1<=4294967295) (g3:x.2.2.2.1 < 2147483648):aI (cK x++l)=(x.1,x.2.1,x.2.2.1,x.2.2.2.1,x.2.2.2.2,(((cK x).length:Nat):Int),0):=by
 obtain ⟨k,d,s,r,m⟩:=x;dsimp only at *;unfold fOk at hf;simp only [Q0] at hf;obtain ⟨⟨⟨⟨k0,k5⟩,f1⟩,f2⟩,f3⟩:=hf;simp at k0 k5;have pk:put k≠[]:=fun h=>by have:=(dJ k).1 h; omega
 have nb:0<=ce r m/\ce r m<=4294967295:=by unfold ce; cases m <;> simp <;> omega
 have hn:=wN [aF k,aE k,aD k] [d,s,ce r m] l rfl (by
   intro j j1 j2
   rcases j with _ | _ | _ | j
   . simp only [O9];refine ⟨fun _ h=>by have:=(dJ d).1 h; omega,fun h=>?_⟩;rw [h] at f1; simpa using f1
   . simp only [bh0,O9];refine ⟨fun _ h=>by have:=(dJ s).1 h; omega,fun h=>?_⟩;rw [h] at f2; simpa using f2
   . simp only [bh0,O9];refine ⟨fun _ h=>by have:=(dJ _).1 h; omega,fun h=>?_⟩;rw [h] at f3;simp at f3;simp [ce,f3.1,f3.2]
   . simp at j1; omega)
 have e:cK (k,d,s,r,m)=put k++bJ [aF k,aE k,aD k] [d,s,ce r m]:=rfl;have ht:=oo k pk (bJ [aF k,aE k,aD k] [d,s,ce r m]++l);have hl:=k9 k;have es:(size k).toNat=(put k).length:=by omega
 unfold aI;rw [e,O0,ht];simp only [ne_eq,not_true_eq_false,if_false,es,S5,hn,if_neg (show ¬ 5 < k by omega)];have er:ce r m / 2=r/\decide (ce r m % 2=1)=m:=by
   unfold ce;cases m <;> simp <;> omega
 simp only [bw0,bx0];rw [er.1,er.2,P0];simp only [Y5,true_and,and_true];omega
end
abbrev Sg:=Int×List (Int×Int)×List (List St)×List St
def aL (n:Int) (b:Int×Int):Bool:=(((decide (b.1 < 0))||(decide (n<=b.1)))||(decide (b.2 < 0)))||(decide (n<=b.2))
def lc (n:Int) (A:List (List St)):Unit⊕Int:=match A.findIdx? (fun t=>!decide (rck n t=0)) with | some k => .inr (rck n (A.getD k [])) | none => .inl ()
def chk (s:Sg):Int :=
 if s.1 < 0 then 7 else if 16 < s.1\/16 < s.2.1.length\/16 < s.2.2.1.length then 6 else if s.2.1.any (aL s.1) then 7
 else match lc s.1 s.2.2.1 with | .inr e=>e | .inl ()=>rck s.1 s.2.2.2
theorem sS (a:Int) (b c:Nat):(((decide (16 < a))||(decide (16 < ((b:Nat):Int))))||(decide (16 < ((c:Nat):Int))))=decide (16 < a\/16 < b\/16 < c):=by
 by_cases h1:16 < a <;> by_cases h2:16 < b <;> by_cases h3:16 < c <;> simp [h1,h2,h3] <;> omega
theorem tY {n:Int} {A:List (List St)} {body:Int->Option (Int⊕(Unit⊕Int))} (hn:A.length<=1000) (hb:∀ (k:Nat) (h:k < A.length),body (k:Int)=cond (!decide (rck n A[k]=0)) (some (.inr (.inr (rck n A[k])))) (some (.inl (IntKind.wrap .i64 ((k:Int) + 1))))) (he:body (A.length:Int)=some (.inr (.inl ()))):loop body 0=some (lc n A):=by
 rw [bv A (fun t=>!decide (rck n t=0)) (fun k => .inr (rck n (A.getD k []))) (.inl ()) ?_ he]
 . rfl
 . intro k hk;rw [hb k hk,ak hk (by omega:A.length<=9223372036854775807)];have:A.getD k []=A[k]:=by simp [S1,hk]
   rw [this];cases (!decide (rck n A[k]=0)) <;> rfl
theorem vr (s:Sg) (hr:s.2.2.2.length<=1000) (ha:∀ t∈s.2.2.1,t.length<=1000):da s=some (chk s):=by
 obtain ⟨n,B,A,R⟩:=s;unfold da chk;dsimp only at *;by_cases h0:n < 0
 . rw [decide_eq_true h0,if_pos h0]; rfl
 . rw [decide_eq_false h0,if_neg h0,cond_false,sS];by_cases h1:16 < n\/16 < B.length\/16 < A.length
   . rw [decide_eq_true h1,if_pos h1]; rfl
   . rw [decide_eq_false h1,if_neg h1,cond_false];rw [hI (body:=gv (n,B,A,R)) B (aL n) (.inr 7) (.inl ()) ?_ ?_]
     . cases hb:B.any (aL n) with
       | true=>rfl
       | false =>
         simp only [N2,if_false,M0];rw [tY (body:=gy (n,B,A,R)) (n:=n) (A:=A) (by omega) ?_ ?_]
         . rw [nI R n (by omega)];simp only [M0];cases lc n A <;> rfl
         . intro k hk;unfold gy;have:=ha A[k] (U0 hk);simp only [dlt hk,cond_true,ah hk,M0];rw [nI _ _ (by omega),M0]
         . simp [gy]
     . intro k hk;unfold gv kl;simp only [dlt hk,cond_true,ah hk,M0,ak hk (by omega:B.length<=9223372036854775807)];generalize B[k]=b;obtain ⟨b1,b2⟩:=b;have e (x:Int):(!((decide (0<=x))&&(decide (x < n))))=(decide (x < 0)||decide (n<=x)):=by
         by_cases p:x < 0 <;> by_cases q:n<=x <;> simp [p,q] <;> omega
       simp only [e,aL];by_cases p1:b1 < 0 <;> by_cases p2:n<=b1 <;> by_cases p3:b2 < 0 <;> by_cases p4:n<=b2 <;> simp [p1,p2,p3,p4]
     . simp [gv]
theorem vg (s:Sg):gE s=some (chk s):=by
 obtain ⟨n,B,A,R⟩:=s;unfold gE chk;dsimp only at *;by_cases h0:n < 0
 . rw [decide_eq_true h0,if_pos h0]; rfl
 . rw [decide_eq_false h0,if_neg h0,cond_false,sS];by_cases h1:16 < n\/16 < B.length\/16 < A.length
   . rw [decide_eq_true h1,if_pos h1]; rfl
   . rw [decide_eq_false h1,if_neg h1,cond_false];rw [hI (body:=m7 (n,B,A,R)) B (aL n) (.inr 7) (.inl ()) ?_ ?_]
     . cases hb:B.any (aL n) with
       | true=>rfl
       | false =>
         simp only [N2,if_false,M0];rw [tY (body:=m5 (n,B,A,R)) (n:=n) (A:=A) (by omega) ?_ ?_]
         . rw [nJ R n];simp only [M0];cases lc n A <;> rfl
         . intro k hk;unfold m5;simp only [dlt hk,cond_true,ah hk,M0];rw [nJ _ _,M0]
         . simp [m5]
     . intro k hk;unfold m7;simp only [dlt hk,cond_true,ah hk,M0,ak hk (by omega:B.length<=9223372036854775807)];generalize B[k]=b;show cond (aL n b) _ _=_;cases aL n b <;> rfl
     . simp [m7]
theorem dn {n:Int} {t:List St} (h:rck n t=0):t.length<=16/\rin n t=false:=by
 unfold rck at h;by_cases q:16 < t.length
 . rw [if_pos q] at h; cases h
 . rw [if_neg q] at h;cases hr:rin n t with
   | true=>rw [hr] at h; cases h
   | false=>exact ⟨by omega,rfl⟩
theorem se {s:Sg} (h:chk s=0):0<=s.1/\s.1<=16/\s.2.1.length<=16/\s.2.2.1.length<=16/\(∀ b∈s.2.1,aL s.1 b=false)/\(∀ t∈s.2.2.1,t.length<=16/\rin s.1 t=false)/\s.2.2.2.length<=16/\rin s.1 s.2.2.2=false:=by
 unfold chk at h;by_cases h0:s.1 < 0
 . rw [if_pos h0] at h; cases h
 . rw [if_neg h0] at h;by_cases h1:16 < s.1\/16 < s.2.1.length\/16 < s.2.2.1.length
   . rw [if_pos h1] at h; cases h
   . rw [if_neg h1] at h;cases hb:s.2.1.any (aL s.1) with
     | true=>rw [hb] at h; cases h
     | false =>
       rw [hb] at h;simp only [N2,if_false] at h;unfold lc at h;cases hf:s.2.2.1.findIdx? (fun t=>!decide (rck s.1 t=0)) with
       | some k =>
         rw [hf] at h;obtain ⟨hk,h2,_⟩:=R1.1 hf;have:s.2.2.1.getD k []=s.2.2.1[k]:=by simp [S1,hk]
         simp only [this] at h;simp [h] at h2
       | none =>
         rw [hf] at h;have hz:=U1.1 hf;refine ⟨by omega,by omega,by omega,by omega,fun b hb2=>?_,fun t ht=>dn (by simpa using hz t ht),(dn h).1,(dn h).2⟩;have:=W3.1 hb b hb2;simpa using this
theorem oG (names:List Int) (xs ys:List St):shp xs (ys.map (sbs names))=shp xs ys:=by
 unfold shp; rw [bm0]; rfl
theorem xH (names:List Int) (xs ys:List St):shp (xs.map (sbs names)) ys=shp xs ys:=by
 rw [hU,oG,hU]
def mis (A C:List (List St)) (k:Nat):Bool:=!shp (C.getD k []) (A.getD k [])
def fl (names:List Int) (A C:List (List St)) (j:Nat):List Nd:=rel 5 (16 * (j:Int)) (C.getD j []) ((A.getD j []).map (sbs names))
def fls (names:List Int) (A C:List (List St)):Nat->List Nd
 | 0=>[]
 | k + 1=>fls names A C k++fl names A C k
theorem jl (names:List Int) (A C:List (List St)) (hc:∀ t∈C,t.length<=20):∀ k,(fls names A C k).length<=40 * k
 | 0=>by simp [fls]
 | k + 1=>by
   have ih:=jl names A C hc k;have h1:=cD 5 (C.getD k []) ((A.getD k []).map (sbs names)) (16 * (k:Int));have h2:(C.getD k []).length<=20:=by
     by_cases h:k < C.length
     . have:C.getD k []=C[k]:=by simp [S1,h]
       rw [this]; exact hc _ (U0 h)
     . have:C.getD k []=[]:=by simp [S1,R3 (bF0.1 h)]
       rw [this]; simp
   simp only [fls,P0,fl];omega
def bds (names:List Int) (B:List (Int×Int)):Nat->List Nd
 | 0=>[]
 | k + 1=>bds names B k++[(names.getD (B.getD k (0,0)).1.toNat 0,names.getD (B.getD k (0,0)).2.toNat 0,4,(k:Int),false)]
theorem js (names:List Int) (B:List (Int×Int)):∀ k,(bds names B k).length=k
 | 0=>rfl
 | k + 1=>by simp [bds,js names B k]
def csp (s:Sg) (names:List Int) (C:List (List St)) (D:List St):List Nd×Int :=
 if chk s≠0 then ([],chk s)
 else if ¬ (names.length:Int)=s.1\/¬ C.length=s.2.2.1.length then ([],2)
 else if (U3 s.2.2.1.length).any (mis s.2.2.1 C) then ([],8)
 else if shp D s.2.2.2 then (bds names s.2.1 s.2.1.length++fls names s.2.2.1 C s.2.2.1.length++rel 6 0 (s.2.2.2.map (sbs names)) D,0) else ([],8)
theorem vm {names:List Int} {n:Int} {B:List (Int×Int)} {body:(List Nd×Int)->Option ((List Nd×Int)⊕List Nd)} (hB:B.length<=16) (hn:(names.length:Int)=n) (hb:∀ b∈B,aL n b=false)
   (hgo:∀ (l:List Nd) (k:Nat) (h:k < B.length),body (l,(k:Int))=((aa names B[k].1).bind fun x=>(aa names B[k].2).bind fun y=>(app l [(x,y,4,(k:Int),false)]).bind fun z=>some (.inl (z,IntKind.wrap .i64 ((k:Int) + 1))))) (he:∀ l,body (l,(B.length:Int))=some (.inr l)) :
   loop body ([],0)=some (bds names B B.length):=by
 refine bd (body:=body) (fun k=>(bds names B k,(k:Int))) B.length ?_ (he _);intro k hk;have h1:=hb B[k] (U0 hk);have e:B.getD k (0,0)=B[k]:=by simp [S1,hk]
 unfold aL at h1;simp at h1;rw [hgo _ k hk,oJ (by omega) (by omega),M0,oJ (by omega) (by omega),M0,aq (by simp [js]; omega),M0,ak hk (by omega)];simp only [bds,e]
theorem lw {names:List Int} {n:Int} {t:List St} (hn:(names.length:Int)=n) (h:rin n t=false):rin names.length t=false:=by rw [hn]; exact h
theorem BK (s:Sg) (names:List Int) (C:List (List St)) (D:List St) (hr:s.2.2.2.length<=20) (ha:∀ t∈s.2.2.1,t.length<=20) (hC:∀ t∈C,t.length<=20) (hD:D.length<=20) :
   kV s names C D=some (csp s names C D):=by
 have hck:=vr s (by omega) (fun t ht=>by have:=ha t ht; omega);unfold kV qT csp;rw [show da (s.1,s.2.1,s.2.2.1,s.2.2.2)=some (chk s) from hck];obtain ⟨n,B,A,R⟩:=s;dsimp only at *;by_cases h0:chk (n,B,A,R)=0
 . obtain ⟨n0, n1, hB, hA, hb, hat, hR, hrin⟩ := se h0;dsimp only at n0 n1 hB hA hb hat hR hrin;simp only [h0,M0,decide_true,X0,cond_false,ne_eq,not_true_eq_false,if_false];by_cases h1:¬ (names.length:Int)=n\/¬ C.length=A.length
   . have:((!decide ((((names.length:Nat):Int))=n))||(!decide ((((C.length:Nat):Int))=(((A.length:Nat):Int)))))=true:=by simp; omega
     rw [this,if_pos h1]; rfl
   . have:((!decide ((((names.length:Nat):Int))=n))||(!decide ((((C.length:Nat):Int))=(((A.length:Nat):Int)))))=false:=by simp; omega
     rw [this,if_neg h1,cond_false];have hn:(names.length:Int)=n:=by omega
     have hl:C.length=A.length:=by omega
     rw [hI (body:=mT (n,B,A,R) C) (U3 A.length) (mis A C) (.inr 8) (.inl ()) ?_ ?_]
     . cases hm:(U3 A.length).any (mis A C) with
       | true=>rfl
       | false =>
         simp only [N2,if_false,M0];rw [gW D R (by omega)];cases hs:shp D R with
         | false=>rfl
         | true =>
           simp only [M0,X0,cond_false,decide_true,if_true];rw [vm (body:=nt (n,B,A,R) names) hB hn hb ?_ ?_]
           . simp only [M0];have hfl:=bd (body:=kG (n,B,A,R) names C) (fun k=>(bds names B B.length++fls names A C k,(k:Int))) A.length (b:=bds names B B.length++fls names A C A.length) ?_ ?_
             . have hfl':loop (kG (n,B,A,R) names C) (bds names B B.length,0)=some (bds names B B.length++fls names A C A.length):=by
                 have e0:(bds names B B.length,(0:Int))=(bds names B B.length++fls names A C 0,((0:Nat):Int)):=by simp [fls]
                 rw [e0]; exact hfl
               have q1:=jl names A C hC A.length;have q2:=js names B B.length;have q3:=cD 6 (R.map (sbs names)) D 0;rw [U8] at q3;rw [hfl',M0,vw R names (by omega),lw hn hrin];simp only [N2,if_false,M0];rw [nQ _ _ _ _ (by simp; omega) (by omega) (by omega),xH,hU,hs];simp only [if_true,M0];rw [aq (by simp only [P0]; omega)];rfl
             . intro k hk;have hkC:k < C.length:=by omega
               have ht:=hat A[k] (U0 hk);have hc:=hC C[k] (U0 hkC);have e1:A.getD k []=A[k]:=by simp [S1,hk]
               have e2:C.getD k []=C[k]:=by simp [S1,hkC]
               have hsh:shp C[k] A[k]=true:=by
                 have:=W3.1 hm k (W8.2 hk);unfold mis at this;rw [e1,e2] at this;simpa using this
               have q1:=jl names A C hC k;have q2:=js names B B.length;have q3:=cD 5 C[k] (A[k].map (sbs names)) (16 * (k:Int));unfold kG;simp only [dlt hk,cond_true,ah hk,M0];rw [vw _ names (by omega),lw hn ht.2];simp only [N2,if_false,M0,ah hkC];rw [w64 (x:=16 * (k:Int)) (by omega) (by omega),nQ _ _ _ _ (by omega) (by omega) (by omega),oG,hsh];simp only [if_true,M0];rw [aq (by simp only [P0]; omega),M0,ak hk (by omega)];simp only [fls,fl,e1,e2,O0]
             . simp [kG]
           . intro l k hk;unfold nt;simp only [dlt hk,cond_true,ah hk,M0]
           . intro l; simp [nt]
     . intro k hk;simp only [bI0] at hk;have hkC:k < C.length:=by omega
       have e1:A.getD k []=A[k]:=by simp [S1,hk]
       have e2:C.getD k []=C[k]:=by simp [S1,hkC]
       have hc:=hC C[k] (U0 hkC);unfold mT;simp only [dlt hk,cond_true,ah hk,ah hkC,M0,List.getElem_range,mis,e1,e2,ak hk (by omega:A.length<=9223372036854775807)];rw [gW _ _ (by omega),M0];cases shp C[k] A[k] <;> rfl
     . simp [mT]
 . simp [h0]
theorem vF (s:Sg) (names:List Int) (C:List (List St)) (D:List St) (hr:s.2.2.2.length<=20) (ha:∀ t∈s.2.2.1,t.length<=20) (hC:∀ t∈C,t.length<=20) (hD:D.length<=20) :
   iU s names C D=some (csp s names C D):=by
 unfold iU csp;rw [show gE (s.1,s.2.1,s.2.2.1,s.2.2.2)=some (chk s) from vg s];obtain ⟨n,B,A,R⟩:=s;dsimp only at *;by_cases h0:chk (n,B,A,R)=0
 . obtain ⟨n0,n1,hB,hA,hb,hat,hR,hrin⟩:=se h0;dsimp only at n0 n1 hB hA hb hat hR hrin;simp only [h0,M0,decide_true,X0,cond_false,ne_eq,not_true_eq_false,if_false];by_cases h1:¬ (names.length:Int)=n\/¬ C.length=A.length
   . have:((!decide ((((names.length:Nat):Int))=n))||(!decide ((((C.length:Nat):Int))=(((A.length:Nat):Int)))))=true:=by simp; omega
     rw [this,if_pos h1]; rfl
   . have:((!decide ((((names.length:Nat):Int))=n))||(!decide ((((C.length:Nat):Int))=(((A.length:Nat):Int)))))=false:=by simp; omega
     rw [this,if_neg h1,cond_false];have hn:(names.length:Int)=n:=by omega
     have hl:C.length=A.length:=by omega
     rw [vm (body:=na (n,B,A,R) names) hB hn hb ?_ ?_]
     . simp only [M0];have q2:=js names B B.length;have hfl:=gZ (body:=kx (n,B,A,R) names C) (fun k=>mis A C k=true) (fun k=>(bds names B B.length++fls names A C k,(k:Int))) A.length (fun _ => .inr ([],8)) (.inl (bds names B B.length++fls names A C A.length)) ?_ ?_ ?_
       . have e0:(bds names B B.length,(0:Int))=(bds names B B.length++fls names A C 0,((0:Nat):Int)):=by simp [fls]
         rw [e0]
         rcases hfl with ⟨k,k1,k2,_,k3⟩ | ⟨k1,k3⟩
         . have:(U3 A.length).any (mis A C)=true:=R6.2 ⟨k,W8.2 k1,k2⟩;rw [k3,this]; rfl
         . have:(U3 A.length).any (mis A C)=false:=by
             rw [W3]; intro k hk; exact k1 k (W8.1 hk)
           rw [k3,this];have q1:=jl names A C hC A.length;have q3:=cD 6 (R.map (sbs names)) D 0;rw [U8] at q3;simp only [M0,N2,if_false];rw [rj R names (by omega),lw hn hrin];simp only [N2,if_false,M0];rw [fu _ _ _ _ (by simp; omega) (by omega) (by omega),xH,hU];cases hs:shp D R with
           | false=>rfl
           | true =>
             simp only [if_true,M0,decide_true,X0,cond_false];rw [aq (by simp only [P0]; omega)];rfl
       . intro k hk hp;have hkC:k < C.length:=by omega
         have ht:=hat A[k] (U0 hk);have hc:=hC C[k] (U0 hkC);have e1:A.getD k []=A[k]:=by simp [S1,hk]
         have e2:C.getD k []=C[k]:=by simp [S1,hkC]
         have hsh:shp C[k] A[k]=true:=by
           unfold mis at hp;rw [e1,e2] at hp;simpa using hp
         have q1:=jl names A C hC k;have q3:=cD 5 C[k] (A[k].map (sbs names)) (16 * (k:Int));unfold kx;simp only [dlt hk,cond_true,ah hk,M0];rw [rj _ names (by omega),lw hn ht.2];simp only [N2,if_false,M0,ah hkC];rw [w64 (x:=16 * (k:Int)) (by omega) (by omega),fu _ _ _ _ (by omega) (by omega) (by omega),oG,hsh];simp only [if_true,M0,decide_true,X0,cond_false];rw [aq (by simp only [P0]; omega),M0,ak hk (by omega)];simp only [fls,fl,e1,e2,O0]
       . intro k hk hp;have hkC:k < C.length:=by omega
         have ht:=hat A[k] (U0 hk);have hc:=hC C[k] (U0 hkC);have e1:A.getD k []=A[k]:=by simp [S1,hk]
         have e2:C.getD k []=C[k]:=by simp [S1,hkC]
         have hsh:shp C[k] A[k]=false:=by
           unfold mis at hp;rw [e1,e2] at hp;simpa using hp
         unfold kx;simp only [dlt hk,cond_true,ah hk,M0];rw [rj _ names (by omega),lw hn ht.2];simp only [N2,if_false,M0,ah hkC];rw [w64 (x:=16 * (k:Int)) (by omega) (by omega),fu _ _ _ _ (by omega) (by omega) (by omega),oG,hsh];rfl
       . simp [kx]
     . intro l k hk;unfold na;simp only [dlt hk,cond_true,ah hk,M0]
     . intro l; simp [na]
 . simp [h0]
theorem DZ (s:Sg) (names:List Int) (C:List (List St)) (D:List St) (hs:s.2.1.length<=20/\s.2.2.1.length<=20/\s.2.2.2.length<=20) (hC:∀ t∈C,t.length<=20):(csp s names C D).1.length<=4000:=by
 have q1:=jl names s.2.2.1 C hC s.2.2.1.length;have q2:=js names s.2.1 s.2.1.length;have q3:=cD 6 (s.2.2.2.map (sbs names)) D 0;rw [U8] at q3;unfold csp;split
 . simp
 . split
   . simp
   . split
     . simp
     . split
       . simp only [P0]; omega
       . simp
abbrev Tm:=Int×Int×Int×List Int×List Int×List Int
def dv (x:Tm):Bool:=((!decide (x.2.1=0))||(!decide (x.2.2.1=0)))||(decide (0 < x.2.2.2.2.2.length))
def dw (x:Tm):Bool :=
 if x.1=1 then decide (x.2.2.2.1.length=1)&&decide (x.2.2.2.2.1.length=0)&&!dv x
 else if x.1=2 then decide (0 < x.2.2.2.1.length)&&!dv x
 else if x.1=3 then decide (x.2.2.2.1.length=0)&&decide (x.2.2.2.2.1.length=0)&&!dv x
 else if x.1=4 then decide (x.2.2.2.1.length=1) else false
def aB (x:Tm):Int:=if dw x=true then if 16 < x.2.2.2.1.length\/16 < x.2.2.2.2.1.length\/16 < x.2.2.2.2.2.length then 6 else 0 else 3
theorem bnd (a b:Bool):(cond a (some b) (some false):Option Bool)=some (a&&b):=by cases a <;> rfl
theorem dn1 (n:Nat):decide ((n:Int)=1)=decide (n=1):=by by_cases h:n=1 <;> simp [h] <;> omega
theorem dn0 (n:Nat):decide ((n:Int)=0)=decide (n=0):=by by_cases h:n=0 <;> simp [h] <;> omega
theorem dp0 (n:Nat):decide (0 < (n:Int))=decide (0 < n):=by by_cases h:0 < n <;> simp [h] <;> omega
theorem d16 (n:Nat):decide (16 < (n:Int))=decide (16 < n):=by by_cases h:16 < n <;> simp [h] <;> omega
theorem rV (x:Tm):fq x=some (aB x):=by
 obtain ⟨k,g,d,tos,args,ps⟩:=x;have hc:iW (k,g,d,tos,args,ps)=some (dv (k,g,d,tos,args,ps)):=by unfold iW dv; simp only [dp0]
 unfold fq aB;have hr:∀ b:Bool,(cond (!b) (some 3) (cond (((decide (16 < ((tos.length:Nat):Int)))||(decide (16 < ((args.length:Nat):Int))))||(decide (16 < ((ps.length:Nat):Int)))) (some 6) (some 0)):Option Int)=some (if b=true then if 16 < tos.length\/16 < args.length\/16 < ps.length then 6 else 0 else 3):=by
   intro b;cases b with
   | false=>rfl
   | true =>
     simp only [d16,X0,cond_false,if_true];by_cases h1:16 < tos.length <;> by_cases h2:16 < args.length <;> by_cases h3:16 < ps.length <;> simp [h1,h2,h3]
 dsimp only at *;have hm:∀ (m:Option Bool) (b:Bool),m=some b->(m.bind fun t194=>cond (!t194) (some 3) (cond (((decide (16 < ((tos.length:Nat):Int)))||(decide (16 < ((args.length:Nat):Int))))||(decide (16 < ((ps.length:Nat):Int)))) (some 6) (some 0)):Option Int)=some (if b=true then if 16 < tos.length\/16 < args.length\/16 < ps.length then 6 else 0 else 3):=by
   rintro _ b rfl; exact hr b
 refine hm _ _ ?_;simp only [hc,M0,dn1,dn0,dp0];unfold dw;dsimp only;by_cases k1:k=1
 . simp [k1,bnd,aV0]
 . by_cases k2:k=2
   . simp [k2,bnd,aV0]
   . by_cases k3:k=3
     . simp [k3,bnd,aV0]
     . by_cases k4:k=4
       . simp [k4]
       . simp [k1,k2,k3,k4]
theorem jc {x:Tm} (h:aB x=0):dw x=true/\x.2.2.2.1.length<=16/\x.2.2.2.2.1.length<=16/\x.2.2.2.2.2.length<=16:=by
 unfold aB at h;split at h
 . split at h
   . cases h
   . rename_i q; exact ⟨by assumption,by omega,by omega,by omega⟩
 . cases h
theorem Cq (xa:List Int) (n:Int) (hn:xa.length<=1073741824):cZ xa n=some (!xa.any (fun x=>decide (x < 0)||decide (n<=x))):=by
 unfold cZ;rw [hI (body:=mU xa n) xa (fun x=>decide (x < 0)||decide (n<=x)) (.inr false) (.inl ()) ?_ ?_]
 . cases xa.any (fun x=>decide (x < 0)||decide (n<=x)) <;> rfl
 . intro k hk;unfold mU;by_cases q:xa[k] < 0 <;> by_cases q2:n<=xa[k] <;> simp [hk,ah hk,ak hk (by omega:xa.length<=9223372036854775807),q,q2]
 . simp [mU]
theorem nM (x:Tm):fh x=some (aB x):=by
 obtain ⟨k,g,d,tos,args,ps⟩:=x;unfold fh aB dw dv;dsimp only;simp only [dn1,dn0,d16,dp0];have hps:decide (0 < ps.length) = !decide (ps.length=0):=by by_cases h:ps.length=0 <;> simp [h] <;> omega
 have hto:decide (0 < tos.length) = !decide (tos.length=0):=by by_cases h:tos.length=0 <;> simp [h] <;> omega
 rw [hps,hto];have last:(cond (((decide (16 < tos.length))||(decide (16 < args.length)))||(decide (16 < ps.length))) (some 6) (some 0):Option Int)=some (if 16 < tos.length\/16 < args.length\/16 < ps.length then 6 else 0):=by
   by_cases h1:16 < tos.length <;> by_cases h2:16 < args.length <;> by_cases h3:16 < ps.length <;> simp [h1,h2,h3]
 rw [last];generalize (if 16 < tos.length\/16 < args.length\/16 < ps.length then (6:Int) else 0)=z;generalize decide (tos.length=1)=t1;generalize decide (tos.length=0)=t0;generalize decide (args.length=0)=a0;generalize decide (ps.length=0)=p0;generalize decide (g=0)=g0;generalize decide (d=0)=d0;by_cases k1:k=1
 . subst k1; cases t1 <;> cases t0 <;> cases a0 <;> cases p0 <;> cases g0 <;> cases d0 <;> simp
 . by_cases k2:k=2
   . subst k2; cases t1 <;> cases t0 <;> cases a0 <;> cases p0 <;> cases g0 <;> cases d0 <;> simp
   . by_cases k3:k=3
     . subst k3; cases t1 <;> cases t0 <;> cases a0 <;> cases p0 <;> cases g0 <;> cases d0 <;> simp
     . by_cases k4:k=4
       . subst k4; cases t1 <;> cases t0 <;> cases a0 <;> cases p0 <;> cases g0 <;> cases d0 <;> simp
       . have:(decide (k < 1)||decide (4 < k))=true:=by simp; omega
         simp [this,k1,k2,k3,k4]
theorem Ag {xa:List (List St)} {body:Int->Option (Int⊕(Unit⊕Bool))} (hn:xa.length<=1000) (hb:∀ i,body i=cond (decide (i < (((xa.length:Nat):Int)))) ((aa xa i).bind fun x=>(gQ x 20).bind fun t=>cond (!t) (some (.inr ((.inr (false))))) (some (.inl (IntKind.wrap .i64 (i + 1))))) (some (.inr ((.inl ()))))) :
   loop body 0=some (if xa.any (fun t=>!decide (t.length<=20)) then (aK0 false:Unit⊕Bool) else .inl ()):=by
 refine hI (β:=Unit⊕Bool) xa (fun t=>!decide (t.length<=20)) (.inr false) (.inl ()) ?_ ?_
 . intro k hk;rw [hb];simp only [dlt hk,cond_true,ah hk,M0,ak hk (by omega:xa.length<=9223372036854775807),tv];by_cases q:xa[k].length<=20
   . have:decide (((xa[k].length:Nat):Int)<=20)=true:=by simp; omega
     simp [this,q]
   . have:decide (((xa[k].length:Nat):Int)<=20)=false:=by simp; omega
     simp [this,q]
 . rw [hb]; simp
theorem xN {xa:List (List St)} (h:xa.any (fun t=>!decide (t.length<=20))=false):∀ t∈xa,t.length<=20:=by
 intro t ht;have:=W3.1 h t ht;simpa using this
theorem zr (s:Sg):fj s=some false\/(fj s=some true/\s.2.1.length<=20/\s.2.2.1.length<=20/\s.2.2.2.length<=20/\∀ t∈s.2.2.1,t.length<=20):=by
 unfold fj;by_cases h:20 < s.2.1.length\/20 < s.2.2.1.length
 . have:((decide (20 < (((s.2.1.length:Nat):Int))))||(decide (20 < (((s.2.2.1.length:Nat):Int)))))=true:=by simp; omega
   rw [this]; exact .inl rfl
 . have:((decide (20 < (((s.2.1.length:Nat):Int))))||(decide (20 < (((s.2.2.1.length:Nat):Int)))))=false:=by simp; omega
   rw [this,cond_false,tv];by_cases q:s.2.2.2.length<=20
   . have e:decide (((s.2.2.2.length:Nat):Int)<=20)=true:=by simp; omega
     simp only [M0,e,X0,cond_false];rw [Ag (body:=uV s) (xa:=s.2.2.1) (by omega) (fun i=>rfl)];cases hf:s.2.2.1.any (fun t=>!decide (t.length<=20)) with
     | true=>exact .inl rfl
     | false=>exact .inr ⟨rfl,by omega,by omega,q,xN hf⟩
   . have e:decide (((s.2.2.2.length:Nat):Int)<=20)=false:=by simp; omega
     simp only [M0,e]; exact .inl rfl
def bad (n:Int) (xa:List Int):Bool:=xa.any (fun x=>decide (x < 0)||decide (n<=x))
theorem ri (xa:List Int) (n:Int) (hn:xa.length<=1000):iC xa n=some (bad n xa):=by
 unfold iC qu;rw [bv (body:=mw xa n) xa (fun x=>decide (x < 0)||decide (n<=x)) (fun k => .inr (k:Int)) (.inl ()) ?_ ?_]
 . rcases vI xa (fun x=>decide (x < 0)||decide (n<=x)) with ⟨k,h1,h2⟩ | ⟨h1,h2⟩
   . rw [h1]; unfold bad; simp [h2]
   . rw [h1]; unfold bad; simp [h2]
 . intro k hk;unfold mw iG;simp only [dlt hk,cond_true,ah hk,M0,ak hk (by omega:xa.length<=9223372036854775807)];cases (decide (xa[k] < 0)||decide (n<=xa[k])) <;> rfl
 . simp [mw]
theorem ej (xa:List Int) (n:Int) (hn:xa.length<=1000):cZ xa n=some (!bad n xa):=Cq xa n (by omega)
abbrev Ar:=Int×Int×List (List St)×List St×List Sg
theorem Cw {x:Tm} {a:Ar} (hx:x.2.2.2.2.1.length<=20) (hb:bad (a.2.2.1.length:Int) x.2.2.2.2.1=false) (hL:∀ t∈a.2.2.1,t.length<=20) :
   ∃ C:List (List St),loop (iM x a) ([],0)=some C/\(∀ t∈C,t.length<=20)/\∀ t∈C,t∈a.2.2.1:=by
 have hin (k:Nat) (hk:k < x.2.2.2.2.1.length):0<=x.2.2.2.2.1[k]/\x.2.2.2.2.1[k] < (a.2.2.1.length:Int):=by
   have:=W3.1 hb _ (U0 hk);simp at this; omega
 have hl:=bd (body:=iM x a) (fun k:Nat=>((x.2.2.2.2.1.take k).map (fun i=>a.2.2.1.getD i.toNat []),(k:Int))) x.2.2.2.2.1.length (b:=x.2.2.2.2.1.map (fun i=>a.2.2.1.getD i.toNat [])) ?_ ?_
 . have hm:∀ t∈x.2.2.2.2.1.map (fun i=>a.2.2.1.getD i.toNat []),t∈a.2.2.1:=by
     intro t ht;obtain ⟨i,hi,rfl⟩:=Z4.1 ht;obtain ⟨k,hk,rfl⟩:=X3 hi;have h2:=hin k hk;have:x.2.2.2.2.1[k].toNat < a.2.2.1.length:=by omega
     have e:a.2.2.1.getD x.2.2.2.2.1[k].toNat []=a.2.2.1[x.2.2.2.2.1[k].toNat]:=by simp [S1,this]
     rw [e]; exact U0 _
   refine ⟨_,hl,fun t ht=>?_,hm⟩;obtain ⟨i,hi,rfl⟩:=Z4.1 ht;obtain ⟨k,hk,rfl⟩:=X3 hi;have h2:=hin k hk;have:x.2.2.2.2.1[k].toNat < a.2.2.1.length:=by omega
   have e:a.2.2.1.getD x.2.2.2.2.1[k].toNat []=a.2.2.1[x.2.2.2.2.1[k].toNat]:=by simp [S1,this]
   rw [e]; exact hL _ (U0 _)
 . intro k hk;have h2:=hin k hk;have h3:x.2.2.2.2.1[k].toNat < a.2.2.1.length:=by omega
   have e:a.2.2.1.getD x.2.2.2.2.1[k].toNat []=a.2.2.1[x.2.2.2.2.1[k].toNat]:=by simp [S1,h3]
   unfold iM;simp only [dlt hk,cond_true,ah hk,M0];rw [iv h2.1 h2.2,M0,aq (by simp; omega),M0,ak hk (by omega),bw hk,Y2];simp only [Z1,N6,e]
 . simp [iM]
theorem rI {R:Int} {names:List Int} (hR:0 < R) (hn:bad R names=false) (i:Nat):0<=names.getD i 0/\names.getD i 0 < R:=by
 by_cases q:i < names.length
 . have e:names.getD i 0=names[i]:=by simp [S1,q]
   rw [e];have:=W3.1 hn _ (U0 q);simp at this; omega
 . have e:names.getD i 0=0:=by simp [S1,R3 (bF0.1 q)]
   rw [e]; omega
theorem xv {R:Int} {names:List Int} (hR:0 < R) (hn:bad R names=false) {t:List St}:rin R (t.map (sbs names))=false:=by
 refine jA fun x hx=>?_
 obtain ⟨y,_,rfl⟩:=Z4.1 hx;exact rI hR hn _
theorem CI {R:Int} {s:Sg} {names:List Int} {C:List (List St)} {D:List St} (hR:0 < R) (hn:bad R names=false) (hC:∀ t∈C,t.length<=20/\rin R t=false) (hD:rin R D=false) (hs:s.2.1.length<=20/\s.2.2.1.length<=20/\s.2.2.2.length<=20):∀ n∈(csp s names C D).1,Gd R n:=by
 intro n h;unfold csp at h;split at h
 . simp at h
 split at h
 . simp at h
 split at h
 . simp at h
 split at h
 . have hb : ∀ k, k <= 20 -> ∀ n ∈ bds names s.2.1 k, Gd R n := by
     intro k
     induction k with
     | zero=>intro _ n hn; simp [bds] at hn
     | succ k ih =>
       intro hk n hn';simp only [bds,M2,X1] at hn'
       rcases hn' with hn' | rfl
       . exact ih (by omega) n hn'
       . exact ⟨rI hR hn _,rI hR hn _,by simp,by show (0:Int)<=(k:Int); omega,by show (k:Int)<=_; omega⟩
   have hf : ∀ k, k <= 20 -> ∀ n ∈ fls names s.2.2.1 C k, Gd R n := by
     intro k
     induction k with
     | zero=>intro _ n hn; simp [fls] at hn
     | succ k ih =>
       intro hk n hn';simp only [fls,M2] at hn'
       rcases hn' with hn' | hn'
       . exact ih (by omega) n hn'
       . unfold fl at hn';have hc:(C.getD k []).length<=20/\rin R (C.getD k [])=false:=by
           by_cases q:k < C.length
           . have e:C.getD k []=C[k]:=by simp [S1,q]
             rw [e]; exact hC _ (U0 q)
           . have e:C.getD k []=[]:=by simp [S1,R3 (bF0.1 q)]
             rw [e]; exact ⟨by simp,rfl⟩
         exact ia (by decide) _ _ _ (by omega) (by omega) hc.2 (xv hR hn) n hn'
   rcases M2.1 h with h | h
   . rcases M2.1 h with h | h
     . exact hb _ hs.1 n h
     . exact hf _ hs.2.1 n h
   . exact ia (by decide) _ _ 0 (by omega) (by simp; omega) (xv hR hn) hD n h
 . simp at h
theorem xY (x:Tm) (a:Ar) (l2:x.2.2.2.1.length<=20) (l3:x.2.2.2.2.1.length<=20) (l4:x.2.2.2.2.2.length<=20) (hR:a.2.2.2.1.length<=20) (hL:∀ t∈a.2.2.1,t.length<=20) (hS:∀ s∈a.2.2.2.2,s.2.1.length<=20/\s.2.2.1.length<=20/\s.2.2.2.length<=20/\∀ t∈s.2.2.1,t.length<=20) :
   ∃ l e,dA x a=some (l,e)/\cj x a=some (l,e)/\l.length<=4000/\((0 < a.2.1/\(∀ t∈a.2.2.1,rin a.2.1 t=false)/\rin a.2.1 a.2.2.2.1=false)->∀ n∈l,Gd a.2.1 n):=by
 have same:iJ x a=iM x a:=rfl;unfold dA cj;rw [show fq (x.1,x.2.1,x.2.2.1,x.2.2.2.1,x.2.2.2.2.1,x.2.2.2.2.2)=some (aB x) from rV x,show fh (x.1,x.2.1,x.2.2.1,x.2.2.2.1,x.2.2.2.2.1,x.2.2.2.2.2)=some (aB x) from nM x,same];have hw:nk (x.1,x.2.1,x.2.2.1,x.2.2.2.1,x.2.2.2.2.1,x.2.2.2.2.2) (a.1,a.2.1,a.2.2.1,a.2.2.2.1,a.2.2.2.2)=some (!(bad a.1 x.2.2.2.1||bad (a.2.2.1.length:Int) x.2.2.2.2.1||bad a.2.1 x.2.2.2.2.2||(decide (x.1=4)&&(bad (a.2.2.1.length:Int) [x.2.2.1]||bad (a.2.2.2.2.length:Int) [x.2.1])))):=by
   unfold nk iP iG;simp only [M0,ri x.2.2.2.1 _ (by omega:x.2.2.2.1.length<=1000),ri x.2.2.2.2.1 _ (by omega:x.2.2.2.2.1.length<=1000),ri x.2.2.2.2.2 _ (by omega:x.2.2.2.2.2.length<=1000)];have e (n i:Int):bad n [i]=(decide (i < 0)||decide (n<=i)):=by simp [bad]
   rw [e,e];cases bad a.1 x.2.2.2.1 <;> cases bad (a.2.2.1.length:Int) x.2.2.2.2.1 <;> cases bad a.2.1 x.2.2.2.2.2 <;> cases decide (x.1=4) <;> cases (decide (x.2.2.1 < 0)||decide ((a.2.2.1.length:Int)<=x.2.2.1)) <;> cases (decide (x.2.1 < 0)||decide ((a.2.2.2.2.length:Int)<=x.2.1)) <;> rfl
 rw [hw];by_cases hf:aB x=0
 . have o1 (i n:Int):cZ [i] n=some (!bad n [i]):=ej [i] n (by simp);simp only [hf,M0,decide_true,X0,cond_false,ej x.2.2.2.1 _ (by omega:x.2.2.2.1.length<=1000),ej x.2.2.2.2.1 _ (by omega:x.2.2.2.2.1.length<=1000),ej x.2.2.2.2.2 _ (by omega:x.2.2.2.2.2.length<=1000),o1,bq0];have seven:∃ l e,(some (([]:List Nd),(7:Int)):Option (List Nd×Int))=some (l,e)/\(some (([]:List Nd),(7:Int)):Option (List Nd×Int))=some (l,e)/\l.length<=4000/\((0 < a.2.1/\(∀ t∈a.2.2.1,rin a.2.1 t=false)/\rin a.2.1 a.2.2.2.1=false)->∀ n∈l,Gd a.2.1 n):=⟨[],7,rfl,rfl,by simp,by simp⟩
   cases b1:bad a.1 x.2.2.2.1 with
   | true=>exact seven
   | false =>
     cases b2:bad (a.2.2.1.length:Int) x.2.2.2.2.1 with
     | true=>exact seven
     | false =>
       cases b3:bad a.2.1 x.2.2.2.2.2 with
       | true=>exact seven
       | false =>
         by_cases k4:x.1=4
         . have n3:¬ x.1=3:=by omega
           rw [decide_eq_true k4,decide_eq_false n3];cases b4:bad (a.2.2.1.length:Int) [x.2.2.1] with
           | true=>exact seven
           | false =>
             cases b5:bad (a.2.2.2.2.length:Int) [x.2.1] with
             | true=>exact seven
             | false =>
               obtain ⟨C,c1,c2,c3⟩:=Cw l3 b2 hL;simp [bad] at b4 b5;simp only [Z7,Q8,V6,X0,cond_false,cond_true,M0,c1,T7,R7];rw [iv b5.1 b5.2,iv b4.1 b4.2];have hs:=hS _ (U0 (l:=a.2.2.2.2) (n:=x.2.1.toNat) (by omega));have ht:=hL _ (U0 (l:=a.2.2.1) (n:=x.2.2.1.toNat) (by omega));have hDm:=U0 (l:=a.2.2.1) (n:=x.2.2.1.toNat) (by omega);simp only [M0];generalize a.2.2.2.2[x.2.1.toNat]=S at hs ⊢;generalize a.2.2.1[x.2.2.1.toNat]=D at ht hDm ⊢;rw [show kV (S.1,S.2.1,S.2.2.1,S.2.2.2) x.2.2.2.2.2 C D=_ from BK S _ C D hs.2.2.1 hs.2.2.2 c2 ht,show iU (S.1,S.2.1,S.2.2.1,S.2.2.2) x.2.2.2.2.2 C D=_ from vF S _ C D hs.2.2.1 hs.2.2.2 c2 ht];have hn:=DZ S x.2.2.2.2.2 C D ⟨hs.1,hs.2.1,hs.2.2.1⟩ c2;exact ⟨(csp S x.2.2.2.2.2 C D).1,(csp S x.2.2.2.2.2 C D).2,rfl,rfl,hn,fun hg=>CI hg.1 b3 (fun t ht=>⟨c2 t ht,hg.2.1 t (c3 t ht)⟩) (hg.2.1 _ hDm) ⟨hs.1,hs.2.1,hs.2.2.1⟩⟩
         . rw [decide_eq_false k4];by_cases k3:x.1=3
           . rw [decide_eq_true k3];cases hz:a.2.2.1 with
             | nil=>exact ⟨[],14,by simp,by simp,by simp,by simp⟩
             | cons t ts =>
               have ht:=hL t (by rw [hz]; simp);have hl0:decide ((((t :: ts).length:Nat):Int)=0)=false:=decide_eq_false (by simp; omega);simp only [hl0,Z7,Q8,T7,V6,X0,cond_false,cond_true,M0,show aa (t :: ts) 0=some t from rfl];rw [nQ _ _ _ _ (by omega) (by omega) (by omega),fu _ _ _ _ (by omega) (by omega) (by omega)];have hr:=cD 7 t a.2.2.2.1 0;by_cases q:shp t a.2.2.2.1=true
               . exact ⟨rel 7 0 t a.2.2.2.1,0,by simp [q],by simp [q],by omega,fun hg=>ia (by decide) _ _ 0 (by omega) (by omega) (hg.2.1 t (by simp)) hg.2.2⟩
               . exact ⟨[],8,by simp [q],by simp [q],by simp,by simp⟩
           . rw [decide_eq_false k3];exact ⟨[],0,rfl,rfl,by simp,by simp⟩
 . exact ⟨[],aB x,by simp [hf],by simp [hf],by simp,by simp⟩
theorem Co (xa xb:List Int) (hn:xa.length<=1073741824):gI xa xb=some (decide (xa=xb)):=by
 unfold gI;by_cases hl:xa.length=xb.length
 . rw [ir hl,cond_false,rz (body:=nf xa xb) xa xb (.inr false) (.inl ()) hl ?_ ?_]
   . by_cases h:xa=xb <;> simp [h]
   . intro k h; unfold nf;have h2:k < xb.length:=by omega
     by_cases q:xa[k]=xb[k] <;> simp [ah h,ah h2,h,q,ak h (by omega)]
   . simp [nf]
 . rw [pI hl,cond_true];have:¬ xa=xb:=fun h=>hl (by rw [h])
   simp [this]
section
open Go.RowKit Lb
abbrev be (l:List Int):Prop:=∀ n∈l,0<=n/\n<=4294967295
theorem yJ (s:List UInt8) (k:Nat) (e:Int) (h:k<=s.length) (hl:s.length<=1073741824) :
   ci s (k:Int) e=some (if e≠0 then (0,(k:Int),e) else ((take (s.drop k)).1,(k:Int) + (take (s.drop k)).2.1,(take (s.drop k)).2.2)):=by
 unfold ci;by_cases he:e=0
 . subst he;simp only [decide_true,X0,cond_false,lr s k h,M0,ne_eq,not_true_eq_false,if_false];rw [gX _ (by simp; omega)]
   rcases db (s.drop k) with ⟨n,m,ht,_,_,m0,m1,_⟩ | ⟨e,ht,he⟩
   . simp only [T0] at m1;simp only [ht,M0];rw [w64 (by omega) (by omega)]
   . simp only [ht,M0];rw [w64 (by omega) (by omega)]
 . simp [he]
theorem iy (s:List UInt8) (k:Nat) (e:Int) (h:k<=s.length) (hl:s.length<=1073741824) :
   ∃ (n:Int) (k':Nat) (e':Int),ci s (k:Int) e=some (n,(k':Int),e')/\k'<=s.length/\0<=n/\n<=4294967295/\(e'=0->e=0/\s.take k'=s.take k++put n)/\(e≠0->n=0/\e'=e):=by
 rw [yJ s k e h hl];by_cases he:e=0
 . subst he;rw [if_neg (by simp)]
   rcases db (s.drop k) with ⟨n,m,ht,n0,n1,m0,m1,hp⟩ | ⟨e,ht,he⟩
   . simp only [T0] at m1;exact ⟨n,k + m,0,by rw [ht]; simp,by omega,n0,n1,fun _=>⟨rfl,by rw [hp,Q7]⟩,fun h=>absurd rfl h⟩
   . exact ⟨0,k,e,by rw [ht]; simp,h,by omega,by omega,fun h=>absurd h he,fun h=>absurd rfl h⟩
 . rw [if_pos he];exact ⟨0,k,e,rfl,h,by omega,by omega,fun h=>absurd h he,fun _=>⟨rfl,rfl⟩⟩
theorem iu (s:List UInt8) (k:Nat) (n:Int) (T:List UInt8) (h:k<=s.length) (hl:s.length<=1073741824) (n0:0<=n) (n1:n<=4294967295) (hd:s.drop k=put n++T) :
   ci s (k:Int) 0=some (n,((k + (put n).length:Nat):Int),0)/\s.drop (k + (put n).length)=T/\k + (put n).length<=s.length:=by
 have hp:put n≠[]:=fun h=>by have:=(dJ n).1 h; omega
 have hL:=congrArg N1 hd;simp only [T0,P0] at hL;refine ⟨?_,by rw [<- M4,hd,S5],by omega⟩;rw [yJ s k 0 h hl,if_neg (by simp),hd,oo n hp T];have:=k9 n;simp only [W0,Y5,true_and,and_true];omega
theorem pQ (s:List UInt8) (k:Nat) (e:Int) (h:k<=s.length) (hl:s.length<=1073741824) :
   ∃ (l:List Int) (k':Nat) (e':Int),d6 16 s (k:Int) e=some (l,(k':Int),e')/\k'<=s.length/\l.length<=16/\(e'=0->e=0/\be l/\s.take k'=s.take k++put (l.length:Int)++l.flatMap put):=by
 unfold d6;obtain ⟨m,k1,e1,h1,h2,h3,h4,h5,h6⟩:=iy s k e h hl;simp only [h1,M0];have hc:(cond (decide (16 < m)) (some 6) (some e1):Option Int)=some (if 16 < m then 6 else e1):=by
   by_cases q:16 < m <;> simp [q]
 rw [hc,M0];have key:=Dt (body:=fW s m) (fun st:List Int×Int×Int×Int=>st.2.1=((st.1.length:Nat):Int)/\st.1.length<=16/\∃ a:Nat,st.2.2.1=(a:Int)/\a<=s.length/\(st.2.2.2=0->e1=0/\m<=16/\(st.1.length:Int)<=m/\be st.1/\s.take a=s.take k1++st.1.flatMap put))
   (fun st=>(m - st.2.1).toNat) (Q:=fun r:List Int×Int×Int=>r.1.length<=16/\∃ a:Nat,r.2.1=(a:Int)/\a<=s.length/\(r.2.2=0->e1=0/\(r.1.length:Int)=m/\be r.1/\s.take a=s.take k1++r.1.flatMap put)) ?_
   (s:=([],0,(k1:Int),if 16 < m then 6 else e1)) ?_
 . obtain ⟨⟨l,a',e'⟩,q1,q2,a,rfl,q4,q5⟩:=key;dsimp only at *;rw [q1];refine ⟨l,a,e',rfl,q4,q2,fun h=>?_⟩;obtain ⟨r1,r2,r3,r4⟩:=q5 h;obtain ⟨z1,z2⟩:=h5 r1;exact ⟨z1,r3,by rw [r4,z2,r2]⟩
 . rintro ⟨l,c,a',e'⟩ ⟨hc0,i2,a,ha0,i4,i5⟩;dsimp only at hc0 i2 ha0 i5 ⊢;subst hc0;subst ha0;unfold fW;dsimp only;by_cases q:(l.length:Int) < m/\e'=0
   . obtain ⟨q1,rfl⟩:=q;obtain ⟨r0,r1,r2,r3,r4⟩:=i5 rfl;obtain ⟨n,k2,e2,g1,g2,g3,g4,g5,g6⟩:=iy s a 0 i4 hl
     left
     refine ⟨(l++[n],((l.length + 1:Nat):Int),(k2:Int),e2),?_,⟨by simp,by simp; omega,k2,rfl,g2,fun hz=>?_⟩,?_⟩
     . rw [decide_eq_true q1,show decide ((0:Int)=0)=true from rfl,S7,cond_true,g1,M0];dsimp only;rw [aq (by simp; omega),M0,w64 (by omega) (by omega)];rfl
     . refine ⟨r0,r1,by simp; omega,?_,?_⟩
       . intro x hx
         rcases M2.1 hx with hx | hx
         . exact r3 x hx
         . simp at hx; subst hx; exact ⟨g3,g4⟩
       . rw [(g5 hz).2,r4,N3]; simp
     . dsimp only; omega
   . right
     refine ⟨(l,(a:Int),e'),?_,i2,a,rfl,i4,fun hz=>?_⟩
     . have:(decide ((l.length:Int) < m)&&decide (e'=0))=false:=by
         by_cases q1:(l.length:Int) < m
         . have q2:¬ e'=0:=fun h=>q ⟨q1,h⟩
           simp [q2]
         . simp [q1]
       rw [this]; rfl
     . subst hz;obtain ⟨r0,r1,r2,r3,r4⟩:=i5 rfl;have:¬ (l.length:Int) < m:=fun h=>q ⟨h,rfl⟩
       exact ⟨r0,Int.le_antisymm r2 (Int.not_lt.1 this),r3,r4⟩
 . refine ⟨rfl,by simp,k1,rfl,h2,fun hz=>?_⟩;by_cases q:16 < m
   . simp [q] at hz
   . simp [q] at hz;exact ⟨hz,by omega,by simpa using h3,by simp [be],by simp⟩
theorem px (s:List UInt8) (k:Nat) (l:List Int) (T:List UInt8) (h:k<=s.length) (hl:s.length<=1073741824) (hs:be l) (h16:l.length<=16) (hd:s.drop k=put (l.length:Int)++(l.flatMap put++T)) :
   ∃ k':Nat,d6 16 s (k:Int) 0=some (l,(k':Int),0)/\s.drop k'=T/\k'=k + (put (l.length:Int)).length + (l.flatMap put).length/\k'<=s.length:=by
 unfold d6;obtain ⟨h1,h2,h3⟩:=iu s k (l.length:Int) _ h hl (by omega) (by omega) hd;simp only [h1,M0];rw [decide_eq_false (by omega),cond_false,M0];have key:∀ j,j<=l.length->s.drop (k + (put (l.length:Int)).length + ((l.take j).flatMap put).length)=(l.drop j).flatMap put++T/\k + (put (l.length:Int)).length + ((l.take j).flatMap put).length<=s.length:=by
   intro j hj;have e:l.flatMap put=(l.take j).flatMap put++(l.drop j).flatMap put:=by rw [<- N3,O3]
   have hL:=congrArg N1 h2;rw [e,O0] at h2;simp only [T0,P0,e] at hL;refine ⟨by rw [<- M4,h2,S5],by omega⟩
 have hloop:=bd (body:=fW s (l.length:Int)) (fun j:Nat=>(l.take j,(j:Int),((k + (put (l.length:Int)).length + ((l.take j).flatMap put).length:Nat):Int),(0:Int))) l.length (b:=(l,((k + (put (l.length:Int)).length + (l.flatMap put).length:Nat):Int),0)) ?_ ?_
 . have hloop':loop (fW s (l.length:Int)) ([],0,((k + (put (l.length:Int)).length:Nat):Int),0)=some (l,((k + (put (l.length:Int)).length + (l.flatMap put).length:Nat):Int),0):=by simpa using hloop
   rw [hloop'];refine ⟨_,rfl,?_,rfl,?_⟩
   . have:=(key l.length (by omega)).1;simpa using this
   . have:=(key l.length (by omega)).2;simpa using this
 . intro j hj;obtain ⟨q1,q2⟩:=key j (by omega);have hx:=hs l[j] (U0 hj);rw [Y8 hj,P3,O0] at q1;obtain ⟨b1,b2,b3⟩:=iu s _ l[j] _ q2 hl hx.1 hx.2 q1;unfold fW;dsimp only;rw [decide_eq_true (by omega),show decide ((0:Int)=0)=true from rfl,S7,cond_true,b1,M0];dsimp only;rw [aq (by simp; omega),M0,ak hj (by omega),bw hj,N3];simp [V2]
 . unfold fW;simp
def pl (l:List Int):List UInt8:=put (l.length:Int)++l.flatMap put
def aH (x:Tm):List UInt8:=put x.1 ++
 if x.1=1 then put (x.2.2.2.1.getD 0 0)
 else if x.1=2 then pl x.2.2.2.1++pl x.2.2.2.2.1
 else if x.1=4 then put x.2.1++put x.2.2.1++put (x.2.2.2.1.getD 0 0)++pl x.2.2.2.2.2++pl x.2.2.2.2.1 else []
theorem dL (l:List Int) (h:l.length<=16):(pl l).length<=85:=by
 have:=q8 l;have:=aQ (l.length:Int);unfold pl; simp only [P0]; omega
theorem nV (l:List Int) (h:l.length<=16):gx l=some (pl l):=by
 unfold gx;have h1:=q8 l;have h2:=aQ (l.length:Int);rw [eC,M0,g8 l (by omega),M0,aq (by omega)]; rfl
theorem E3 (x:Tm):kX x=some (if aB x=0 then (aH x,0) else ([],aB x)):=by
 unfold kX;rw [show fq (x.1,x.2.1,x.2.2.1,x.2.2.2.1,x.2.2.2.2.1,x.2.2.2.2.2)=some (aB x) from rV x,M0];by_cases hf:aB x=0
 . obtain ⟨hr,l1,l2,l3⟩:=jc hf;obtain ⟨k,g,d,to,args,ps⟩:=x;dsimp only at l1 l2 l3 hr ⊢;have b0:=aQ k;rw [if_pos hf,decide_eq_true hf,X0,cond_false,eC,M0,cS _ _ (by simp; omega),M0,O4];unfold dw at hr;unfold aH;dsimp only at hr ⊢;by_cases k1:k=1
   . rw [if_pos k1] at hr ⊢;simp only [Q0,decide_eq_true_eq] at hr
     match to,hr.1.1 with
     | [t],_ =>
       have b1:=aQ t;rw [decide_eq_true k1,cond_true,show aa [t] 0=some t from rfl,M0,eC,M0,cS _ _ (by omega)];rfl
   . rw [if_neg k1] at hr ⊢;rw [decide_eq_false k1,cond_false];by_cases k2:k=2
     . have b1:=dL to l1;have b2:=dL args l2;rw [if_pos k2,decide_eq_true k2,cond_true,nV to l1,M0,cS _ _ (by omega),M0,nV args l2,M0,cS _ _ (by simp only [P0]; omega)];simp
     . rw [if_neg k2] at hr ⊢;rw [decide_eq_false k2,cond_false];by_cases k4:k=4
       . rw [if_neg (by omega),if_pos k4] at hr;rw [if_pos k4];simp only [decide_eq_true_eq] at hr
         match to,hr with
         | [t],_ =>
           have b1:=aQ t;have b2:=aQ g;have b3:=aQ d;have b4:=dL args l2;have b5:=dL ps l3;rw [decide_eq_true k4,cond_true,show aa [t] 0=some t from rfl,M0,g8 _ (by simp),M0,cS _ _ (by simp; omega),M0,nV ps l3,M0,cS _ _ (by simp; omega),M0,nV args l2,M0,cS _ _ (by simp; omega)];simp
       . rw [if_neg k4,decide_eq_false k4,cond_false];simp
 . rw [if_neg hf,decide_eq_false hf]; rfl
abbrev qa (y:Tm):Prop:=okN y.2.1/\okN y.2.2.1/\be y.2.2.2.1/\be y.2.2.2.2.1/\be y.2.2.2.2.2
theorem zm (s:List UInt8) (hl:s.length<=1073741824):∃ (y:Tm) (n e:Int),cM s=some (y.1,y.2.1,y.2.2.1,y.2.2.2.1,y.2.2.2.2.1,y.2.2.2.2.2,n,e)/\(e=0->∃ m:Nat,n=(m:Int)/\m<=s.length/\aB y=0/\aH y=s.take m/\qa y):=by
 unfold cM;obtain ⟨k,a,e,h1,h2,h3,h4,h5,h6⟩:=iy s 0 0 (by omega) hl;have h1':ci s 0 0=some (k,(a:Int),e):=h1;rw [h1',M0];by_cases he:e=0
 . subst he;obtain ⟨_,q0⟩:=h5 rfl;rw [S6,O4] at q0;simp only [decide_true,cond_true];unfold mE;by_cases k1:k=1
   . subst k1;obtain ⟨t,b,f,g1,g2,g3,g4,g5,g6⟩:=iy s a 0 h2 hl;simp only [decide_true,cond_true,g1,M0];by_cases hf:f=0
     . subst hf;refine ⟨(1,0,0,[t],[],[]),(b:Int),0,rfl,fun _=>⟨b,rfl,g2,rfl,?_,⟨by simp,by simp⟩,⟨by simp,by simp⟩,by simpa [be] using And.intro g3 g4,by simp [be],by simp [be]⟩⟩;rw [(g5 rfl).2,q0]; rfl
     . exact ⟨(0,0,0,[],[],[]),0,f,by simp [hf],fun h=>absurd h hf⟩
   . rw [decide_eq_false k1,cond_false];by_cases k2:k=2
     . subst k2;obtain ⟨l,b,f,g1,g2,g3,g4⟩:=pQ s a 0 h2 hl;simp only [decide_true,cond_true,g1,M0];have hc:(cond ((decide (f=0))&&(decide (((l.length:Nat):Int)=0))) (some 3) (some f):Option Int)=some (if f=0/\l.length=0 then 3 else f):=by
         by_cases q1:f=0 <;> by_cases q2:l.length=0 <;> simp [q1,q2]
       rw [hc,M0];obtain ⟨l2,b2,f2,i1,i2,i3,i4⟩:=pQ s b (if f=0/\l.length=0 then 3 else f) g2 hl;simp only [i1,M0];by_cases hf:f2=0
       . subst hf;obtain ⟨j1,j2,j3⟩:=i4 rfl;by_cases q:f=0/\l.length=0
         . rw [if_pos q] at j1; cases j1
         . rw [if_neg q] at j1;obtain ⟨u1,u2,u3⟩:=g4 j1;have hlen:0 < l.length:=by
             have:¬ l.length=0:=fun h=>q ⟨j1,h⟩
             omega
           refine ⟨(2,0,0,l,l2,[]),(b2:Int),0,rfl,fun _=>⟨b2,rfl,i2,?_,?_,⟨by simp,by simp⟩,⟨by simp,by simp⟩,u2,j2,by simp [be]⟩⟩
           . unfold aB dw dv;simp [hlen]; omega
           . rw [j3,u3,q0]; unfold aH pl; simp
       . exact ⟨(0,0,0,[],[],[]),0,f2,by simp [hf],fun h=>absurd h hf⟩
     . rw [decide_eq_false k2,cond_false];by_cases k3:k=3
       . subst k3;refine ⟨(3,0,0,[],[],[]),(a:Int),0,rfl,fun _=>⟨a,rfl,h2,rfl,?_,⟨by simp,by simp⟩,⟨by simp,by simp⟩,by simp [be],by simp [be],by simp [be]⟩⟩;rw [q0]; unfold aH; simp
       . rw [decide_eq_false k3,cond_false];by_cases k4:k=4
         . subst k4;obtain ⟨t1,b1,f1,g1,g2,g3,g4,g5,g6⟩:=iy s a 0 h2 hl;simp only [decide_true,cond_true,g1,M0];obtain ⟨t2,b2,f2,g1',g2',g3',g4',g5',g6'⟩:=iy s b1 f1 g2 hl;simp only [g1',M0];obtain ⟨t3,b3,f3,i1,i2,i3,i4,i5,i6⟩:=iy s b2 f2 g2' hl;simp only [i1,M0];obtain ⟨l4,b4,f4,j1,j2,j3,j4⟩:=pQ s b3 f3 i2 hl;simp only [j1,M0];obtain ⟨l5,b5,f5,m1,m2,m3,m4⟩:=pQ s b4 f4 j2 hl;simp only [m1,M0];by_cases hf:f5=0
           . subst hf;obtain ⟨u1,u2,u3⟩:=m4 rfl;obtain ⟨v1,v2,v3⟩:=j4 u1;obtain ⟨w1,w2⟩:=i5 v1;obtain ⟨x1,x2⟩:=g5' w1;obtain ⟨y1,y2⟩:=g5 x1;refine ⟨(4,t1,t2,[t3],l5,l4),(b5:Int),0,rfl,fun _=>⟨b5,rfl,m2,?_,?_,⟨g3,g4⟩,⟨g3',g4'⟩,by simpa [be] using And.intro i3 i4,u2,v2⟩⟩
             . unfold aB dw;simp; omega
             . rw [u3,v3,w2,x2,y2,q0]; unfold aH pl; simp
           . exact ⟨(0,0,0,[],[],[]),0,f5,by simp [hf],fun h=>absurd h hf⟩
         . rw [decide_eq_false k4,cond_false];exact ⟨(0,0,0,[],[],[]),0,3,rfl,fun h=>by cases h⟩
 . simp only [decide_eq_false he,cond_false];exact ⟨(0,0,0,[],[],[]),0,e,by simp [he],fun h=>absurd h he⟩
theorem F7 (x:Tm) (more:List UInt8) (hf:aB x=0) (hm:more.length<=1000000) (s0:0<=x.2.1/\x.2.1<=4294967295) (s1:0<=x.2.2.1/\x.2.2.1<=4294967295) (s2:be x.2.2.2.1) (s3:be x.2.2.2.2.1) (s4:be x.2.2.2.2.2) :
   cM (aH x++more)=some (x.1,x.2.1,x.2.2.1,x.2.2.2.1,x.2.2.2.2.1,x.2.2.2.2.2,(((aH x).length:Nat):Int),0)/\(aH x).length<=1000:=by
 obtain ⟨hr,l1,l2,l3⟩:=jc hf;obtain ⟨k,g,d,to,args,ps⟩:=x;dsimp only at *;have b0:=aQ k;have b1:=aQ g;have b2:=aQ d;have b3:=aQ (to.getD 0 0);have p1:=dL to l1;have p2:=dL args l2;have p3:=dL ps l3;have hlen:(aH (k,g,d,to,args,ps)).length<=1000:=by
   unfold aH;dsimp only;split
   . simp only [P0]; omega
   . split
     . simp only [P0]; omega
     . split
       . simp only [P0]; omega
       . simp only [P0,M3]; omega
 refine ⟨?_,hlen⟩;have hL:(aH (k,g,d,to,args,ps)++more).length<=1073741824:=by rw [P0]; omega
 have e:aH (k,g,d,to,args,ps)++more=put k++((aH (k,g,d,to,args,ps)).drop (put k).length++more):=by
   unfold aH; dsimp only; rw [S5,O0]
 have hk : 0 <= k /\ k <= 4 := by
   unfold dw at hr;dsimp only at hr;split at hr
   . omega
   . split at hr
     . omega
     . split at hr
       . omega
       . split at hr
         . omega
         . cases hr
 unfold cM;obtain ⟨n1,n2,n3⟩:=iu (aH (k,g,d,to,args,ps)++more) 0 k _ (by omega) hL hk.1 (by omega) (by rw [X2]; exact e);have n1':ci (aH (k,g,d,to,args,ps)++more) 0 0=some (k,((0 + (put k).length:Nat):Int),0):=n1;rw [n1',M0];simp only [decide_true,cond_true];generalize hS:aH (k,g,d,to,args,ps)++more=S at *;have hT:(aH (k,g,d,to,args,ps)).length=S.length - more.length:=by rw [<- hS,P0]; omega
 have hT2:(((aH (k,g,d,to,args,ps)).length:Nat):Int)=((S.length - more.length:Nat):Int):=by rw [hT]
 rw [hT2];clear hT2 hlen;unfold aH at n2;unfold mE;unfold dw dv at hr;dsimp only at hr n2;rw [S5] at n2;have fin (a:Nat) (h:S.drop a=more) (h2:a<=S.length):((a:Nat):Int)=((S.length - more.length:Nat):Int):=by
   have:=congrArg N1 h;rw [T0] at this;omega
 by_cases k1:k=1
 . subst k1;simp only [if_true,Q0,decide_eq_true_eq] at hr n2;obtain ⟨⟨r1,r2⟩,r3⟩:=hr;obtain ⟨t,rfl⟩:=bg0.1 r1
   . have ht:=s2 t (by simp);obtain ⟨g1,g2,g3⟩:=iu S _ t more n3 hL ht.1 ht.2 n2;simp only [decide_true,cond_true,g1,M0,X0,cond_false,fin _ g2 g3];simp at r3;have e1:args=[]:=V0.1 r2;simp [r3.1.1,r3.1.2,r3.2,e1]
 . rw [if_neg k1] at hr n2;rw [decide_eq_false k1,cond_false];by_cases k2:k=2
   . subst k2;simp only [if_true,Q0,decide_eq_true_eq] at hr n2;obtain ⟨r1,r3⟩:=hr;rw [O0] at n2;obtain ⟨a1,g1,g2,g3,g4⟩:=px S _ to (pl args++more) n3 hL s2 l1 (by rw [n2]; simp only [pl,O0]);have g2':S.drop a1=put (args.length:Int)++(args.flatMap put++more):=by rw [g2]; simp only [pl,O0]
     obtain ⟨a2,i1,i2,i3,i4⟩:=px S a1 args more g4 hL s3 l2 g2';have hne:(decide ((0:Int)=0)&&decide (((to.length:Nat):Int)=0))=false:=by simp; intro h; rw [h] at r1; simp at r1
     simp only [decide_true,cond_true,g1,M0];rw [show (true&&decide (((to.length:Nat):Int)=0))=false from hne,cond_false];simp only [M0,i1,decide_true,X0,cond_false,fin _ i2 i4];simp at r3;simp [r3.1.1,r3.1.2,r3.2]
   . rw [if_neg k2] at hr n2;rw [decide_eq_false k2,cond_false];by_cases k3:k=3
     . subst k3;simp only [if_true,Q0,decide_eq_true_eq] at hr;rw [if_neg (by omega),O4] at n2;obtain ⟨⟨r1,r2⟩,r3⟩:=hr;simp only [decide_true,cond_true,M0,X0,cond_false,fin _ n2 n3];simp at r3;have e1:args=[]:=V0.1 r2;have e2:to=[]:=V0.1 r1;simp [r3.1.1,r3.1.2,r3.2,e1,e2]
     . rw [if_neg k3] at hr;rw [decide_eq_false k3,cond_false];by_cases k4:k=4
       . subst k4;simp only [if_true,decide_eq_true_eq] at hr n2;obtain ⟨t,rfl⟩:=bg0.1 hr
         . have ht:=s2 t (by simp);simp only [O0] at n2;obtain ⟨g1,g2,g3⟩:=iu S _ g _ n3 hL s0.1 s0.2 n2;obtain ⟨i1,i2,i3⟩:=iu S _ d _ g3 hL s1.1 s1.2 g2;obtain ⟨j1,j2,j3⟩:=iu S _ t _ i3 hL ht.1 ht.2 i2;obtain ⟨a4,m1,m2,m3,m4⟩:=px S _ ps (pl args++more) j3 hL s4 l3 (by rw [j2]; simp only [pl,O0]);obtain ⟨a5,o1,o2,o3,o4⟩:=px S a4 args more m4 hL s3 l2 (by rw [m2]; simp only [pl,O0]);simp only [decide_true,cond_true,g1,i1,j1,m1,o1,M0,X0,cond_false,fin _ o2 o4]
       . rw [if_neg k4] at hr; cases hr
end
set_option linter.unusedSectionVars false
section
open Go.RowKit Lb
section
variable {α β γ δ σ ρ:Type}
theorem Dm (p:Ps α) (q:α->Ps β) (r:β->Ps γ):pb (pb p q) r=pb p fun x=>pb (q x) r:=by
 funext s
 cases h:p s with
 | inl e=>rw [fI h,fI (fI h)]
 | inr xm =>
   obtain ⟨x,m⟩:=xm;rw [bH h];cases h2:q x (s.drop m) with
   | inl e =>
     have h3:pb p q s = .inl e:=by rw [bH h,h2]; rfl
     rw [fI h3,fI h2]; rfl
   | inr yk =>
     obtain ⟨y,k⟩:=yk;have h3:pb p q s = .inr (y,m + k):=by rw [bH h,h2]; rfl
     rw [bH h3,bH h2,M4];cases r y (s.drop (m + k)) with
     | inl e=>rfl
     | inr z=>obtain ⟨z,i⟩:=z; simp [eU,V2]
structure Run (F:List UInt8->Int->Int->Option ρ) (okr:α->List UInt8->Int->ρ->Prop) (er:Int->ρ->Prop) (p:Ps α):Prop where
 ok:∀ s (c:Nat) x m,s.length + c<=1000000->p s = .inr (x,m)->∃ (d:Nat) (r:ρ),(d<=m/\(1<=m->1<=d))/\F s (c:Int) 0=some r/\okr x (s.drop m) ((c + d:Nat):Int) r
 err:∀ s (c:Nat) e,s.length + c<=1000000->p s = .inl e->∃ r,F s (c:Int) 0=some r/\er e r
 bad:∀ s c e,e≠0->∃ r,F s c e=some r/\er e r
abbrev Rds (f:List UInt8->Int->Int->Option δ) (mk:α->List UInt8->Int->Int->δ) (p:Ps α):Prop :=
 Run f (fun x s c t=>t=mk x s c 0) (fun e t=>∃ x s c,t=mk x s c e) p
theorem Run.bind {f:List UInt8->Int->Int->Option δ} {mk:α->List UInt8->Int->Int->δ} {p:Ps α} {G:δ->Option ρ} {q:α->Ps β} {okr:β->List UInt8->Int->ρ->Prop} {er:Int->ρ->Prop}
   (h:Rds f mk p) (hp:Sane p) (hG:∀ x,Run (fun s c e=>G (mk x s c e)) okr er (q x)):Run (fun s c e=>(f s c e).bind G) okr er (pb p q) where
 ok:=by
   intro s c y k hs hr;obtain ⟨x,m,j,h1,h2,rfl⟩:=bF hr;have hm:=hp.len _ _ _ h1;obtain ⟨d,t,hd,hf,rfl⟩:=h.ok s c x m hs h1;obtain ⟨d',r,hd',hf',ho⟩:=(hG x).ok (s.drop m) (c + d) y j (by rw [T0]; omega) h2;refine ⟨d + d',r,by omega,by show (f s c 0).bind G=_; rw [hf]; exact hf',?_⟩;rw [M4] at ho; rw [<- V2]; exact ho
 err := by
   intro s c e hs hr
   rcases fG hr with h1 | ⟨x,m,h1,h2⟩
   . obtain ⟨t,hf,x,s',c',rfl⟩:=h.err s c e hs h1;obtain ⟨r,hr,he⟩:=(hG x).bad s' c' e (hp.err _ _ h1);exact ⟨r,by show (f s c 0).bind G=_; rw [hf]; exact hr,he⟩
   . have hm:=hp.len _ _ _ h1;obtain ⟨d,t,hd,hf,rfl⟩:=h.ok s c x m hs h1;obtain ⟨r,hf',he⟩:=(hG x).err (s.drop m) (c + d) e (by rw [T0]; omega) h2;exact ⟨r,by show (f s c 0).bind G=_; rw [hf]; exact hf',he⟩
 bad:=by
   intro s c e he;obtain ⟨t,hf,x,s',c',rfl⟩:=h.bad s c e he;obtain ⟨r,hr,h2⟩:=(hG x).bad s' c' e he;exact ⟨r,by show (f s c e).bind G=_; rw [hf]; exact hr,h2⟩
theorem Run.ret {F:List UInt8->Int->Int->Option ρ} {okr:α->List UInt8->Int->ρ->Prop} {er:Int->ρ->Prop} {x:α} (h:∀ s c e,∃ r,F s c e=some r/\(e=0->okr x s c r)/\(e≠0->er e r)):Run F okr er (aC x) where
 ok:=by
   intro s c y m hs hr;cases hr;obtain ⟨r,h1,h2,h3⟩:=h s c 0;exact ⟨0,r,by omega,h1,h2 rfl⟩
 err:=by intro s c e hs hr; cases hr
 bad:=by
   intro s c e he;obtain ⟨r,h1,h2,h3⟩:=h s c e;exact ⟨r,h1,h3 he⟩
theorem Run.map {f:List UInt8->Int->Int->Option δ} {mk:α->List UInt8->Int->Int->δ} {p:Ps α} {G:δ->Option ρ} {okr:α->List UInt8->Int->ρ->Prop} {er:Int->ρ->Prop}
   (h:Rds f mk p) (hp:Sane p) (hG:∀ x s c e,∃ r,G (mk x s c e)=some r/\(e=0->okr x s c r)/\(e≠0->er e r)):Run (fun s c e=>(f s c e).bind G) okr er p where
 ok:=by
   intro s c x m hs hr;obtain ⟨d,t,hd,hf,rfl⟩:=h.ok s c x m hs hr;obtain ⟨r,h1,h2,h3⟩:=hG x (s.drop m) ((c + d:Nat):Int) 0;exact ⟨d,r,hd,by show (f s c 0).bind G=_; rw [hf]; exact h1,h2 rfl⟩
 err:=by
   intro s c e hs hr;obtain ⟨t,hf,x,s',c',rfl⟩:=h.err s c e hs hr;obtain ⟨r,h1,h2,h3⟩:=hG x s' c' e;exact ⟨r,by show (f s c 0).bind G=_; rw [hf]; exact h1,h3 (hp.err _ _ hr)⟩
 bad:=by
   intro s c e he;obtain ⟨t,hf,x,s',c',rfl⟩:=h.bad s c e he;obtain ⟨r,h1,h2,h3⟩:=hG x s' c' e;exact ⟨r,by show (f s c e).bind G=_; rw [hf]; exact h1,h3 he⟩
theorem Run.one {f:List UInt8->Int->Int->Option δ} {mk:α->List UInt8->Int->Int->δ} {p:Ps α} {z:α} (hpos:∀ s x m,p s = .inr (x,m)->1<=m)
   (h:∀ s c e,e≠0->f s c e=some (mk z s c e)) (hok:∀ s (c:Nat) x m,s.length + c<=1000000->p s = .inr (x,m)->f s c 0=some (mk x (s.drop m) ((c + 1:Nat):Int) 0))
   (herr:∀ s (c:Nat) e,s.length + c<=1000000->p s = .inl e->f s c 0=some (mk z s c e)):Rds f mk p where
 ok:=fun s c x m hs hr=>⟨1,_,⟨hpos _ _ _ hr,fun _=>S2 _⟩,hok s c x m hs hr,rfl⟩
 err:=fun s c e hs hr=>⟨_,herr s c e hs hr,_,_,_,rfl⟩
 bad:=fun s c e he=>⟨_,h s c e he,_,_,_,rfl⟩
theorem Run.fn {F F':List UInt8->Int->Int->Option ρ} {okr:α->List UInt8->Int->ρ->Prop} {er:Int->ρ->Prop} {p:Ps α} (h:Run F okr er p) (e:∀ s c e,F' s c e=F s c e):Run F' okr er p :=
 (funext fun s=>funext fun c=>funext fun x=>e s c x:F'=F) ▸ h
theorem Run.many {p:Ps α} (hp:Sane p) (hpos:∀ s x m,p s = .inr (x,m)->1<=m) {body:σ->Option (σ⊕ρ)} (n:Int) (st:List α->Int->List UInt8->Int->Int->σ) (fin:List α->List UInt8->Int->Int->ρ)
   (hend:∀ acc i s c e,(n<=i\/e≠0)->body (st acc i s c e)=some (.inr (fin acc s c e)))
   (hgo:∀ acc:List α,acc.length<=1000000->((acc.length:Nat):Int) < n->∃ B:List UInt8->Int->Int->Option (σ⊕ρ),(∀ s c,body (st acc ((acc.length:Nat):Int) s c 0)=B s c 0)/\Run B (fun x s c r=>r = .inl (st (acc++[x]) ((acc.length + 1:Nat):Int) s c 0)) (fun e r=>∃ a i s c,r = .inl (st a i s c e)) p) :
   Rds (fun s c e=>loop body (st [] 0 s c e)) fin (bL p n.toNat) where
 ok := by
   have gen:∀ (m:Nat) (acc:List α) (s:List UInt8) (c:Nat) (xs:List α) (k:Nat),acc.length + m=n.toNat->acc.length + s.length<=1000000->s.length + c<=1000000->bL p m s = .inr (xs,k) ->
       ∃ d,(d<=k/\(1<=k->1<=d))/\loop body (st acc ((acc.length:Nat):Int) s (c:Int) 0)=some (fin (acc++xs) (s.drop k) ((c + d:Nat):Int) 0):=by
     intro m
     induction m with
     | zero =>
       intro acc s c xs k h1 h2 h3 hr;cases hr;exact ⟨0,by omega,by rw [bO (hend _ _ _ _ _ (.inl (by omega)))]; simp⟩
     | succ m ih =>
       intro acc s c xs k h1 h2 h3 hr;obtain ⟨x,a,j,h4,h5,rfl⟩:=bF hr;obtain ⟨ys,b,j',h6,h7,rfl⟩:=bF h5;cases h7;obtain ⟨B,hB,hR⟩:=hgo acc (by omega) (by omega);have e1:=hp.len _ _ _ h4;have e2:=hpos _ _ _ h4;obtain ⟨d,r,hd,hf,rfl⟩:=hR.ok s c x a h3 h4;obtain ⟨d',hd',hl⟩:=ih (acc++[x]) (s.drop a) (c + d) ys b (by simp; omega) (by simp; omega) (by rw [T0]; omega) h6;refine ⟨d + d',by omega,?_⟩;rw [di ((hB s c).trans hf)];simp only [P0,V1,M3,O2,O0,N4,O4,M4] at hl;rw [hl]; simp [V2]
   intro s c xs k hs hr;obtain ⟨d,hd,hl⟩:=gen n.toNat [] s c xs k (by simp) (by simp; omega) hs hr;exact ⟨d,_,hd,hl,rfl⟩
 err := by
   have gen:∀ (m:Nat) (acc:List α) (s:List UInt8) (c:Nat) (e:Int),acc.length + m=n.toNat->acc.length + s.length<=1000000->s.length + c<=1000000->bL p m s = .inl e ->
       ∃ xs s' c',loop body (st acc ((acc.length:Nat):Int) s (c:Int) 0)=some (fin xs s' c' e):=by
     intro m
     induction m with
     | zero=>intro acc s c e h1 h2 h3 hr; cases hr
     | succ m ih =>
       intro acc s c e h1 h2 h3 hr;obtain ⟨B,hB,hR⟩:=hgo acc (by omega) (by omega)
       rcases fG hr with h4 | ⟨x,a,h4,h5⟩
       . obtain ⟨r,hf,a,i,s',c',rfl⟩:=hR.err s c e h3 h4;rw [di ((hB s c).trans hf),bO (hend _ _ _ _ _ (.inr (hp.err _ _ h4)))];exact ⟨_,_,_,rfl⟩
       . rcases fG h5 with h6 | ⟨ys,b,h6,h7⟩
         . have e1:=hp.len _ _ _ h4;have e2:=hpos _ _ _ h4;obtain ⟨d,r,hd,hf,rfl⟩:=hR.ok s c x a h3 h4;obtain ⟨xs,s',c',hl⟩:=ih (acc++[x]) (s.drop a) (c + d) e (by simp; omega) (by simp; omega) (by rw [T0]; omega) h6;rw [di ((hB s c).trans hf)];simp only [P0,V1,M3,O2] at hl;exact ⟨xs,s',c',hl⟩
         . cases h7
   intro s c e hs hr;obtain ⟨xs,s',c',hl⟩:=gen n.toNat [] s c e (by simp) (by simp; omega) hs hr;exact ⟨_,hl,_,_,_,rfl⟩
 bad:=fun s c e he=>⟨_,bO (hend _ _ _ _ _ (.inr he)),_,_,_,rfl⟩
structure Got (F:List UInt8->Option ρ) (okr:α->List UInt8->ρ->Prop) (er:Int->ρ->Prop) (p:Ps α):Prop where
 ok:∀ s x m,s.length<=1000000->p s = .inr (x,m)->∃ r:ρ,F s=some r/\okr x (s.drop m) r
 err:∀ s e,s.length<=1000000->p s = .inl e->∃ r,F s=some r/\er e r
abbrev Gds (f:List UInt8->Option δ) (mk:α->List UInt8->Int->δ) (p:Ps α):Prop :=
 Got f (fun x s t=>t=mk x s 0) (fun e t=>∃ x s,t=mk x s e) p
theorem Got.map {f:List UInt8->Option δ} {mk:α->List UInt8->Int->δ} {p:Ps α} {G:δ->Option ρ} {okr:α->List UInt8->ρ->Prop} {er:Int->ρ->Prop}
   (h:Gds f mk p) (hp:Sane p) (hG:∀ x s,∃ r,G (mk x s 0)=some r/\okr x s r) (hb:∀ x s e,e≠0->∃ r,G (mk x s e)=some r/\er e r):Got (fun s=>(f s).bind G) okr er p where
 ok:=by
   intro s x m hs hr;obtain ⟨t,hf,rfl⟩:=h.ok s x m hs hr;obtain ⟨r,h1,h2⟩:=hG x (s.drop m);exact ⟨r,by show (f s).bind G=_; rw [hf]; exact h1,h2⟩
 err:=by
   intro s e hs hr;obtain ⟨t,hf,x,s',rfl⟩:=h.err s e hs hr;obtain ⟨r,h1,h2⟩:=hb x s' e (hp.err _ _ hr);exact ⟨r,by show (f s).bind G=_; rw [hf]; exact h1,h2⟩
end
end
section
open Go.RowKit Lb
abbrev bM:=List Stm×Tm
abbrev Bod:=Int×Int×List (Int×Int)×List (List St)×List St×List Sgt×List bM
def cU:Ps Stm:=fun s=>if (aI s).2.2.2.2.2.2=0 then .inr (((aI s).1,(aI s).2.1,(aI s).2.2.1,(aI s).2.2.2.1,(aI s).2.2.2.2.1),(aI s).2.2.2.2.2.1.toNat) else .inl (aI s).2.2.2.2.2.2
def dy:Ps Tm:=fun s=>if s.length<=1000000 then match cM s with
 | some (a,b,c,d,f,g,n,e)=>if e=0 then .inr ((a,b,c,d,f,g),n.toNat) else .inl e
 | none => .inl 1 else .inl 1
def bZ:Ps bM:=pb (aJ 65536 cU) fun l=>pb dy fun t=>aC (l,t)
def lR:Ps Bod:=pb (du 65536) fun u=>pb (du 65536) fun n=>pb (dK 65536) fun B=>pb (aJ 65536 bB) fun L=>pb bB fun R=>pb (aJ 65536 bX) fun S=>pb (aJ 65536 bZ) fun X=>aC (u,n,B,L,R,S,X)
theorem Dp {x:Stm} (h:fOk x=true):cK x≠[]:=by
 have h6:0<=x.1/\x.1<=5:=by
   unfold fOk at h;simp only [Q0,decide_eq_true_eq] at h;exact ⟨h.1.1.1.1,h.1.1.1.2⟩
 intro hc;have:put x.1=[]:=by
   unfold cK at hc;simp only [bJ] at hc;exact (bk0.1 hc).1
 have:=(dJ _).1 this;omega
theorem n9 {s:List UInt8} {x:Stm} {m:Nat} (h:cU s = .inr (x,m)):aI s=(x.1,x.2.1,x.2.2.1,x.2.2.2.1,x.2.2.2.2,(m:Int),0)/\m<=s.length/\1<=m/\fOk x=true/\0<=x.2.2.2.1/\x.2.2.2.1 < 2147483648/\cK x=s.take m/\okN x.2.1/\okN x.2.2.1:=by
 unfold cU at h;split at h
 . rename_i h0;obtain ⟨m',h1,h2,h3,h4,h5,h6,h7,h8⟩:=CS s h0;rw [h1,O1] at h;simp only [ax0,Y5] at h;obtain ⟨rfl,rfl⟩:=h;refine ⟨?_,h2,?_,h3,h4,h5,h6,h7,h8⟩
   . rw [<- h1,<- h0]
   . rcases aa0 m' with rfl | hm
     . rw [S6] at h6; exact absurd h6 (Dp h3)
     . exact hm
 . cases h
theorem wq {s:List UInt8} {e:Int} (h:cU s = .inl e):aI s=(0,0,0,0,false,0,e)/\e≠0:=by
 unfold cU at h;split at h
 . cases h
 . rename_i h0;cases h;refine ⟨?_,h0⟩;unfold aI at h0 ⊢;split
   . rfl
   . split
     . rfl
     . split
       . rfl
       . rename_i h1 h2 h3;rw [if_neg h1,if_neg h2,if_neg h3] at h0;exact absurd rfl h0
theorem Sane.stmt:Sane cU:=⟨fun s e h=>(wq h).2,fun s x m h=>(n9 h).2.1⟩
theorem xC:∀ (s:List UInt8) (x:Stm) (m:Nat),cU s = .inr (x,m)->1<=m:=fun s x m h=>(n9 h).2.2.1
theorem HB {s:List UInt8} {y:Tm} {n e:Int} (h:cM s=some (y.1,y.2.1,y.2.2.1,y.2.2.2.1,y.2.2.2.2.1,y.2.2.2.2.2,n,e)) (he:e≠0):n=0:=by
 unfold cM at h;obtain ⟨⟨a1,a2,a3⟩,_,h⟩:=aW0.1 h;obtain ⟨⟨b1,b2,b3,b4,b5,b6,b7⟩,_,h⟩:=aW0.1 h;dsimp only at h;by_cases h0:b2=0
 . rw [decide_eq_true h0] at h;simp only [X0,cond_false,W0,Y5] at h;exact absurd h.2.2.2.2.2.2.2.symm he
 . rw [decide_eq_false h0] at h;simp only [V6,cond_true,W0,Y5] at h;exact h.2.2.2.2.2.2.1.symm
theorem CK {x:Tm} (h:aB x=0):aH x≠[]:=by
 obtain ⟨h1,_⟩:=jc h;intro hc;unfold aH at hc;have:=(dJ _).1 (bk0.1 hc).1;unfold dw at h1;split at h1
 . omega
 . split at h1
   . omega
   . split at h1
     . omega
     . split at h1
       . omega
       . exact absurd h1 (by simp)
theorem rQ {s:List UInt8} {x:Tm} {m:Nat} (h:dy s = .inr (x,m)):cM s=some (x.1,x.2.1,x.2.2.1,x.2.2.2.1,x.2.2.2.2.1,x.2.2.2.2.2,(m:Int),0)/\True/\m<=s.length/\1<=m/\aB x=0/\aH x=s.take m/\qa x:=by
 unfold dy at h;split at h
 . rename_i hs;obtain ⟨y,n,e,g1,g2⟩:=zm s (by omega);rw [g1] at h;dsimp only at h;split at h
   . rename_i he;subst he;obtain ⟨k,rfl,k1,k2,k3,k4⟩:=g2 rfl;simp only [ax0,Y5,O1] at h;obtain ⟨rfl,rfl⟩:=h;refine ⟨g1,trivial,k1,?_,k2,k3,k4⟩
     rcases aa0 k with rfl | hm
     . rw [S6] at k3; exact absurd k3 (CK k2)
     . exact hm
   . cases h
 . cases h
theorem wG {s:List UInt8} {e:Int} (h:dy s = .inl e):e≠0/\(s.length<=1000000->∃ y:Tm,cM s=some (y.1,y.2.1,y.2.2.1,y.2.2.2.1,y.2.2.2.2.1,y.2.2.2.2.2,0,e)/\True):=by
 unfold dy at h;split at h
 . rename_i hs;obtain ⟨y,n,e',f1,f2⟩:=zm s (by omega);rw [f1] at h;dsimp only at h;split at h
   . cases h
   . rename_i he;cases h;have:=HB f1 he;subst this;exact ⟨he,fun _=>⟨y,f1,trivial⟩⟩
 . cases h;exact ⟨by decide,fun hs=>by rename_i hn; exact absurd hs hn⟩
theorem Sane.term:Sane dy:=⟨fun s e h=>(wG h).1,fun s x m h=>(rQ h).2.2.1⟩
theorem CY:∀ (s:List UInt8) (x:Tm) (m:Nat),dy s = .inr (x,m)->1<=m:=fun s x m h=>(rQ h).2.2.2.1
theorem Sane.blk:Sane bZ:=(Sane.list _ Sane.stmt).pb fun l=>Sane.term.pb fun t=>Sane.ret _
theorem ET:∀ (s:List UInt8) (x:bM) (m:Nat),bZ s = .inr (x,m)->1<=m:=jH si
theorem yx:∀ (s:List UInt8) (x:Sgt) (m:Nat),bX s = .inr (x,m)->1<=m:=jH lq
theorem tV {α β γ δ:Type} (o:Option (α×β×γ×δ)):(o.bind fun (a,b,c,d)=>some (a,b,c,d))=o:=by cases o <;> rfl
abbrev q4 {α:Type} (x:α) (s:List UInt8) (c e:Int):α×List UInt8×Int×Int:=(x,s,c,e)
theorem jq {α τ δ:Type} {T:List UInt8->Option τ} {p:Ps α} (hp:Sane p) (hpos:∀ s x m,p s = .inr (x,m)->1<=m) {f:List UInt8->Int->Int->Option δ} {mk:α->List UInt8->Int->Int->δ} (z:α)
   (out:α->Int->Int->τ)
   (hT:∀ s,s.length<=1000000->(∀ x m,p s = .inr (x,m)->T s=some (out x (m:Int) 0))/\(∀ e,p s = .inl e->∃ x,T s=some (out x 0 e)))
   (G:List UInt8->Int->Int->τ->Option δ) (hf:∀ s c e,f s c e=cond (!decide (e=0)) (some (mk z s c e)) ((T s).bind (G s c e)))
   (hG:∀ s c e x m e',G s c e (out x m e')=cond (!decide (e'=0)) (some (mk z s c e')) ((subL s m (((s.length:Nat):Int))).bind fun y=>some (mk x y (IntKind.wrap .i64 (c + 1)) e))):Rds f mk p :=
 Run.one (z:=z) hpos (fun s c e he=>by rw [hf,decide_eq_false he]; rfl) (fun s c x m hs hr=>by
     have hm:=hp.len _ _ _ hr;rw [hf,decide_eq_true rfl,X0,cond_false,(hT s (by omega)).1 x m hr,M0,hG,decide_eq_true rfl,X0,cond_false,lr _ _ hm,w64 (by omega) (by omega)]; rfl)
   (fun s c e hs hr=>by
     obtain ⟨x,hx⟩:=(hT s (by omega)).2 e hr;rw [hf,decide_eq_true rfl,X0,cond_false,hx,M0,hG,decide_eq_false (hp.err _ _ hr)]; rfl)
theorem yE:Rds kd q4 bx :=
 jq (T:=en) Sane.num lq 0 (fun x m e=>(x,m,e)) (fun s hs=>⟨fun x m h=>by rw [gX s (by omega),(cO h).1],fun e h=>⟨0,by rw [gX s (by omega),(dG h).1]⟩⟩)
   (fun s c e t=>match t with | (x,m,e')=>cond (!decide (e'=0)) (some (q4 0 s c e')) ((subL s m (((s.length:Nat):Int))).bind fun y=>some (q4 x y (IntKind.wrap .i64 (c + 1)) e))) (fun s c e=>rfl) (fun s c e x m e'=>rfl)
theorem jj:Rds bz q4 (du 65536) where
 ok:=by
   intro s c n m hs hr;obtain ⟨h1,h2⟩:=k8 hr;obtain ⟨d,t,hd,hf,rfl⟩:=yE.ok s c n m hs h1;refine ⟨d,_,hd,?_,rfl⟩;unfold bz;rw [hf];show cond (decide (65536 < n)) _ _=_;rw [decide_eq_false (by omega)]; rfl
 err := by
   intro s c e hs hr;unfold bz
   rcases fG hr with h1 | ⟨n,m,h1,h2⟩
   . unfold kd;rw [gX s (by omega),(dG h1).1,decide_eq_true rfl,X0,cond_false,M0];show ∃ r,(cond (!decide (e=0)) _ _:Option _).bind _=some r/\_
     rw [decide_eq_false (dG h1).2];exact ⟨q4 0 s c e,rfl,0,s,c,rfl⟩
   . obtain ⟨d,t,hd,hf,rfl⟩:=yE.ok s c n m hs h1;rw [hf];split at h2
     . rename_i hn;cases h2;refine ⟨q4 0 (s.drop m) ((c + d:Nat):Int) 6,?_,0,s.drop m,((c + d:Nat):Int),rfl⟩;show cond (decide (65536 < n)) _ _=_;rw [decide_eq_true hn]; rfl
     . cases h2
 bad:=by
   intro s c e he;unfold bz kd;rw [decide_eq_false he];exact ⟨q4 0 s c e,rfl,0,s,c,rfl⟩
theorem Cb:Rds j8 (fun x s c e=>(x,s,c,e)) (dK 65536) :=
 jq (T:=ko) (Sane.bounds _) si [] (fun x m e=>(x,m,e)) (fun s hs=>⟨fun x m h=>by unfold ko; rw [uT s 65536 hs,h]; rfl,fun e h=>⟨[],by unfold ko; rw [uT s 65536 hs,h]; rfl⟩⟩)
   (fun s c e t=>match t with | (l,m,e')=>cond (!decide (e'=0)) (some ((fun (x:List (Int×Int)) (s:List UInt8) (c e:Int)=>(x,s,c,e)) [] s c e')) ((subL s m (((s.length:Nat):Int))).bind fun y=>some ((fun (x:List (Int×Int)) (s:List UInt8) (c e:Int)=>(x,s,c,e)) l y (IntKind.wrap .i64 (c + 1)) e))) (fun s c e=>rfl) (fun s c e x m e'=>rfl)
theorem yn:Rds fV (fun x s c e=>(x,s,c,e)) bB :=
 jq (T:=kz) Sane.type sy [] (fun x m e=>(x,m,e)) (fun s hs=>⟨fun x m h=>by rw [uX s hs,h]; rfl,fun e h=>⟨[],by rw [uX s hs,h]; rfl⟩⟩)
   (fun s c e t=>match t with | (l,m,e')=>cond (!decide (e'=0)) (some ((fun (x:List St) (s:List UInt8) (c e:Int)=>(x,s,c,e)) [] s c e')) ((subL s m (((s.length:Nat):Int))).bind fun y=>some ((fun (x:List St) (s:List UInt8) (c e:Int)=>(x,s,c,e)) l y (IntKind.wrap .i64 (c + 1)) e))) (fun s c e=>rfl) (fun s c e x m e'=>rfl)
theorem FH:Rds mH (fun x s c e=>(x.1,x.2.1,x.2.2.1,x.2.2.2,s,c,e)) bX :=
 jq (T:=iZ) Sane.sig yx (0,[],[],[]) (fun x m e=>(x.1,x.2.1,x.2.2.1,x.2.2.2,m,e)) (fun s hs=>⟨fun x m h=>by rw [vX s hs,h]; rfl,fun e h=>⟨(0,[],[],[]),by rw [vX s hs,h]; rfl⟩⟩)
   (fun s c e t=>match t with | (a,b,c',d,m,e')=>cond (!decide (e'=0)) (some ((fun (x:Sgt) (s:List UInt8) (c e:Int)=>(x.1,x.2.1,x.2.2.1,x.2.2.2,s,c,e)) (0,[],[],[]) s c e')) ((subL s m (((s.length:Nat):Int))).bind fun y=>some ((fun (x:Sgt) (s:List UInt8) (c e:Int)=>(x.1,x.2.1,x.2.2.1,x.2.2.2,s,c,e)) (a,b,c',d) y (IntKind.wrap .i64 (c + 1)) e))) (fun s c e=>rfl) (fun s c e x m e'=>rfl)
theorem EP:Rds mD (fun x s c e=>(x.1,x.2.1,x.2.2.1,x.2.2.2.1,x.2.2.2.2,s,c,e)) cU :=
 jq (T:=kS) Sane.stmt xC (0,0,0,0,false) (fun x m e=>(x.1,x.2.1,x.2.2.1,x.2.2.2.1,x.2.2.2.2,m,e)) (fun s hs=>⟨fun x m h=>by rw [vB s (by omega),(n9 h).1],fun e h=>⟨(0,0,0,0,false),by rw [vB s (by omega),(wq h).1]⟩⟩)
   (fun s c e t=>match t with | (a,b,c',d,f,m,e')=>cond (!decide (e'=0)) (some ((fun (x:Stm) (s:List UInt8) (c e:Int)=>(x.1,x.2.1,x.2.2.1,x.2.2.2.1,x.2.2.2.2,s,c,e)) (0,0,0,0,false) s c e')) ((subL s m (((s.length:Nat):Int))).bind fun y=>some ((fun (x:Stm) (s:List UInt8) (c e:Int)=>(x.1,x.2.1,x.2.2.1,x.2.2.2.1,x.2.2.2.2,s,c,e)) (a,b,c',d,f) y (IntKind.wrap .i64 (c + 1)) e))) (fun s c e=>rfl) (fun s c e x m e'=>rfl)
theorem Ez:Rds ka (fun x s c e=>(x.1,x.2.1,x.2.2.1,x.2.2.2.1,x.2.2.2.2.1,x.2.2.2.2.2,s,c,e)) dy :=
 jq (T:=cM) Sane.term CY (0,0,0,[],[],[]) (fun x m e=>(x.1,x.2.1,x.2.2.1,x.2.2.2.1,x.2.2.2.2.1,x.2.2.2.2.2,m,e)) (fun s hs=>⟨fun x m h=>(rQ h).1,fun e h=>by obtain ⟨y,h1,h2⟩:=(wG h).2 hs; exact ⟨y,h1⟩⟩)
   (fun s c e t=>match t with | (a,b,c',d,f,g,m,e')=>cond (!decide (e'=0)) (some ((fun (x:Tm) (s:List UInt8) (c e:Int)=>(x.1,x.2.1,x.2.2.1,x.2.2.2.1,x.2.2.2.2.1,x.2.2.2.2.2,s,c,e)) (0,0,0,[],[],[]) s c e')) ((subL s m (((s.length:Nat):Int))).bind fun y=>some ((fun (x:Tm) (s:List UInt8) (c e:Int)=>(x.1,x.2.1,x.2.2.1,x.2.2.2.1,x.2.2.2.2.1,x.2.2.2.2.2,s,c,e)) (a,b,c',d,f,g) y (IntKind.wrap .i64 (c + 1)) e))) (fun s c e=>rfl) (fun s c e x m e'=>rfl)
theorem DK:Rds j9 q4 (aJ 65536 bB):=by
 refine Run.bind (f:=bz) jj (Sane.count _) (fun n=>?_);refine Run.fn (Run.many (σ:=List (List St)×Int×List UInt8×Int×Int) (ρ:=List (List St)×List UInt8×Int×Int) Sane.type sy (body:=my n) n (fun acc i s c e=>(acc,i,s,c,e)) q4 ?_ ?_) (fun s c e=>tV _)
 . intro acc i s c e h;unfold my;have:(decide (i < n)&&decide (e=0))=false:=by
     rcases h with h | h
     . rw [decide_eq_false (by omega),T7]
     . rw [decide_eq_false h,Q8]
   dsimp only; rw [this]; rfl
 . intro acc ha hn;refine ⟨fun s c e=>(fV s c e).bind fun (x,s,c,e)=>(app acc [x]).bind fun z=>some (.inl (z,IntKind.wrap .i64 (((acc.length:Nat):Int) + 1),s,c,e)),fun s c=>?_,?_⟩
   . unfold my;dsimp only;rw [decide_eq_true hn]; rfl
   . refine Run.map yn Sane.type (fun x s c e=>?_);refine ⟨.inl (acc++[x],((acc.length + 1:Nat):Int),s,c,e),?_,fun h=>by rw [h],fun h=>⟨_,_,_,_,rfl⟩⟩;dsimp only;rw [aq (by simp; omega),w64 (by omega) (by omega)]; rfl
theorem EJ:Rds kb q4 (aJ 65536 bX):=by
 refine Run.bind (f:=bz) jj (Sane.count _) (fun n=>?_);refine Run.fn (Run.many (σ:=List (Sgt)×Int×List UInt8×Int×Int) (ρ:=List (Sgt)×List UInt8×Int×Int) Sane.sig yx (body:=mA n) n (fun acc i s c e=>(acc,i,s,c,e)) q4 ?_ ?_) (fun s c e=>tV _)
 . intro acc i s c e h;unfold mA;have:(decide (i < n)&&decide (e=0))=false:=by
     rcases h with h | h
     . rw [decide_eq_false (by omega),T7]
     . rw [decide_eq_false h,Q8]
   dsimp only; rw [this]; rfl
 . intro acc ha hn;refine ⟨fun s c e=>(mH s c e).bind fun (x1,x2,x3,x4,s,c,e)=>(app acc [((x1,x2,x3,x4):Sgt)]).bind fun z=>some (.inl (z,IntKind.wrap .i64 (((acc.length:Nat):Int) + 1),s,c,e)),fun s c=>?_,?_⟩
   . unfold mA;dsimp only;rw [decide_eq_true hn]; rfl
   . refine Run.map FH Sane.sig (fun x s c e=>?_);refine ⟨.inl (acc++[x],((acc.length + 1:Nat):Int),s,c,e),?_,fun h=>by rw [h],fun h=>⟨_,_,_,_,rfl⟩⟩;dsimp only;rw [aq (by simp; omega),w64 (by omega) (by omega)]; rfl
theorem DC:Rds mB q4 (aJ 65536 cU):=by
 refine Run.bind (f:=bz) jj (Sane.count _) (fun n=>?_);refine Run.fn (Run.many (σ:=List (Stm)×Int×List UInt8×Int×Int) (ρ:=List (Stm)×List UInt8×Int×Int) Sane.stmt xC (body:=mz n) n (fun acc i s c e=>(acc,i,s,c,e)) q4 ?_ ?_) (fun s c e=>tV _)
 . intro acc i s c e h;unfold mz;have:(decide (i < n)&&decide (e=0))=false:=by
     rcases h with h | h
     . rw [decide_eq_false (by omega),T7]
     . rw [decide_eq_false h,Q8]
   dsimp only; rw [this]; rfl
 . intro acc ha hn;refine ⟨fun s c e=>(mD s c e).bind fun (x1,x2,x3,x4,x5,s,c,e)=>(app acc [((x1,x2,x3,x4,x5):Stm)]).bind fun z=>some (.inl (z,IntKind.wrap .i64 (((acc.length:Nat):Int) + 1),s,c,e)),fun s c=>?_,?_⟩
   . unfold mz;dsimp only;rw [decide_eq_true hn]; rfl
   . refine Run.map EP Sane.stmt (fun x s c e=>?_);refine ⟨.inl (acc++[x],((acc.length + 1:Nat):Int),s,c,e),?_,fun h=>by rw [h],fun h=>⟨_,_,_,_,rfl⟩⟩;dsimp only;rw [aq (by simp; omega),w64 (by omega) (by omega)]; rfl
theorem Cd (n:Int):Rds (fun s c e=>loop (iI n) (0,s,c,e,[])) (fun X s c e=>(s,c,e,X)) (bL bZ n.toNat):=by
 refine Run.many (σ:=Int×List UInt8×Int×Int×List bM) (ρ:=List UInt8×Int×Int×List bM) Sane.blk ET (body:=iI n) n (fun acc i s c e=>(i,s,c,e,acc)) (fun X s c e=>(s,c,e,X)) ?_ ?_
 . intro acc i s c e h;unfold iI;have:(decide (i < n)&&decide (e=0))=false:=by
     rcases h with h | h
     . rw [decide_eq_false (by omega),T7]
     . rw [decide_eq_false h,Q8]
   dsimp only; rw [this]; rfl
 . intro acc ha hn;refine ⟨fun s c e=>(mB s c e).bind fun (l,s,c,e)=>(ka s c e).bind fun (x1,x2,x3,x4,x5,x6,s,c,e)=>(app acc [((l,(x1,x2,x3,x4,x5,x6)):bM)]).bind fun z=>some (.inl (IntKind.wrap .i64 (((acc.length:Nat):Int) + 1),s,c,e,z)),fun s c=>?_,?_⟩
   . unfold iI;dsimp only;rw [decide_eq_true hn]; rfl
   . refine Run.bind DC (Sane.list _ Sane.stmt) (fun l=>?_);refine Run.bind (f:=ka) Ez Sane.term (fun t=>?_);refine Run.ret (fun s c e=>?_);refine ⟨.inl (((acc.length + 1:Nat):Int),s,c,e,acc++[(l,t)]),?_,fun h=>by rw [h],fun h=>⟨_,_,_,_,rfl⟩⟩;dsimp only;rw [aq (by simp; omega),w64 (by omega) (by omega)]; rfl
theorem EG {ρ:Type} (K:Bod->List UInt8->Int->Int->Option ρ) {okr:Bod->List UInt8->Int->ρ->Prop} {er:Int->ρ->Prop} (hK:∀ b s c e,∃ r,K b s c e=some r/\(e=0->okr b s c r)/\(e≠0->er e r)) :
   Run (fun s c e=>(bz s c e).bind fun (i634,s635,i636,i637)=>(bz s635 i636 i637).bind fun (i643,s644,i645,i646)=>(j8 s644 i645 i646).bind fun (l652,s653,i654,i655)=>(j9 s653 i654 i655).bind fun (l665,s666,i667,i668)=>(fV s666 i667 i668).bind fun (l678,s679,i680,i681)=>(kb s679 i680 i681).bind fun (l691,s692,i693,i694)=>(bz s692 i693 i694).bind fun (i704,s705,i706,i707)=>(loop (iI i704) (0,s705,i706,i707,[]):Option (List UInt8×Int×Int×List bM)).bind fun (s943,i944,i945,l946)=>K (i634,i643,l652,l665,l678,l691,l946) s943 i944 i945) okr er lR:=by
 refine Run.bind (f:=bz) jj (Sane.count _) (fun u=>?_);refine Run.bind (f:=bz) jj (Sane.count _) (fun n=>?_);refine Run.bind (f:=j8) Cb (Sane.bounds _) (fun B=>?_);refine Run.bind (f:=j9) DK (Sane.list _ Sane.type) (fun L=>?_);refine Run.bind (f:=fV) yn Sane.type (fun R=>?_);refine Run.bind (f:=kb) EJ (Sane.list _ Sane.sig) (fun S=>?_);show Run _ okr er (pb (aJ 65536 bZ) fun X=>aC (u,n,B,L,R,S,X));unfold aJ;rw [Dm];refine Run.bind (f:=bz) jj (Sane.count _) (fun k=>?_);refine Run.bind (Cd k) (Sane.many Sane.blk _) (fun X=>?_);refine Run.ret (fun s c e=>?_);exact hK (u,n,B,L,R,S,X) s c e
def jB (s:List UInt8):Bool:=decide (4<=s.length)&&decide (s.take 4=[109,105,114,1])
theorem Fg (s:List UInt8):mR s [109,105,114,1]=some (if jB s then (s.drop 4,true) else (s,false)):=by
 unfold mR qE qD jB;by_cases h:4<=s.length
 . have h1:decide ((((([109,105,114,1]:List UInt8)).length:Nat):Int)<=((s.length:Nat):Int))=true:=by simp; omega
   rw [h1,cond_true,show (((([109,105,114,1]:List UInt8)).length:Nat):Int)=((4:Nat):Int) from rfl,sG (by omega) (by omega) (by omega),lr s 4 h];simp only [M0,O1,aT0,X2,decide_eq_true h,R7];cases decide (List.take 4 s=[109,105,114,1]) <;> rfl
 . have h1:decide ((((([109,105,114,1]:List UInt8)).length:Nat):Int)<=((s.length:Nat):Int))=false:=by simp; omega
   rw [h1,cond_false,decide_eq_false h]; rfl
abbrev zB:Bod:=(0,0,[],[],[],[],[])
def tk (s:List UInt8):Bod×Int:=if jB s then match lR (s.drop 4) with
 | .inl e=>(zB,e)
 | .inr (b,m)=>if s.drop (4 + m)=[] then (b,0) else (zB,13) else (zB,12)
abbrev eR (r:Bod×Int):Int×Int×List (Int×Int)×List (List St)×List St×List Sgt×List bM×Int:=(r.1.1,r.1.2.1,r.1.2.2.1,r.1.2.2.2.1,r.1.2.2.2.2.1,r.1.2.2.2.2.2.1,r.1.2.2.2.2.2.2,r.2)
theorem Dh (s:List UInt8) (hs:s.length<=1000000):nh s=some (eR (tk s)):=by
 have hR:=EG (fun b s c e=>(cond ((decide (e=0))&&(!decide (s=([]:List UInt8)))) (some (13)) (some (e)):Option Int).bind fun i1188=>cond (!decide (i1188=0)) (some ((0,0,[],[],[],[],[],i1188))) ((bc 0 c).bind fun _=>some ((b.1,b.2.1,b.2.2.1,b.2.2.2.1,b.2.2.2.2.1,b.2.2.2.2.2.1,b.2.2.2.2.2.2,0))))
   (okr:=fun b s c r=>r=eR (if s=[] then (b,0) else (zB,13))) (er:=fun e r=>r=eR (zB,e)) (fun b s c e=>by
     refine ⟨if e=0 then eR (if s=[] then (b,0) else (zB,13)) else eR (zB,e),?_,fun h=>by rw [if_pos h],fun h=>by rw [if_neg h]⟩;by_cases he:e=0
     . subst he;by_cases hs:s=[]
       . subst hs; rfl
       . rw [decide_eq_false hs]; simp [hs]
     . rw [decide_eq_false he]; simp [he])
 unfold nh tk;rw [Fg];cases hh:jB s with
 | false=>rfl
 | true =>
   rw [if_pos rfl,if_pos rfl];have hl:(s.drop 4).length + 0<=1000000:=by rw [T0]; omega
   cases hp:lR (s.drop 4) with
   | inl e =>
     obtain ⟨r,h1,h2⟩:=hR.err (s.drop 4) 0 e hl hp;exact h1.trans (congrArg some h2)
   | inr bm =>
     obtain ⟨b,m⟩:=bm;obtain ⟨d,r,hd,h1,h2⟩:=hR.ok (s.drop 4) 0 b m hl hp;rw [M4] at h2;exact h1.trans (congrArg some h2)
end
abbrev LT:Tp := .cons (.int .i64) (.cons (.sl (.cons (.int .i64) (.one (.int .i64)))) (.cons (.sl (.one (.sl (.cons (.int .i64) (.one .bool))))) (.one (.one (.sl (.cons (.int .i64) (.one .bool)))))))
abbrev KI:Tp := .cons (.int .i64) (.cons (.int .i64) (.cons (.int .i64) (.cons (.sl (.int .i64)) (.cons (.sl (.int .i64)) (.one (.sl (.int .i64)))))))
abbrev tD:Tp := .cons (.int .i64) (.cons (.int .i64) (.cons (.sl (.cons (.int .i64) (.one (.int .i64)))) (.cons (.sl (.one (.sl (.cons (.int .i64) (.one .bool))))) (.cons (.one (.sl (.cons (.int .i64) (.one .bool)))) (.cons (.sl LT) (.one (.sl (.cons (.sl (.cons (.int .i64) (.cons (.int .i64) (.cons (.int .i64) (.cons (.int .i64) (.one .bool)))))) (.one KI)))))))))
abbrev Blk:=List Stm×Tm
abbrev Bo:=Int×Int×List (Int×Int)×List (List St)×List St×List Sg×List Blk
def stm (l:List Blk):Nat:=(l.map (fun x=>x.1.length)).sum
structure Few (b:Bo):Prop where
 bounds:b.2.2.1.length<=20
 locals:b.2.2.2.1.length<=10
 loc:∀ t∈b.2.2.2.1,t.length<=20
 ret:b.2.2.2.2.1.length<=20
 sigs:b.2.2.2.2.2.1.length<=4
 sig:∀ s∈b.2.2.2.2.2.1,s.2.1.length<=20/\s.2.2.1.length<=20/\s.2.2.2.length<=20/\∀ t∈s.2.2.1,t.length<=20
 blocks:b.2.2.2.2.2.2.length<=8
 term:∀ x∈b.2.2.2.2.2.2,x.2.2.2.2.1.length<=20/\x.2.2.2.2.2.1.length<=20/\x.2.2.2.2.2.2.length<=20
 many:stm b.2.2.2.2.2.2<=24
structure Sm (b:Bo):Prop where
 bounds:b.2.2.1.length<=65536
 locals:b.2.2.2.1.length<=65536
 loc:∀ t∈b.2.2.2.1,t.length<=20
 ret:b.2.2.2.2.1.length<=20
 sigs:b.2.2.2.2.2.1.length<=65536
 sig:∀ s∈b.2.2.2.2.2.1,s.2.1.length<=20/\s.2.2.1.length<=20/\s.2.2.2.length<=20/\∀ t∈s.2.2.1,t.length<=20
 blocks:b.2.2.2.2.2.2.length<=65536
 term:∀ x∈b.2.2.2.2.2.2,x.2.2.2.2.1.length<=20/\x.2.2.2.2.2.1.length<=20/\x.2.2.2.2.2.2.length<=20
 many:stm b.2.2.2.2.2.2<=65536
theorem sF {α:Type} (f:α->Nat):∀ (l:List α) (x:α),x∈l->f x<=(l.map f).sum
 | [],x,h=>by cases h
 | y :: l,x,h=>by
   rcases T2.1 h with rfl | h
   . simp
   . have:=sF f l x h; simp; omega
theorem wI {α:Type} (f:α->Nat) (l:List α) (k:Nat):((l.take k).map f).sum<=(l.map f).sum:=by
 have:l.map f=(l.take k).map f++(l.drop k).map f:=by rw [<- Y2,O3]
 rw [this,bU0]; omega
theorem Sm.stmts {b:Bo} (h:Sm b) {x:Blk} (hx:x∈b.2.2.2.2.2.2):x.1.length<=65536:=by
 have:=sF (fun x:Blk=>x.1.length) _ x hx;have:=h.many; unfold stm at this; omega
theorem r9 {X:List Blk} {k:Nat} (hk:k < X.length):stm (X.take (k + 1))=stm (X.take k) + X[k].1.length:=by
 unfold stm; rw [bw hk,Y2,bU0]; simp
theorem CX {b:Bo} (h:Tp.Fit tD b):∀ x∈b.2.2.2.2.2.2,x.1.length<=140737488351232:=by
 obtain ⟨_,_,_,_,_,_,_,h2⟩:=h;exact fun x hx=>(h2 x hx).1.1
theorem HH (b : Bo) (hb : ∀ x ∈ b.2.2.2.2.2.2, x.1.length <= 140737488351232) : gF b = some false \/ (gF b = some true /\ Few b) := by
 obtain ⟨u,n,B,L,R,S,X⟩:=b;unfold gF;dsimp only at *;have e1:((((decide (20 < (((B.length:Nat):Int))))||(decide (10 < (((L.length:Nat):Int)))))||(decide (4 < (((S.length:Nat):Int)))))||(decide (8 < (((X.length:Nat):Int)))))=decide (20 < B.length\/10 < L.length\/4 < S.length\/8 < X.length):=by
   by_cases h1:20 < B.length <;> by_cases h2:10 < L.length <;> by_cases h3:4 < S.length <;> by_cases h4:8 < X.length <;> simp [h1,h2,h3,h4] <;> omega
 rw [e1];by_cases h0:20 < B.length\/10 < L.length\/4 < S.length\/8 < X.length
 . rw [decide_eq_true h0]; exact .inl rfl
 . rw [decide_eq_false h0,cond_false,tv];by_cases q:R.length<=20
   . have e:decide (((R.length:Nat):Int)<=20)=true:=by simp; omega
     simp only [M0,e,X0,cond_false];rw [Ag (body:=uS (u,n,B,L,R,S,X)) (xa:=L) (by omega) (fun i=>rfl)];cases hf:L.any (fun t=>!decide (t.length<=20)) with
     | true=>exact .inl rfl
     | false =>
       simp only [N2,if_false,M0];have hS:∃ t,loop (iK (u,n,B,L,R,S,X)) 0=some t/\(t = .inr false\/(t = .inl ()/\∀ s∈S,s.2.1.length<=20/\s.2.2.1.length<=20/\s.2.2.2.length<=20/\∀ t∈s.2.2.1,t.length<=20)):=by
         have hl:=gZ (body:=iK (u,n,B,L,R,S,X)) (fun k=>∃ h:k < S.length,fj S[k]=some false) (fun k:Nat=>(k:Int)) S.length (fun _ => .inr false) (.inl ()) ?_ ?_ ?_
         . rcases hl with ⟨k,_,_,_,h4⟩ | ⟨h1,h2⟩
           . exact ⟨_,h4,.inl rfl⟩
           . refine ⟨_,h2,.inr ⟨rfl,fun s hs=>?_⟩⟩;obtain ⟨k,hk,rfl⟩:=X3 hs
             rcases zr S[k] with h | ⟨h,f1,f2,f3,f4⟩
             . exact absurd ⟨hk,h⟩ (h1 k hk)
             . exact ⟨f1,f2,f3,f4⟩
         . intro k hk hp;unfold iK
           rcases zr S[k] with h | ⟨h,_⟩
           . exact absurd ⟨hk,h⟩ hp
           . simp only [dlt hk,cond_true,ah hk,M0,show fj (S[k].1,S[k].2.1,S[k].2.2.1,S[k].2.2.2)=_ from h,ak hk (by omega:S.length<=9223372036854775807)];rfl
         . rintro k hk ⟨_,hp⟩;unfold iK;simp only [dlt hk,cond_true,ah hk,M0,show fj (S[k].1,S[k].2.1,S[k].2.2.1,S[k].2.2.2)=_ from hp];rfl
         . simp [iK]
       obtain ⟨t,ht,hS⟩:=hS;rw [ht]
       rcases hS with rfl | ⟨rfl,hS⟩
       . exact .inl rfl
       . simp only [M0];have hX:=gZ (body:=gg (u,n,B,L,R,S,X)) (fun k=>∃ h:k < X.length,(((decide (20 < ((((X[k]).2.2.2.2.1.length:Nat):Int))))||(decide (20 < ((((X[k]).2.2.2.2.2.1.length:Nat):Int)))))||(decide (20 < ((((X[k]).2.2.2.2.2.2.length:Nat):Int)))))=true) (fun k:Nat=>(((stm (X.take k):Nat):Int),(k:Int))) X.length (fun _ => .inr false) (.inl ((stm X:Nat):Int)) ?_ ?_ ?_
         . rcases hX with ⟨k,_,_,_,h4⟩ | ⟨h1,h2⟩
           . have h4':loop (gg (u,n,B,L,R,S,X)) (0,0)=some (.inr false):=by simpa [stm] using h4
             rw [h4']; exact .inl rfl
           . have h2':loop (gg (u,n,B,L,R,S,X)) (0,0)=some (.inl ((stm X:Nat):Int)):=by simpa [stm] using h2
             rw [h2'];by_cases hm:stm X<=24
             . refine .inr ⟨by simp; omega,⟨by dsimp only; omega,by dsimp only; omega,xN hf,q,by dsimp only; omega,hS,by dsimp only; omega,fun x hx=>?_,hm⟩⟩;obtain ⟨k,hk,rfl⟩:=X3 hx;have hn:=h1 k hk;dsimp only at hk hn;have hn2:(((decide (20 < ((((X[k]).2.2.2.2.1.length:Nat):Int))))||(decide (20 < ((((X[k]).2.2.2.2.2.1.length:Nat):Int)))))||(decide (20 < ((((X[k]).2.2.2.2.2.2.length:Nat):Int)))))=false:=by
                 cases hc:(((decide (20 < ((((X[k]).2.2.2.2.1.length:Nat):Int))))||(decide (20 < ((((X[k]).2.2.2.2.2.1.length:Nat):Int)))))||(decide (20 < ((((X[k]).2.2.2.2.2.2.length:Nat):Int))))) with
                 | false=>rfl
                 | true=>exact absurd ⟨hk,hc⟩ hn
               simp at hn2;dsimp only;omega
             . refine .inl ?_;simp; omega
         . intro k hk hp;have hn2:(((decide (20 < ((((X[k]).2.2.2.2.1.length:Nat):Int))))||(decide (20 < ((((X[k]).2.2.2.2.2.1.length:Nat):Int)))))||(decide (20 < ((((X[k]).2.2.2.2.2.2.length:Nat):Int)))))=false:=by
             cases hc:(((decide (20 < ((((X[k]).2.2.2.2.1.length:Nat):Int))))||(decide (20 < ((((X[k]).2.2.2.2.2.1.length:Nat):Int)))))||(decide (20 < ((((X[k]).2.2.2.2.2.2.length:Nat):Int))))) with
             | false=>rfl
             | true=>exact absurd ⟨hk,hc⟩ hp
           have a1:=hb X[k] (U0 hk);have a2:stm (X.take k)<=k * 140737488351232:=by
             unfold stm;have:∀ q:List Blk,(∀ x∈q,x∈X)->(q.map (fun x=>x.1.length)).sum<=q.length * 140737488351232:=by
               intro q
               induction q with
               | nil=>intro _; simp
               | cons x q ih =>
                 intro hq;have:=ih (fun y hy=>hq y (by simp [hy]));have:=hb x (hq x (by simp));simp only [Z1,ba0,V1,Q4]; omega
             have h3:=this (X.take k) (fun x hx=>U7 hx);rw [Z0,U4 (by omega)] at h3;exact h3
           have a3:k<=8:=by omega
           have a4:k * 140737488351232<=8 * 140737488351232:=V3 _ a3;unfold gg;simp only [dlt hk,cond_true,ah hk,M0,hn2,cond_false,ak hk (by omega:X.length<=9223372036854775807)];rw [w64 (by omega) (by omega),r9 hk];simp
         . rintro k hk ⟨_,hp⟩;unfold gg;simp only [dlt hk,cond_true,ah hk,M0,hp]
         . unfold gg;simp
   . have e:decide (((R.length:Nat):Int)<=20)=false:=by simp; omega
     simp only [M0,e]; exact .inl rfl
section
open Go.RowKit Lb
def lU (x:St):Int:=if x.2 then IntKind.wrap .i64 (IntKind.wrap .i64 (2 * x.1) + 1) else IntKind.wrap .i64 (2 * x.1)
theorem wR (x:St):(cond x.2 (some (IntKind.wrap .i64 ((IntKind.wrap .i64 (2 * x.1)) + 1))) (some (IntKind.wrap .i64 (2 * x.1))):Option Int)=some (lU x):=by
 obtain ⟨r,i⟩:=x;cases i <;> rfl
def lI (x:St):List UInt8:=put (lU x)
def aV (l:List St):List UInt8:=put (l.length:Int)++l.flatMap lI
def oB (l:List (List St)):List UInt8:=put (l.length:Int)++l.flatMap aV
def cd (g:Sgt):List UInt8:=put g.1++(cv g.2.1++(oB g.2.2.1++aV g.2.2.2))
theorem Bw (x:St):(lI x).length<=5:=aQ _
theorem dD (l:List St):(aV l).length<=5 + l.length * 5:=by
 have h1:=aQ (l.length:Int);have h2:=cF lI 5 l (fun x _=>Bw x);unfold aV; rw [P0]; omega
theorem np (l:List St) (hl:l.length<=1000):gB l=some (aV l):=by
 unfold gB;have hloop:=bd (body:=ku l) (fun k:Nat=>([(l.length:Int)]++(l.take k).map lU,(k:Int))) l.length (b:=[(l.length:Int)]++l.map lU) ?_ ?_
 . have:loop (ku l) ([(l.length:Int)],0)=some ([(l.length:Int)]++l.map lU):=by simpa using hloop
   rw [this,M0,g8 _ (by simp; omega)];simp only [M0,N3,FG];simp [aV]; rfl
 . intro k hk;unfold ku;dsimp only;rw [dlt hk,cond_true,ah hk,M0,wR l[k],M0,aq (by simp; omega),M0,ak hk (by omega)];rw [bw hk,Y2];simp
 . unfold ku;simp
def smS (g:Sgt):Prop:=g.2.1.length<=20/\g.2.2.1.length<=20/\(∀ t∈g.2.2.1,t.length<=20)/\g.2.2.2.length<=20
theorem BE (g:Sgt) (h:smS g):la g=some (cd g):=by
 obtain ⟨a2,a3,h3,a4⟩:=h;obtain ⟨n,B,A,R⟩:=g;dsimp only at *;have l1:=aQ n;have l2:=nN B;have l4:=dD R;have l5:=aQ (A.length:Int);have l6:∀ q:List (List St),(∀ x∈q,x∈A)->(q.flatMap aV).length<=q.length * 105:=fun q hq=>cF aV 105 q (fun x hx=>by have:=dD x; have:=h3 x (hq x hx); omega)
 unfold la;dsimp only;rw [eC,M0,cS _ _ (by simp; omega),M0,uU _ (by omega),M0,cS _ _ (by simp; omega),M0,eC,M0,cS _ _ (by simp; omega),M0];have hloop:=bd (body:=kM (n,B,A,R)) (fun k:Nat=>((k:Int),[]++put n++cv B++put (A.length:Int)++(A.take k).flatMap aV)) A.length (b:=[]++put n++cv B++put (A.length:Int)++A.flatMap aV) ?_ ?_
 . have:loop (kM (n,B,A,R)) (0,[]++put n++cv B++put (A.length:Int))=some ([]++put n++cv B++put (A.length:Int)++A.flatMap aV):=by simpa using hloop
   have l7:=l6 A (fun x hx=>hx);rw [this,M0,np _ (by omega),M0,cS _ _ (by simp only [P0,M3]; omega)];simp [cd,oB]
 . intro k hk;have l7:=l6 (A.take k) (fun x hx=>U7 hx);have l8:(A.take k).length<=20:=by simp; omega
   have l9:=h3 _ (U0 hk);have l10:=dD A[k];unfold kM;dsimp only;rw [dlt hk,cond_true,ah hk,M0,np _ (by omega),M0,cS _ _ (by simp only [P0,M3]; omega),M0,ak hk (by omega)];rw [bw hk,N3];simp
 . unfold kM;simp
theorem rP {g:Sgt} (h:smS g):(cd g).length<=2500:=by
 obtain ⟨a2,a3,h3,a4⟩:=h;have l1:=aQ g.1;have l2:=nN g.2.1;have l4:=dD g.2.2.2;have l5:=aQ (g.2.2.1.length:Int);have l6:=cF aV 105 g.2.2.1 (fun x hx=>by have:=dD x; have:=h3 x hx; omega);unfold cd oB; simp only [P0]; omega
def im (r:Int) (m:Bool):Int:=if m then IntKind.wrap .i64 (IntKind.wrap .i64 (2 * r) + 1) else IntKind.wrap .i64 (2 * r)
def bT (x:Stm):List UInt8:=bJ [true,aF x.1,aE x.1,aD x.1] [x.1,x.2.1,x.2.2.1,im x.2.2.2.1 x.2.2.2.2]
theorem xD (r:Int) (m:Bool):(cond m (some (IntKind.wrap .i64 ((IntKind.wrap .i64 (2 * r)) + 1))) (some (IntKind.wrap .i64 (2 * r))):Option Int)=some (im r m):=by
 cases m <;> rfl
theorem vq (x:Stm):iX x=some (if fOk x then (bT x,0) else ([],3)):=by
 obtain ⟨k,d,s,r,m⟩:=x;unfold iX;rw [yb];cases hf:fOk (k,d,s,r,m) with
 | false=>rfl
 | true =>
   simp only [if_true,M0,show (!decide ((0:Int)=0))=false from rfl,cond_false,xD r m,bT];cases aF k <;> cases aE k <;> cases aD k <;>
     simp only [cond_true,cond_false,M0,aq (a:=[k]) (b:=[d]) (by simp),aq (a:=[k]) (b:=[s]) (by simp),aq (a:=[k]) (b:=[im r m]) (by simp),al0,
       aq (a:=[k,d]) (b:=[s]) (by simp),aq (a:=[k,d]) (b:=[im r m]) (by simp),aq (a:=[k,s]) (b:=[im r m]) (by simp),N4,O4,aq (a:=[k,d,s]) (b:=[im r m]) (by simp)] <;>
     (rw [g8 _ (by simp)]; simp [bJ])
section
variable {α σ ρ:Type}
theorem wL {body:σ->Option (σ⊕ρ)} (X:List α) (bad:α->Bool) (st:Nat->σ) (hit:Nat->ρ) (fin:ρ) (hgo:∀ k (h:k < X.length),(∀ j (h:j < X.length),j < k->bad X[j]=false)->bad X[k]=false->body (st k)=some (.inl (st (k + 1))))
   (hbad:∀ k (h:k < X.length),(∀ j (h:j < X.length),j < k->bad X[j]=false)->bad X[k]=true->body (st k)=some (.inr (hit k))) (hend:body (st X.length)=some (.inr fin)) :
   (X.find? bad=none/\loop body (st 0)=some fin)\/∃ (k:Nat) (h:k < X.length),X.find? bad=some X[k]/\bad X[k]=true/\loop body (st 0)=some (hit k):=by
 have gen:∀ (m j:Nat),j + m=X.length->(∀ i (h:i < X.length),i < j->bad X[i]=false)->((X.drop j).find? bad=none/\loop body (st j)=some fin)\/∃ (k:Nat) (h:k < X.length),(X.drop j).find? bad=some X[k]/\bad X[k]=true/\loop body (st j)=some (hit k):=by
   intro m
   induction m with
   | zero =>
     intro j hj hg;obtain rfl:j=X.length:=by omega
     exact .inl ⟨by simp,bO hend⟩
   | succ m ih =>
     intro j hj hg;have hk:j < X.length:=by omega
     have e:=Y8 hk;cases hb:bad X[j] with
     | true=>exact .inr ⟨j,hk,by rw [e,bY0,hb],hb,bO (hbad j hk hg hb)⟩
     | false =>
       rw [di (hgo j hk hg hb)];have:=ih (j + 1) (by omega) (fun i h hi=>by
         rcases Nat.lt_succ_iff_lt_or_eq.1 hi with h1 | h1
         . exact hg i h h1
         . subst h1; exact hb)
       have e2:(X.drop j).find? bad=(X.drop (j + 1)).find? bad:=by rw [e,bY0,hb]
       rw [e2]; exact this
 simpa using gen X.length 0 (by omega) (fun i h hi=>by omega)
end
def bn (x:bM):Int:=if x.1.any (fun s=>!fOk s) then 3 else aB x.2
def bR (x:bM):List UInt8:=put (x.1.length:Int)++x.1.flatMap bT++aH x.2
def po (b:Bod):List UInt8:=[109,105,114,1]++put b.1++put b.2.1++cv b.2.2.1++put (b.2.2.2.1.length:Int)++b.2.2.2.1.flatMap aV++aV b.2.2.2.2.1++put (b.2.2.2.2.2.1.length:Int)++b.2.2.2.2.2.1.flatMap cd++put (b.2.2.2.2.2.2.length:Int)
def ma (b:Bod):List UInt8×Int:=match b.2.2.2.2.2.2.find? (fun x=>!decide (bn x=0)) with
 | some x=>([],bn x)
 | none=>(po b++b.2.2.2.2.2.2.flatMap bR,0)
structure Pz (b:Bod):Prop where
 B:b.2.2.1.length<=1000
 L:b.2.2.2.1.length<=1000/\∀ t∈b.2.2.2.1,t.length<=20
 R:b.2.2.2.2.1.length<=20
 S:b.2.2.2.2.2.1.length<=1000/\∀ g∈b.2.2.2.2.2.1,smS g
 X:b.2.2.2.2.2.2.length<=1000/\∀ x∈b.2.2.2.2.2.2,x.1.length<=1000
theorem xx {x:Tm} (h:aB x=0):(aH x).length<=300:=by
 obtain ⟨_,h1,h2,h3⟩:=jc h;have p1:=dL _ h1;have p2:=dL _ h2;have p3:=dL _ h3;have q (n:Int):(put n).length<=5:=aQ n;have q0:=q x.1; have q1:=q (x.2.2.2.1.getD 0 0); have q2:=q x.2.1; have q3:=q x.2.2.1;unfold aH;split
 . simp only [P0]; omega
 . split
   . simp only [P0]; omega
   . split
     . simp only [P0]; omega
     . simp only [P0,M3]; omega
theorem rH (x:Stm):(bT x).length<=20:=by
 have q (n:Int):(put n).length<=5:=aQ n;have q0:=q x.1; have q1:=q x.2.1; have q2:=q x.2.2.1; have q3:=q (im x.2.2.2.1 x.2.2.2.2);unfold bT;cases aF x.1 <;> cases aE x.1 <;> cases aD x.1 <;> simp only [bJ,P0,M3] <;> omega
theorem C0 {α:Type} (l:List α) (p:α->Bool):l.find? p=none↔l.any p=false:=by
 rw [aA0,W3]
theorem wo {x:bM} (h:bn x=0) (hx:x.1.length<=1000):(bR x).length<=20305:=by
 have h1:=aQ (x.1.length:Int);have h2:=cF bT 20 x.1 (fun s _=>rH s);have h3:aB x.2=0:=by
   unfold bn at h; split at h
   . cases h
   . exact h
 have h4:=xx h3;unfold bR; simp only [P0]; omega
theorem vz (x:bM) (s:List UInt8) (hs:s.length<=1000000000) (hx:x.1.length<=1000):(bn x=0->fX x s=some (0,s++bR x))/\(bn x≠0->∃ s',fX x s=some (bn x,s')):=by
 have h1:=aQ (x.1.length:Int);have h2 (q:List Stm):=cF bT 20 q (fun s _=>rH s);have h2a:=h2 x.1;unfold fX;rw [eC,M0,show wrS s (put (x.1.length:Int))=_ from aq (by omega),M0];have hl:=wL (body:=ki x) x.1 (fun t=>!fOk t) (fun k=>((k:Int),s++put (x.1.length:Int)++(x.1.take k).flatMap bT)) (fun k => .inr (3,s++put (x.1.length:Int)++(x.1.take k).flatMap bT)) (.inl (s++put (x.1.length:Int)++x.1.flatMap bT)) ?_ ?_ ?_
 . simp only [S6,Q5,P1] at hl;rw [show ((0:Nat):Int)=0 from rfl] at hl
   rcases hl with ⟨hf,hl⟩ | ⟨k,hk,hf,hb,hl⟩
   . have ha:=(C0 _ _).1 hf;have he:bn x=aB x.2:=by unfold bn; rw [ha]; rfl
     rw [hl,he];simp only [M0,show kX (x.2.1,x.2.2.1,x.2.2.2.1,x.2.2.2.2.1,x.2.2.2.2.2.1,x.2.2.2.2.2.2)=_ from E3 x.2];by_cases ht:aB x.2=0
     . have h4:=xx ht;refine ⟨fun _=>?_,fun h=>absurd ht h⟩;rw [if_pos ht];dsimp only;rw [show wrS (s++put (x.1.length:Int)++x.1.flatMap bT) (aH x.2)=_ from aq (by simp only [P0]; omega)];simp [bR]
     . refine ⟨fun h=>absurd h ht,fun _=>?_⟩;rw [if_neg ht];dsimp only;rw [show wrS (s++put (x.1.length:Int)++x.1.flatMap bT) []=_ from aq (by simp only [P0,M3]; omega)];exact ⟨_,rfl⟩
   . have ha:x.1.any (fun t=>!fOk t)=true:=R6.2 ⟨_,U0 hk,hb⟩;have he:bn x=3:=by unfold bn; rw [ha]; rfl
     rw [hl,he];exact ⟨fun h=>absurd h (by decide),fun _=>⟨_,rfl⟩⟩
 . intro k hk _ hb;have h3:=h2 (x.1.take k);have h4:(x.1.take k).length<=1000:=by simp; omega
   have h5:=rH x.1[k];have hb':fOk x.1[k]=true:=by simpa using hb
   unfold ki;dsimp only;rw [dlt hk,cond_true,ah hk,M0,show iX (x.1[k].1,x.1[k].2.1,x.1[k].2.2.1,x.1[k].2.2.2.1,x.1[k].2.2.2.2)=_ from vq x.1[k],if_pos hb',M0];dsimp only;rw [show (!decide ((0:Int)=0))=false from rfl,cond_false,show wrS (s++put (x.1.length:Int)++(x.1.take k).flatMap bT) (bT x.1[k])=_ from aq (by simp only [P0]; omega),M0,ak hk (by omega),bw hk,N3];simp
 . intro k hk _ hb;have hb':fOk x.1[k]=false:=by simpa using hb
   unfold ki;dsimp only;rw [dlt hk,cond_true,ah hk,M0,show iX (x.1[k].1,x.1[k].2.1,x.1[k].2.2.1,x.1[k].2.2.2.1,x.1[k].2.2.2.2)=_ from vq x.1[k],if_neg (by rw [hb']; simp),M0];rfl
 . unfold ki;simp
theorem xB (X:List bM) (hX:∀ x∈X,x.1.length<=1000) (k:Nat) (hk:k<=X.length) (hl:X.length<=1000) (hg:∀ j (h:j < X.length),j < k->bn X[j]=0):((X.take k).flatMap bR).length<=21000000:=by
 have:=cF bR 20305 (X.take k) (fun x hx=>by
   obtain ⟨j,hj,rfl⟩:=X3 hx;simp only [Z0] at hj;rw [List.getElem_take];exact wo (hg j (by omega) (by omega)) (hX _ (U0 _)))
 simp only [Z0] at this;have h2:min k X.length * 20305<=1000 * 20305:=V3 _ (by omega);omega
theorem CA {b:Bod} (h:Pz b):(cv b.2.2.1).length<=10005/\(∀ k,((b.2.2.2.1.take k).flatMap aV).length<=105000)/\(aV b.2.2.2.2.1).length<=105/\(∀ k,((b.2.2.2.2.2.1.take k).flatMap cd).length<=2500000)/\(b.2.2.2.1.flatMap aV).length<=105000/\(b.2.2.2.2.2.1.flatMap cd).length<=2500000:=by
 have hB:=h.B; have hL:=h.L; have hR:=h.R; have hS:=h.S;have l1:=nN b.2.2.1;have l2 (k:Nat):((b.2.2.2.1.take k).flatMap aV).length<=105000:=by
   have h1:=cF aV 105 (b.2.2.2.1.take k) (fun x hx=>by have:=dD x; have:=hL.2 x (U7 hx); omega);simp only [Z0] at h1;have h2:min k b.2.2.2.1.length * 105<=1000 * 105:=V3 _ (by omega);omega
 have l3:=dD b.2.2.2.2.1;have l4 (k:Nat):((b.2.2.2.2.2.1.take k).flatMap cd).length<=2500000:=by
   have h1:=cF cd 2500 (b.2.2.2.2.2.1.take k) (fun x hx=>rP (hS.2 x (U7 hx)));simp only [Z0] at h1;have h2:min k b.2.2.2.2.2.1.length * 2500<=1000 * 2500:=V3 _ (by omega);omega
 have l5:=l2 b.2.2.2.1.length;have l6:=l4 b.2.2.2.2.2.1.length;rw [Q6] at l5 l6;exact ⟨by omega,l2,by omega,l4,l5,l6⟩
theorem Bj (b:Bod) (h:Pz b):kZ b=some (ma b):=by
 obtain ⟨w1,w2,w3,w4,w5,w6⟩:=CA h;have hB:=h.B; have hL:=h.L; have hR:=h.R; have hS:=h.S; have hX:=h.X;have q (n:Int):(put n).length<=5:=aQ n;have q1:=q b.1; have q2:=q b.2.1; have q3:=q (b.2.2.2.1.length:Int); have q4:=q (b.2.2.2.2.2.1.length:Int); have q5:=q (b.2.2.2.2.2.2.length:Int);have W (x y:List UInt8) (h:x.length + y.length<=1000000000):wrS x y=some (x++y):=aq (by omega);have l1 (s:List UInt8) (hs:s.length<=10000000):loop (kJ b) (0,s)=some (s++b.2.2.2.1.flatMap aV):=by
   have hloop:=bd (body:=kJ b) (fun k:Nat=>((k:Int),s++(b.2.2.2.1.take k).flatMap aV)) b.2.2.2.1.length (b:=s++b.2.2.2.1.flatMap aV) ?_ ?_
   . simpa using hloop
   . intro k hk;have a1:=w2 k;have a2:=dD b.2.2.2.1[k];have a3:=hL.2 _ (U0 hk);unfold kJ;dsimp only;rw [dlt hk,cond_true,ah hk,M0,np _ (by omega),M0,W _ _ (by simp only [P0]; omega),M0,ak hk (by omega),bw hk,N3];simp
   . unfold kJ;simp
 have l2 (s:List UInt8) (hs:s.length<=10000000):loop (kH b) (0,s)=some (s++b.2.2.2.2.2.1.flatMap cd):=by
   have hloop:=bd (body:=kH b) (fun k:Nat=>((k:Int),s++(b.2.2.2.2.2.1.take k).flatMap cd)) b.2.2.2.2.2.1.length (b:=s++b.2.2.2.2.2.1.flatMap cd) ?_ ?_
   . simpa using hloop
   . intro k hk;have a1:=w4 k;have a3:=hS.2 _ (U0 hk);have a2:=rP a3;unfold kH;dsimp only;rw [dlt hk,cond_true,ah hk,M0,show la (b.2.2.2.2.2.1[k].1,b.2.2.2.2.2.1[k].2.1,b.2.2.2.2.2.1[k].2.2.1,b.2.2.2.2.2.1[k].2.2.2)=_ from BE b.2.2.2.2.2.1[k] a3,M0,W _ _ (by simp only [P0]; omega),M0,ak hk (by omega),bw hk,N3];simp
   . unfold kH;simp
 have l3 (s:List UInt8) (hs:s.length<=10000000):loop (iQ b) (0,s)=some (match b.2.2.2.2.2.2.find? (fun x=>!decide (bn x=0)) with | some x => .inr ([],bn x) | none => .inl (s++b.2.2.2.2.2.2.flatMap bR)):=by
   have hl:=wL (body:=iQ b) b.2.2.2.2.2.2 (fun x=>!decide (bn x=0)) (fun k=>((k:Int),s++(b.2.2.2.2.2.2.take k).flatMap bR)) (fun k => .inr ([],bn (b.2.2.2.2.2.2.getD k ([],0,0,0,[],[],[])))) (.inl (s++b.2.2.2.2.2.2.flatMap bR)) ?_ ?_ ?_
   . simp only [S6,Q5,P1] at hl;rw [show ((0:Nat):Int)=0 from rfl] at hl
     rcases hl with ⟨hf,hl⟩ | ⟨k,hk,hf,hb,hl⟩
     . rw [hl,hf]
     . rw [hl,hf]; simp [S1,hk]
   . intro k hk hg hb;have a0:=xB b.2.2.2.2.2.2 hX.2 k (by omega) hX.1 (fun j h1 h2=>by simpa using hg j h1 h2);have hb':bn b.2.2.2.2.2.2[k]=0:=by simpa using hb
     have a1:=(vz b.2.2.2.2.2.2[k] (s++(b.2.2.2.2.2.2.take k).flatMap bR) (by simp only [P0]; omega) (hX.2 _ (U0 hk))).1 hb';unfold iQ;dsimp only;rw [dlt hk,cond_true,ah hk,M0,show fX (b.2.2.2.2.2.2[k].1,(b.2.2.2.2.2.2[k].2.1,b.2.2.2.2.2.2[k].2.2.1,b.2.2.2.2.2.2[k].2.2.2.1,b.2.2.2.2.2.2[k].2.2.2.2.1,b.2.2.2.2.2.2[k].2.2.2.2.2.1,b.2.2.2.2.2.2[k].2.2.2.2.2.2)) (s++(b.2.2.2.2.2.2.take k).flatMap bR)=_ from a1,M0];dsimp only;rw [show (!decide ((0:Int)=0))=false from rfl,cond_false,ak hk (by omega),bw hk,N3];simp
   . intro k hk hg hb;have a0:=xB b.2.2.2.2.2.2 hX.2 k (by omega) hX.1 (fun j h1 h2=>by simpa using hg j h1 h2);have hb':bn b.2.2.2.2.2.2[k]≠0:=by simpa using hb
     obtain ⟨s',a1⟩:=(vz b.2.2.2.2.2.2[k] (s++(b.2.2.2.2.2.2.take k).flatMap bR) (by simp only [P0]; omega) (hX.2 _ (U0 hk))).2 hb';unfold iQ;dsimp only;rw [dlt hk,cond_true,ah hk,M0,show fX (b.2.2.2.2.2.2[k].1,(b.2.2.2.2.2.2[k].2.1,b.2.2.2.2.2.2[k].2.2.1,b.2.2.2.2.2.2[k].2.2.2.1,b.2.2.2.2.2.2[k].2.2.2.2.1,b.2.2.2.2.2.2[k].2.2.2.2.2.1,b.2.2.2.2.2.2[k].2.2.2.2.2.2)) (s++(b.2.2.2.2.2.2.take k).flatMap bR)=_ from a1,M0];dsimp only;rw [decide_eq_false hb'];simp [S1,hk]
   . unfold iQ;simp
 unfold kZ;rw [W _ _ (by simp),M0,g8 _ (by simp),M0,W _ _ (by simp only [P0,V1,M3,P3,Q5,P1]; omega),M0,uU _ hB,M0,W _ _ (by simp only [P0,V1,M3,P3,Q5,P1]; omega),M0,eC,M0,
   W _ _ (by simp only [P0,V1,M3,P3,Q5,P1]; omega),M0,l1 _ (by simp only [P0,V1,M3,P3,Q5,P1]; omega),M0,np _ (by omega),M0,W _ _ (by simp only [P0,V1,M3,P3,Q5,P1]; omega),M0,eC,M0,
   W _ _ (by simp only [P0,V1,M3,P3,Q5,P1]; omega),M0,l2 _ (by simp only [P0,V1,M3,P3,Q5,P1]; omega),M0,eC,M0,W _ _ (by simp only [P0,V1,M3,P3,Q5,P1]; omega),M0,l3 _ (by simp only [P0,V1,M3,P3,Q5,P1]; omega)]
 unfold ma;cases b.2.2.2.2.2.2.find? (fun x=>!decide (bn x=0)) with
 | some x=>rfl
 | none=>simp [po]
end
section
open Go.RowKit Lb
theorem Cod.stmt:Cod cU cK (fun x=>fOk x=true/\okN x.2.1/\okN x.2.2.1/\0<=x.2.2.2.1/\x.2.2.2.1 < 2147483648) where
 back:=fun s x m h=>by
   obtain ⟨_,_,_,h1,h2,h3,h4,h5,h6⟩:=n9 h;exact ⟨⟨h1,h5,h6,h2,h3⟩,h4.symm⟩
 to:=fun x T ⟨h1,h2,h3,h4,h5⟩=>by
   unfold cU;rw [Ch x T h1 h2.1 h3.1 h4 h2.2 h3.2 h5];rfl
abbrev pJ (x:bM):Prop:=((x.1.length:Int)<=65536/\∀ s∈x.1,fOk s=true/\okN s.2.1/\okN s.2.2.1/\0<=s.2.2.2.1/\s.2.2.2.1 < 2147483648)/\aB x.2=0/\qa x.2
def cX (x:bM):List UInt8:=(put (x.1.length:Int)++x.1.flatMap cK)++aH x.2
structure Ext {α:Type} (p:Ps α) (w:α->List UInt8) (ok:α->Prop):Prop where
 back:∀ s x m,p s = .inr (x,m)->ok x/\s.take m=w x
 more:∀ s x m T,(s++T).length<=1000000->p s = .inr (x,m)->p (s++T) = .inr (x,m)
section
variable {α β:Type} {p:Ps α} {w:α->List UInt8} {ok:α->Prop}
theorem Cod.ext (h:Cod p w ok) (hp:Sane p):Ext p w ok:=⟨h.back,fun s x m T _ hs=>by
 obtain ⟨h1,h2⟩:=h.back s x m hs;have hl:=hp.len _ _ _ hs;have h3:=h.to x (s.drop m++T) h1;rw [<- h2,<- O0,O3] at h3;rw [h3,Z0]
 congr 2; omega⟩
end
abbrev More {α:Type} (p:Ps α):Prop:=∀ s x m T,(s++T).length<=1000000->p s = .inr (x,m)->p (s++T) = .inr (x,m)
structure okBd (b:Bod):Prop where
 B:okB 65536 b.2.2.1
 L:∀ t∈b.2.2.2.1,okT t
 R:okT b.2.2.2.2.1
 S:∀ g∈b.2.2.2.2.2.1,okS g
 X:∀ x∈b.2.2.2.2.2.2,pJ x
def cJ (b:Bod):List UInt8:=put b.1++(put b.2.1++(cv b.2.2.1++((put (b.2.2.2.1.length:Int)++b.2.2.2.1.flatMap fL)++(fL b.2.2.2.2.1++((put (b.2.2.2.2.2.1.length:Int)++b.2.2.2.2.2.1.flatMap j5)++(put (b.2.2.2.2.2.2.length:Int)++b.2.2.2.2.2.2.flatMap cX))))))
end
section
abbrev Flt:=Int×Int×Int×Int
def sE (L:List (List St)) (R:Int) (x:Stm):Int:=((ck x L R).getD ([],0)).2
def tE (a:Ar) (x:Tm):Int:=((cj x a).getD ([],0)).2
def aN (b:Bo):Ar:=(((b.2.2.2.2.2.2.length:Nat):Int),b.2.1,b.2.2.2.1,b.2.2.2.2.1,b.2.2.2.2.2.1)
def cG (b:Bo):Flt:=if b.1 < 1\/b.2.1 < b.1 then (7,0,0,0) else if 65536 < b.2.1 then (6,0,0,0) else (0,0,0,0)
def eG (b:Bo):Flt:=match b.2.2.1.findIdx? (aL b.1) with | some k=>(7,1,(k:Int),0) | none=>(0,0,0,0)
def cW (b:Bo):Flt:=if b.2.2.2.1=[] then (14,2,0,0) else match b.2.2.2.1.findIdx? (fun t=>!decide (rck b.2.1 t=0)) with | some k=>(rck b.2.1 (b.2.2.2.1.getD k []),2,(k:Int),0) | none=>(0,0,0,0)
def bN (b:Bo):Flt:=if rck b.1 b.2.2.2.2.1=0 then if shp b.2.2.2.2.1 (b.2.2.2.1.getD 0 []) then (0,3,0,0) else (8,3,0,0) else (rck b.1 b.2.2.2.2.1,3,0,0)
def dR (b:Bo):Flt:=match b.2.2.2.2.2.1.findIdx? (fun s=>!decide (chk s=0)) with | some k=>(chk (b.2.2.2.2.2.1.getD k (0,[],[],[])),4,(k:Int),0) | none=>(0,0,0,0)
def ml (b:Bo):Flt:=if b.2.2.2.2.2.2=[] then (14,5,0,0) else (0,0,0,0)
def aW (b:Bo) (x:Blk):Option (Int×Int×Int) :=
 match x.1.findIdx? (fun s=>!decide (sE b.2.2.2.1 b.2.1 s=0)) with
 | some j=>some (sE b.2.2.2.1 b.2.1 (x.1.getD j (0,0,0,0,false)),6,(j:Int))
 | none=>if tE (aN b) x.2=0 then none else some (tE (aN b) x.2,7,0)
def cH (k:Nat) (o:Option (Int×Int×Int)):Flt:=match o with | some (e,p,j)=>(e,p,(k:Int),j) | none=>(0,0,0,0)
def bf (b:Bo):Flt:=match b.2.2.2.2.2.2.findIdx? (fun x=>(aW b x).isSome) with | some k=>cH k (aW b (b.2.2.2.2.2.2.getD k ([],0,0,0,[],[],[]))) | none=>(0,0,0,0)
def or0 (a b:Flt):Flt:=if a.1=0 then b else a
def vck (b:Bo):Flt:=or0 (cG b) (or0 (eG b) (or0 (cW b) (or0 (bN b) (or0 (dR b) (or0 (ml b) (bf b))))))
theorem vR {t:List St} (n:Int) (h:t.length<=20):dC t n=some (rck n t):=nI t n (by omega)
section
variable {b:Bo} (h:Sm b)
include h
theorem HU {x:Stm}:∃ l,fi x b.2.2.2.1 b.2.1=some (l,sE b.2.2.2.1 b.2.1 x)/\ck x b.2.2.2.1 b.2.1=some (l,sE b.2.2.2.1 b.2.1 x):=by
 obtain ⟨l,e,h1,h2,_⟩:=ve x b.2.2.2.1 b.2.1 h.loc;have:sE b.2.2.2.1 b.2.1 x=e:=by unfold sE; rw [h2]; rfl
 exact ⟨l,by rw [h1,this],by rw [h2,this]⟩
theorem Hd {x:Blk} (hx:x∈b.2.2.2.2.2.2):∃ l,dA x.2 (aN b)=some (l,tE (aN b) x.2)/\cj x.2 (aN b)=some (l,tE (aN b) x.2):=by
 obtain ⟨a1,a2,a3⟩:=h.term x hx;obtain ⟨l,e,h1,h2,_⟩:=xY x.2 (aN b) a1 a2 a3 h.ret h.loc h.sig;have:tE (aN b) x.2=e:=by unfold tE; rw [h2]; rfl
 exact ⟨l,by rw [h1,this],by rw [h2,this]⟩
theorem sgl {s:Sg} (hs:s∈b.2.2.2.2.2.1):da s=some (chk s):=by
 obtain ⟨a1,a2,a3,a4⟩:=h.sig s hs;exact vr s (by omega) (fun t ht=>by have:=a4 t ht; omega)
end
end
set_option maxRecDepth 20000
section
theorem Br (x:Stm) (xb:List (List St)) (xc:Int) (hb:∀ t∈xb,t.length<=20):∃ l e,ck x xb xc=some (l,e)/\(e=0->fOk x=true/\(aF x.1=true->loc xb x.2.1=true)/\(aE x.1=true->loc xb x.2.2.1=true)/\(aD x.1=true->0<=x.2.2.2.1/\x.2.2.2.1 < xc)):=by
 obtain ⟨k,d,s,r,m⟩:=x;unfold ck;have g1:gR k=some (aF k):=rfl;have g2:gO k=some (aE k):=rfl;have g3:gq k=some (aD k):=rfl;simp only [nS,M0,g1,g2,g3,xL];cases hf:fOk (k,d,s,r,m) with
 | false=>exact ⟨[],3,rfl,by simp⟩
 | true =>
   have hk:k=0\/k=1\/k=2\/k=3\/k=4\/k=5:=by
     unfold fOk at hf;simp only [Q0] at hf;exact six (by simpa using hf.1.1.1)
   have hcl (c1 c2 c3:Bool):(cond c1 (some true) (some c2):Option Bool).bind (fun t=>cond t (some true) (some c3))=some (c1||c2||c3):=by cases c1 <;> cases c2 <;> rfl
   simp only [X0,cond_false];cases h1:(aF k&&!loc xb d) with
   | true=>exact ⟨[],7,by simp,by simp⟩
   | false =>
     cases h2:(aE k&&!loc xb s) with
     | true=>exact ⟨[],7,by simp,by simp⟩
     | false =>
       cases h3:(aD k&&(decide (r < 0)||decide (xc<=r))) with
       | true=>exact ⟨[],7,by simp,by simp⟩
       | false =>
         have hg:True/\(aF k=true->loc xb d=true)/\(aE k=true->loc xb s=true)/\(aD k=true->0<=r/\r < xc):=by
           refine ⟨trivial,fun h=>by simpa [h] using h1,fun h=>by simpa [h] using h2,fun h=>?_⟩;rw [h,R7,W7,decide_eq_false_iff_not,decide_eq_false_iff_not] at h3;omega
         simp only [cond_false,M0]
         rcases hk with rfl | rfl | rfl | rfl | rfl | rfl
         . exact ⟨[],0,rfl,fun _=>hg⟩
         . obtain ⟨t1,a1,b1⟩:=cR (hg.2.1 rfl) hb;obtain ⟨t2,a2,b2⟩:=cR (hg.2.2.1 rfl) hb;simp only [a1,a2,decide_true,cond_true,M0];rw [fu _ _ _ _ (by omega) (by omega) (by omega)];exact ⟨_,_,rfl,fun _=>hg⟩
         . obtain ⟨t1,a1,b1⟩:=cR (hg.2.1 rfl) hb;obtain ⟨t2,a2,b2⟩:=cR (hg.2.2.1 rfl) hb;refine ⟨(lo r m t2 t1).1,(lo r m t2 t1).2,?_,fun _=>hg⟩;simp [a1,a2,vN t2 t1 r m (by omega)]
         . obtain ⟨t1,a1,b1⟩:=cR (hg.2.1 rfl) hb;obtain ⟨t2,a2,b2⟩:=cR (hg.2.2.1 rfl) hb;refine ⟨(ag r m t2 t1).1,(ag r m t2 t1).2,?_,fun _=>hg⟩;simp [a1,a2,vu t2 t1 r m (by omega)]
         . exact ⟨[],0,rfl,fun _=>hg⟩
         . exact ⟨[],0,rfl,fun _=>hg⟩
theorem BA {x:Tm} {a:Ar} (hx:x.2.2.2.2.1.length<=20) (hb:bad (a.2.2.1.length:Int) x.2.2.2.2.1=false) (hL:∀ t∈a.2.2.1,t.length<=20) :
   ∃ C:List (List St),loop (iJ x a) ([],0)=some C/\(∀ t∈C,t.length<=20)/\∀ t∈C,t∈a.2.2.1:=by
 have hin (k:Nat) (hk:k < x.2.2.2.2.1.length):0<=x.2.2.2.2.1[k]/\x.2.2.2.2.1[k] < (a.2.2.1.length:Int):=by
   have:=W3.1 hb _ (U0 hk);simp at this; omega
 have hl:=bd (body:=iJ x a) (fun k:Nat=>((x.2.2.2.2.1.take k).map (fun i=>a.2.2.1.getD i.toNat []),(k:Int))) x.2.2.2.2.1.length (b:=x.2.2.2.2.1.map (fun i=>a.2.2.1.getD i.toNat [])) ?_ ?_
 . have hm:∀ t∈x.2.2.2.2.1.map (fun i=>a.2.2.1.getD i.toNat []),t∈a.2.2.1:=by
     intro t ht;obtain ⟨i,hi,rfl⟩:=Z4.1 ht;obtain ⟨k,hk,rfl⟩:=X3 hi;have h2:=hin k hk;have:x.2.2.2.2.1[k].toNat < a.2.2.1.length:=by omega
     have e:a.2.2.1.getD x.2.2.2.2.1[k].toNat []=a.2.2.1[x.2.2.2.2.1[k].toNat]:=by simp [S1,this]
     rw [e]; exact U0 _
   refine ⟨_,hl,fun t ht=>?_,hm⟩;obtain ⟨i,hi,rfl⟩:=Z4.1 ht;obtain ⟨k,hk,rfl⟩:=X3 hi;have h2:=hin k hk;have:x.2.2.2.2.1[k].toNat < a.2.2.1.length:=by omega
   have e:a.2.2.1.getD x.2.2.2.2.1[k].toNat []=a.2.2.1[x.2.2.2.2.1[k].toNat]:=by simp [S1,this]
   rw [e]; exact hL _ (U0 _)
 . intro k hk;have h2:=hin k hk;have h3:x.2.2.2.2.1[k].toNat < a.2.2.1.length:=by omega
   have e:a.2.2.1.getD x.2.2.2.2.1[k].toNat []=a.2.2.1[x.2.2.2.2.1[k].toNat]:=by simp [S1,h3]
   unfold iJ;simp only [dlt hk,cond_true,ah hk,M0];rw [iv h2.1 h2.2,M0,aq (by simp; omega),M0,ak hk (by omega),bw hk,Y2];simp only [Z1,N6,e]
 . simp [iJ]
structure TmG (x:Tm) (a:Ar):Prop where
 form:aB x=0
 tos:bad a.1 x.2.2.2.1=false
 args:bad (a.2.2.1.length:Int) x.2.2.2.2.1=false
 par:bad a.2.1 x.2.2.2.2.2=false
 call:x.1=4->bad (a.2.2.1.length:Int) [x.2.2.1]=false/\bad (a.2.2.2.2.length:Int) [x.2.1]=false
theorem Bt (x:Tm) (a:Ar) (l2:x.2.2.2.1.length<=20) (l3:x.2.2.2.2.1.length<=20) (l4:x.2.2.2.2.2.length<=20) (hR:a.2.2.2.1.length<=20) (hL:∀ t∈a.2.2.1,t.length<=20) (hS:∀ s∈a.2.2.2.2,s.2.1.length<=20/\s.2.2.1.length<=20/\s.2.2.2.length<=20/\∀ t∈s.2.2.1,t.length<=20) :
   ∃ l e,cj x a=some (l,e)/\(e=0->TmG x a):=by
 unfold cj;rw [show fh (x.1,x.2.1,x.2.2.1,x.2.2.2.1,x.2.2.2.2.1,x.2.2.2.2.2)=some (aB x) from nM x];by_cases hf:aB x=0
 . have o1 (i n:Int):cZ [i] n=some (!bad n [i]):=ej [i] n (by simp);simp only [hf,M0,decide_true,X0,cond_false,ej x.2.2.2.1 _ (by omega:x.2.2.2.1.length<=1000),ej x.2.2.2.2.1 _ (by omega:x.2.2.2.2.1.length<=1000),ej x.2.2.2.2.2 _ (by omega:x.2.2.2.2.2.length<=1000),o1,bq0];have seven:∃ l e,(some (([]:List Nd),(7:Int)):Option (List Nd×Int))=some (l,e)/\(e=0->TmG x a):=⟨[],7,rfl,by simp⟩
   cases b1:bad a.1 x.2.2.2.1 with
   | true=>exact seven
   | false =>
     cases b2:bad (a.2.2.1.length:Int) x.2.2.2.2.1 with
     | true=>exact seven
     | false =>
       cases b3:bad a.2.1 x.2.2.2.2.2 with
       | true=>exact seven
       | false =>
         by_cases k4:x.1=4
         . have n3:¬ x.1=3:=by omega
           rw [decide_eq_true k4,decide_eq_false n3];cases b4:bad (a.2.2.1.length:Int) [x.2.2.1] with
           | true=>exact seven
           | false =>
             cases b5:bad (a.2.2.2.2.length:Int) [x.2.1] with
             | true=>exact seven
             | false =>
               obtain ⟨C,c1,c2,c3⟩:=BA l3 b2 hL;have hg:TmG x a:=⟨hf,b1,b2,b3,fun _=>⟨b4,b5⟩⟩;simp [bad] at b4 b5;simp only [Z7,Q8,V6,X0,cond_false,cond_true,M0,c1,T7,R7];rw [iv b5.1 b5.2,iv b4.1 b4.2];have hs:=hS _ (U0 (l:=a.2.2.2.2) (n:=x.2.1.toNat) (by omega));have ht:=hL _ (U0 (l:=a.2.2.1) (n:=x.2.2.1.toNat) (by omega));simp only [M0];generalize a.2.2.2.2[x.2.1.toNat]=S at hs ⊢;generalize a.2.2.1[x.2.2.1.toNat]=D at ht ⊢;rw [show iU (S.1,S.2.1,S.2.2.1,S.2.2.2) x.2.2.2.2.2 C D=_ from vF S _ C D hs.2.2.1 hs.2.2.2 c2 ht];exact ⟨_,_,rfl,fun _=>hg⟩
         . have hg:TmG x a:=⟨hf,b1,b2,b3,fun h=>absurd h k4⟩;rw [decide_eq_false k4];by_cases k3:x.1=3
           . rw [decide_eq_true k3];cases hz:a.2.2.1 with
             | nil=>exact ⟨[],14,by simp,by simp⟩
             | cons t ts =>
               have ht:=hL t (by rw [hz]; simp);have hl0:decide ((((t :: ts).length:Nat):Int)=0)=false:=decide_eq_false (by simp; omega);simp only [hl0,Z7,Q8,T7,V6,X0,cond_false,cond_true,M0,show aa (t :: ts) 0=some t from rfl];rw [fu _ _ _ _ (by omega) (by omega) (by omega)];exact ⟨_,_,rfl,fun _=>hg⟩
           . rw [decide_eq_false k3];exact ⟨[],0,rfl,fun _=>hg⟩
 . exact ⟨[],aB x,by simp [hf],fun h=>absurd h hf⟩
section
variable {b:Bo} (h:Sm b)
include h
theorem D5 {x:Stm} (h0:sE b.2.2.2.1 b.2.1 x=0):fOk x=true/\(aF x.1=true->loc b.2.2.2.1 x.2.1=true)/\(aE x.1=true->loc b.2.2.2.1 x.2.2.1=true)/\(aD x.1=true->0<=x.2.2.2.1/\x.2.2.2.1 < b.2.1):=by
 obtain ⟨l,e,h2,h3⟩:=Br x b.2.2.2.1 b.2.1 h.loc;have:sE b.2.2.2.1 b.2.1 x=e:=by unfold sE; rw [h2]; rfl
 exact h3 (by omega)
theorem ED {x:Blk} (hx:x∈b.2.2.2.2.2.2) (h0:tE (aN b) x.2=0):TmG x.2 (aN b):=by
 obtain ⟨a1,a2,a3⟩:=h.term x hx;obtain ⟨l,e,h2,h3⟩:=Bt x.2 (aN b) a1 a2 a3 h.ret h.loc h.sig;have:tE (aN b) x.2=e:=by unfold tE; rw [h2]; rfl
 exact h3 (by omega)
end
theorem ji {a c:Flt} (h:(or0 a c).1=0):a.1=0/\c.1=0:=by
 unfold or0 at h;by_cases q:a.1=0
 . rw [if_pos q] at h; exact ⟨q,h⟩
 . rw [if_neg q] at h; exact absurd h q
end
section
open Go.RowKit Lb
theorem hY {α:Type} {f g:α->List UInt8}:∀ (l:List α),(∀ x∈l,f x=g x)->l.flatMap f=l.flatMap g
 | [],_=>rfl
 | x :: l,h=>by rw [P3,P3,h x (by simp),hY l (fun y hy=>h y (by simp [hy]))]
theorem nX {t:List St} (h:okT t):aV t=fL t:=by
 unfold aV fL;rw [hY (f:=lI) (g:=pi) t (fun x hx=>by
   unfold lI pi;have:=(wR x).symm.trans (EH (h.2 x hx));rw [P4 this])]
theorem Dk {g:Sgt} (h:okS g):cd g=j5 g:=by
 unfold cd j5 oB ta;rw [nX h.2.2.2,hY g.2.2.1 (fun t ht=>nX (h.2.2.1.2 t ht))]
theorem C5 {x:bM} (h:pJ x):bR x=cX x:=by
 unfold bR cX;rw [hY (f:=bT) (g:=cK) x.1 (fun s hs=>by
   obtain ⟨_,_,_,h4,h5⟩:=h.1.2 s hs;unfold bT cK;rw [P4 ((xD s.2.2.2.1 s.2.2.2.2).symm.trans (Ee h4 h5))])]
theorem rF {x:bM} (h:pJ x):bn x=0:=by
 unfold bn;have:x.1.any (fun s=>!fOk s)=false:=by
   rw [W3]; intro s hs; simp [(h.1.2 s hs).1]
 rw [this]; exact h.2.1
theorem ya {b:Bod} (h:okBd b):ma b=([109,105,114,1]++cJ b,0):=by
 unfold ma;have hf:b.2.2.2.2.2.2.find? (fun x=>!decide (bn x=0))=none:=by
   rw [aA0]; intro x hx; simp [rF (h.X x hx)]
 rw [hf];dsimp only;unfold po cJ;rw [nX h.R,hY b.2.2.2.1 (fun t ht=>nX (h.L t ht)),hY b.2.2.2.2.2.1 (fun g hg=>Dk (h.S g hg)),hY b.2.2.2.2.2.2 (fun x hx=>C5 (h.X x hx))];simp
section
variable {α β:Type}
theorem cI {p:Ps α} {q:α->Ps β} {u T:List UInt8} {x:α} {y:β} {m:Nat} (h1:p (u++T) = .inr (x,u.length)) (h2:q x T = .inr (y,m)):pb p q (u++T) = .inr (y,u.length + m):=by
 unfold pb;rw [h1];dsimp only;rw [S5,h2]
theorem rG {n:Int} (T:List UInt8) (h0:0<=n) (h1:n<=65536):du 65536 (put n++T) = .inr (n,(put n).length) :=
 cI (q:=fun n=>if (65536:Int) < n then tT 6 else aC n) (m:=0) (Cod.num.to n T ⟨h0,by omega⟩) (by rw [if_neg (by omega)]; rfl)
theorem xy {p:Ps α} {w:α->List UInt8} {ok:α->Prop} {B:Nat} (hp:∀ x T,ok x->(w x++T).length<=B->p (w x++T) = .inr (x,(w x).length)):∀ (l:List α) (T:List UInt8),(∀ x∈l,ok x)->(l.flatMap w++T).length<=B->bL p l.length (l.flatMap w++T) = .inr (l,(l.flatMap w).length)
 | [],T,_,_=>rfl
 | x :: l,T,h,hB=>by
   rw [P3,O0] at hB;have ih:=xy hp l T (fun y hy=>h y (by simp [hy])) (by rw [P0] at hB; omega);rw [P3,O0,P0];exact cI (hp x (l.flatMap w++T) (h x (by simp)) hB) (q:=fun x=>pb (bL p l.length) fun xs=>aC (x :: xs)) (m:=(l.flatMap w).length + 0) (cI ih rfl)
theorem ol {p:Ps α} {w:α->List UInt8} {ok:α->Prop} {B:Nat} (hp:∀ x T,ok x->(w x++T).length<=B->p (w x++T) = .inr (x,(w x).length)) (l:List α) (T:List UInt8) (h:∀ x∈l,ok x) (h6:(l.length:Int)<=65536) (hB:((put (l.length:Int)++l.flatMap w)++T).length<=B) :
   aJ 65536 p ((put (l.length:Int)++l.flatMap w)++T) = .inr (l,(put (l.length:Int)++l.flatMap w).length):=by
 rw [O0] at hB ⊢;rw [P0];refine cI (q:=fun n:Int=>bL p n.toNat) (rG _ (by omega) h6) ?_;rw [O1];exact xy hp l T h (by rw [P0] at hB; omega)
end
theorem CL (x:Tm) (T:List UInt8) (h:aB x=0/\qa x) (hB:(aH x++T).length<=1000000):dy (aH x++T) = .inr (x,(aH x).length):=by
 obtain ⟨hf,h1,h2,h3,h4,h5⟩:=h;have:=(F7 x T hf (by rw [P0] at hB; omega) h1 h2 h3 h4 h5).1;unfold dy;rw [if_pos hB,this];rfl
theorem EO (x:bM) (T:List UInt8) (h:pJ x) (hB:(cX x++T).length<=1000000):bZ (cX x++T) = .inr (x,(cX x).length):=by
 obtain ⟨⟨h1,h2⟩,h3⟩:=h;unfold cX at hB ⊢;rw [O0] at hB ⊢;rw [P0];have e1:=ol (p:=cU) (w:=cK) (B:=1000000) (fun s T hs _=>Cod.stmt.to s T hs) x.1 (aH x.2++T) h2 h1 hB;exact cI (q:=fun l=>pb dy fun t=>aC (l,t)) (m:=(aH x.2).length + 0) e1 (cI (q:=fun t=>aC (x.1,t)) (CL x.2 T h3 (by rw [P0] at hB; omega)) rfl)
theorem DI (b:Bod) (h:okBd b) (h1:0<=b.1/\b.1<=65536) (h2:0<=b.2.1/\b.2.1<=65536) (h3:(b.2.2.2.1.length:Int)<=65536) (h4:(b.2.2.2.2.2.1.length:Int)<=65536) (h5:(b.2.2.2.2.2.2.length:Int)<=65536) (hB:(cJ b).length<=1000000) :
   lR (cJ b) = .inr (b,(cJ b).length):=by
 obtain ⟨u,n,B,L,R,S,X⟩:=b;have g1:=h.B; have g2:=h.L; have g3:=h.R; have g4:=h.S; have g5:=h.X;dsimp only at *;unfold cJ at hB ⊢;dsimp only at hB ⊢;have lx:(put (X.length:Int)++X.flatMap cX).length<=1000000:=by simp only [P0] at hB ⊢; omega
 have ex:=ol (p:=bZ) (w:=cX) (B:=1000000) EO X [] g5 h5 (by rw [P1]; exact lx);rw [P1] at ex;have ex':bZ=bZ:=rfl;have e7:pb (aJ 65536 bZ) (fun X=>aC (u,n,B,L,R,S,X)) (put (X.length:Int)++X.flatMap cX) = .inr ((u,n,B,L,R,S,X),(put (X.length:Int)++X.flatMap cX).length + 0):=by
   have:=cI (q:=fun X=>aC (u,n,B,L,R,S,X)) (T:=[]) (m:=0) (y:=(u,n,B,L,R,S,X)) (by rw [P1]; exact ex) rfl;rw [P1] at this;exact this
 have e6:=cI (q:=fun S=>pb (aJ 65536 bZ) fun X=>aC (u,n,B,L,R,S,X)) (ol (p:=bX) (w:=j5) (B:=1000000) (fun x T hx _=>Cod.sig.to x T hx) S (put (X.length:Int)++X.flatMap cX) g4 h4 (by simp only [P0] at hB ⊢; omega)) e7;have e5:=cI (q:=fun R=>pb (aJ 65536 bX) fun S=>pb (aJ 65536 bZ) fun X=>aC (u,n,B,L,R,S,X)) (Cod.type.to R _ g3) e6;have e4:=cI (q:=fun L=>pb bB fun R=>pb (aJ 65536 bX) fun S=>pb (aJ 65536 bZ) fun X=>aC (u,n,B,L,R,S,X)) (ol (p:=bB) (w:=fL) (B:=1000000) (fun x T hx _=>Cod.type.to x T hx) L _ g2 h3 (by simp only [P0] at hB ⊢; omega)) e5;have e3:=cI (q:=fun B=>pb (aJ 65536 bB) fun L=>pb bB fun R=>pb (aJ 65536 bX) fun S=>pb (aJ 65536 bZ) fun X=>aC (u,n,B,L,R,S,X)) ((Cod.bounds (most:=65536) (by decide)).to B _ g1) e4;have e2:=cI (q:=fun n=>pb (dK 65536) fun B=>pb (aJ 65536 bB) fun L=>pb bB fun R=>pb (aJ 65536 bX) fun S=>pb (aJ 65536 bZ) fun X=>aC (u,n,B,L,R,S,X)) (rG _ h2.1 h2.2) e3;have e1:=cI (q:=fun u=>pb (du 65536) fun n=>pb (dK 65536) fun B=>pb (aJ 65536 bB) fun L=>pb bB fun R=>pb (aJ 65536 bX) fun S=>pb (aJ 65536 bZ) fun X=>aC (u,n,B,L,R,S,X)) (rG _ h1.1 h1.2) e2;refine e1.trans ?_;simp only [P0,Z3]
theorem Gl (b:Bod) (hp:lR (cJ b) = .inr (b,(cJ b).length)):tk ([109,105,114,1]++cJ b)=(b,0):=by
 have hh:jB ([109,105,114,1]++cJ b)=true:=by
   unfold jB;simp
 unfold tk;have hd:List.drop 4 (([109,105,114,1]:List UInt8)++cJ b)=cJ b:=rfl;rw [hh,if_pos rfl,hd,hp];dsimp only;rw [if_pos (by rw [List.drop_eq_nil_iff]; simp; omega)]
theorem Fb {b:Bo} (h:(bf b).1=0) {x:Blk} (hx:x∈b.2.2.2.2.2.2):(∀ s∈x.1,sE b.2.2.2.1 b.2.1 s=0)/\tE (aN b) x.2=0:=by
 have hn:aW b x=none:=by
   unfold bf at h;cases hf:b.2.2.2.2.2.2.findIdx? (fun x=>(aW b x).isSome) with
   | none =>
     have:=U1.1 hf x hx;simpa using this
   | some k =>
     exfalso;obtain ⟨hk,h5,_⟩:=R1.1 hf;have e:b.2.2.2.2.2.2.getD k ([],0,0,0,[],[],[])=b.2.2.2.2.2.2[k]:=by simp [S1,hk]
     rw [hf] at h;simp only [e] at h;generalize b.2.2.2.2.2.2[k]=y at h h5;unfold aW at h h5;cases hg:y.1.findIdx? (fun s=>!decide (sE b.2.2.2.1 b.2.1 s=0)) with
     | some j =>
       obtain ⟨hj,h6,_⟩:=R1.1 hg;have e2:y.1.getD j (0,0,0,0,false)=y.1[j]:=by simp [S1,hj]
       rw [hg] at h;simp only [cH,e2] at h;simp [h] at h6
     | none =>
       rw [hg] at h h5;by_cases q:tE (aN b) y.2=0
       . simp [q] at h5
       . simp [q,cH] at h
 unfold aW at hn;cases hg:x.1.findIdx? (fun s=>!decide (sE b.2.2.2.1 b.2.1 s=0)) with
 | some j=>rw [hg] at hn; cases hn
 | none =>
   rw [hg] at hn;refine ⟨fun s hs=>by have:=U1.1 hg s hs; simpa using this,?_⟩;by_cases q:tE (aN b) x.2=0
   . exact q
   . simp [q] at hn
theorem pS {n:Int} {t:List St} (h:rin n t=false) (hn:n<=65536) (hl:t.length<=16):okT t:=⟨by omega,fun x hx=>by have:=dp h hx; constructor <;> omega⟩
theorem mf {n:Int} {l:List Int} (h:bad n l=false) (hn:n<=65536):be l:=fun x hx=>by
 have:=W3.1 h x hx;simp at this;constructor <;> omega
theorem zk {n:Int} {c:Int×Int} (h:aL n c=false) (hn:n<=65536):okN c.1/\okN c.2:=by
 unfold aL at h;simp only [W7,decide_eq_false_iff_not] at h;refine ⟨⟨by omega,by omega⟩,by omega,by omega⟩
theorem zV {L:List (List St)} {d:Int} (h:loc L d=true) (hn:L.length<=65536):okN d:=by
 unfold loc at h;simp only [Q0,decide_eq_true_eq] at h;constructor <;> omega
theorem tS {b:Bo} (h:(cG b).1=0):1<=b.1/\b.1<=b.2.1/\b.2.1<=65536:=by
 unfold cG at h;by_cases q:b.1 < 1\/b.2.1 < b.1
 . rw [if_pos q] at h; cases h
 . rw [if_neg q] at h;by_cases q2:65536 < b.2.1
   . rw [if_pos q2] at h; cases h
   . omega
theorem Hb {b:Bo} (h:Sm b) (hv:(vck b).1=0):okBd b:=by
 unfold vck at hv;obtain ⟨v1,hv⟩:=ji hv;obtain ⟨v2,hv⟩:=ji hv;obtain ⟨v3,hv⟩:=ji hv;obtain ⟨v4,hv⟩:=ji hv;obtain ⟨v5,hv⟩:=ji hv;obtain ⟨v6,v7⟩:=ji hv;have a1:=tS v1;have i0:okN 0:=by constructor <;> decide
 refine ⟨⟨by have:=h.bounds; omega,fun c hc=>?_⟩,fun t ht=>?_,?_,fun s hs=>?_,fun x hx=>?_⟩
 . unfold eG at v2;cases hf:b.2.2.1.findIdx? (aL b.1) with
   | some k=>rw [hf] at v2; cases v2
   | none=>exact zk (U1.1 hf c hc) (by omega)
 . unfold cW at v3;by_cases q:b.2.2.2.1=[]
   . rw [q] at ht; cases ht
   . rw [if_neg q] at v3;cases hf:b.2.2.2.1.findIdx? (fun t=>!decide (rck b.2.1 t=0)) with
     | some k =>
       exfalso;obtain ⟨hk,h5,_⟩:=R1.1 hf;have e:b.2.2.2.1.getD k []=b.2.2.2.1[k]:=by simp [S1,hk]
       rw [hf] at v3;simp only [e] at v3;simp [v3] at h5
     | none =>
       have:=U1.1 hf t ht;have:=dn (show rck b.2.1 t=0 by simpa using this);exact pS this.2 (by omega) this.1
 . unfold bN at v4;by_cases q:rck b.1 b.2.2.2.2.1=0
   . have:=dn q;exact pS this.2 (by omega) this.1
   . rw [if_neg q] at v4; exact absurd v4 q
 . unfold dR at v5;cases hf:b.2.2.2.2.2.1.findIdx? (fun s=>!decide (chk s=0)) with
   | some k =>
     exfalso;obtain ⟨hk,h5,_⟩:=R1.1 hf;have e:b.2.2.2.2.2.1.getD k (0,[],[],[])=b.2.2.2.2.2.1[k]:=by simp [S1,hk]
     rw [hf] at v5;simp only [e] at v5;simp [v5] at h5
   | none =>
     have:=U1.1 hf s hs;obtain ⟨c1,c2,c3,c4,c5,c6,c7,c8⟩:=se (show chk s=0 by simpa using this);exact ⟨⟨by omega,by omega⟩,⟨by omega,fun c hc=>zk (c5 c hc) (by omega)⟩,⟨by omega,fun t ht=>pS (c6 t ht).2 (by omega) (c6 t ht).1⟩,pS c8 (by omega) c7⟩
 . obtain ⟨z1,z2⟩:=Fb v7 hx;have hst:=h.stmts hx;have hL:=h.locals;refine ⟨⟨by omega,fun s hs=>?_⟩,?_⟩
   . obtain ⟨f,d,r,g⟩:=D5 h (z1 s hs);obtain ⟨k,sd,ss,sr,m⟩:=s;have f0:=f;unfold fOk at f;simp only [Q0,cb0,decide_eq_true_eq,ah0] at f;obtain ⟨⟨⟨⟨f1,f2⟩,f3⟩,f4⟩,f5⟩:=f;dsimp only at f1 f2 f3 f4 f5 d r g;refine ⟨f0,?_,?_,?_⟩
     . rcases f3 with f3 | f3
       . exact zV (d f3) (by omega)
       . show okN sd; rw [f3]; exact i0
     . rcases f4 with f4 | f4
       . exact zV (r f4) (by omega)
       . show okN ss; rw [f4]; exact i0
     . rcases f5 with f5 | f5
       . have:=g f5; exact ⟨by show 0<=sr; omega,by show sr < _; omega⟩
       . exact ⟨by show 0<=sr; omega,by show sr < _; omega⟩
   . obtain ⟨g1,g2,g3,g4,g5⟩:=ED h hx z2;obtain ⟨l1,l2,l3⟩:=h.term x hx;obtain ⟨t1,_⟩:=jc g1;have hb:=h.blocks;have hs:=h.sigs;refine ⟨g1,?_⟩;generalize hy:x.2=y at *;obtain ⟨k,s,d,T,A,P⟩:=y;have gT:be T:=mf g2 (by show ((b.2.2.2.2.2.2.length:Nat):Int)<=_; omega);have gA:be A:=mf g3 (by show ((b.2.2.2.1.length:Nat):Int)<=_; omega);have gP:be P:=mf g4 (by show b.2.1<=_; omega);have key:okN s/\okN d:=by
       have hc:dv (k,s,d,T,A,P)=false->s=0/\d=0:=by
         intro hc;unfold dv at hc;simp only [W7,Bool.not_eq_false',decide_eq_true_eq,decide_eq_false_iff_not] at hc;exact ⟨hc.1.1,hc.1.2⟩
       unfold dw at t1;dsimp only at t1 g5;by_cases k4:k=4
       . obtain ⟨q1,q2⟩:=g5 k4;exact ⟨mf q2 (by show ((b.2.2.2.2.2.1.length:Nat):Int)<=_; omega) s (by simp),mf q1 (by show ((b.2.2.2.1.length:Nat):Int)<=_; omega) d (by simp)⟩
       . have:dv (k,s,d,T,A,P)=false:=by
           by_cases k1:k=1
           . subst k1; simp at t1; exact t1.2
           by_cases k2:k=2
           . subst k2; simp at t1; exact t1.2
           by_cases k3:k=3
           . subst k3; simp at t1; exact t1.2
           simp [k1,k2,k3,k4] at t1
         obtain ⟨rfl,rfl⟩:=hc this;exact ⟨i0,i0⟩
     exact ⟨key.1,key.2,gT,gA,gP⟩
end
section
theorem vJ {b:Bo}:(bf b).1=0->bf b=(0,0,0,0):=by
 unfold bf;cases hf:b.2.2.2.2.2.2.findIdx? (fun x=>(aW b x).isSome) with
 | none=>intro _; rfl
 | some k =>
   obtain ⟨hk,h5,_⟩:=R1.1 hf;have e:b.2.2.2.2.2.2.getD k ([],0,0,0,[],[],[])=b.2.2.2.2.2.2[k]:=by simp [S1,hk]
   simp only [e];intro hz;exfalso;generalize b.2.2.2.2.2.2[k]=x at *;unfold aW at hz h5;cases hg:x.1.findIdx? (fun s=>!decide (sE b.2.2.2.1 b.2.1 s=0)) with
   | some j =>
     obtain ⟨hj,h6,_⟩:=R1.1 hg;have e2:x.1.getD j (0,0,0,0,false)=x.1[j]:=by simp [S1,hj]
     rw [hg] at hz;simp only [cH,e2] at hz;simp [hz] at h6
   | none =>
     rw [hg] at hz h5;by_cases q:tE (aN b) x.2=0
     . simp [q] at h5
     . simp [q,cH] at hz
section
variable {b:Bo} (h:Sm b)
include h
theorem Bm:gf b=some (eG b):=by
 have h1:=h.bounds;unfold gf eG;rw [decide_eq_false (by omega),cond_false,bv (body:=fY b) b.2.2.1 (aL b.1) (fun k=>(.inr (7,1,(k:Int),0):Unit⊕Flt)) (.inl ()) ?_ ?_]
 . cases b.2.2.1.findIdx? (aL b.1) <;> rfl
 . intro k hk;unfold fY kg bc;simp only [dlt hk,cond_true,ah hk,M0,ak hk (by omega:b.2.2.1.length<=9223372036854775807)];generalize b.2.2.1[k]=x;obtain ⟨x1,x2⟩:=x;have e (x:Int):(!((decide (0<=x))&&(decide (x < b.1))))=(decide (x < 0)||decide (b.1<=x)):=by
     by_cases p:x < 0 <;> by_cases q:b.1<=x <;> simp [p,q] <;> omega
   simp only [e,aL];by_cases p1:x1 < 0 <;> by_cases p2:b.1<=x1 <;> by_cases p3:x2 < 0 <;> by_cases p4:b.1<=x2 <;> simp [p1,p2,p3,p4]
 . simp [fY]
theorem ER:ge b=some (cW b):=by
 have h1:=h.locals;have h4:=h.loc;unfold ge cW;by_cases q:b.2.2.2.1=[]
 . rw [if_pos q,q]; rfl
 . have q':¬ ((b.2.2.2.1.length:Nat):Int)=0:=fun hc=>q (V0.1 (by omega))
   rw [if_neg q,decide_eq_false q',cond_false,decide_eq_false (by omega),cond_false,bv (body:=fZ b) b.2.2.2.1 (fun t=>!decide (rck b.2.1 t=0)) (fun k=>(.inr (rck b.2.1 (b.2.2.2.1.getD k []),2,(k:Int),0):Unit⊕Flt)) (.inl ()) ?_ ?_]
   . cases b.2.2.2.1.findIdx? (fun t=>!decide (rck b.2.1 t=0)) <;> rfl
   . intro k hk;unfold fZ bc;have e:b.2.2.2.1.getD k []=b.2.2.2.1[k]:=by simp [S1,hk]
     simp only [dlt hk,cond_true,ah hk,M0,ak hk (by omega:b.2.2.2.1.length<=9223372036854775807),e,vR _ (h4 _ (U0 hk))];cases (!decide (rck b.2.1 b.2.2.2.1[k]=0)) <;> rfl
   . simp [fZ]
theorem D7 (hL:b.2.2.2.1≠[]):ef b=some (bN b):=by
 have h3:=h.ret;unfold ef bN;have hp:0 < b.2.2.2.1.length:=N8.2 hL;have e0:b.2.2.2.1.getD 0 []=b.2.2.2.1[0]:=by simp [S1,hp]
 have g0:aa b.2.2.2.1 0=some b.2.2.2.1[0]:=ah (k:=0) hp;rw [vR _ h3,M0,g0,M0,gW _ _ (by omega),e0,M0];by_cases q:rck b.1 b.2.2.2.2.1=0
 . rw [if_pos q,q];cases shp b.2.2.2.2.1 b.2.2.2.1[0] <;> rfl
 . rw [if_neg q,decide_eq_false q]; rfl
theorem ES:gh b=some (dR b):=by
 have h1:=h.sigs;have hs:=fun s (hs:s∈b.2.2.2.2.2.1)=>sgl h hs
 unfold gh dR;rw [decide_eq_false (by omega),cond_false,bv (body:=f9 b) b.2.2.2.2.2.1 (fun s=>!decide (chk s=0)) (fun k=>(.inr (chk (b.2.2.2.2.2.1.getD k (0,[],[],[])),4,(k:Int),0):Unit⊕Flt)) (.inl ()) ?_ ?_]
 . cases b.2.2.2.2.2.1.findIdx? (fun s=>!decide (chk s=0)) <;> rfl
 . intro k hk;unfold f9 bc;have e:b.2.2.2.2.2.1.getD k (0,[],[],[])=b.2.2.2.2.2.1[k]:=by simp [S1,hk]
   have hs':=hs _ (U0 hk);simp only [dlt hk,cond_true,ah hk,M0,ak hk (by omega:b.2.2.2.2.2.1.length<=9223372036854775807),e,show da (b.2.2.2.2.2.1[k].1,b.2.2.2.2.2.1[k].2.1,b.2.2.2.2.2.1[k].2.2.1,b.2.2.2.2.2.1[k].2.2.2)=_ from hs'];cases (!decide (chk b.2.2.2.2.2.1[k]=0)) <;> rfl
 . simp [f9]
theorem E2:ga b=some (ml b):=by
 have h1:=h.blocks;have h2:=h.many;unfold ga ml;by_cases q:b.2.2.2.2.2.2=[]
 . rw [if_pos q,q]; rfl
 . have q':¬ ((b.2.2.2.2.2.2.length:Nat):Int)=0:=fun hc=>q (V0.1 (by omega))
   rw [if_neg q,decide_eq_false q',cond_false,decide_eq_false (by omega),cond_false];have hl1:=bd (body:=iH b) (fun k:Nat=>(((stm (b.2.2.2.2.2.2.take k):Nat):Int),(k:Int))) b.2.2.2.2.2.2.length (b := .inl ()) ?_ ?_
   . have hl1':loop (iH b) (0,0)=some (.inl ()):=by simpa [stm] using hl1
     rw [hl1']; rfl
   . intro k hk;have a1:=r9 hk;have a2:=wI (fun x:Blk=>x.1.length) b.2.2.2.2.2.2 (k + 1);have a3:stm (b.2.2.2.2.2.2.take (k + 1))<=stm b.2.2.2.2.2.2:=a2;unfold iH bc;simp only [dlt hk,cond_true,ah hk,M0,ak hk (by omega:b.2.2.2.2.2.2.length<=9223372036854775807)];rw [w64 (by omega) (by omega),decide_eq_false (by omega),cond_false,a1];simp
   . unfold iH;simp
theorem Dg:d8 b=some (bf b):=by
 have h1:=h.blocks;have hst:=fun x (hx:x∈b.2.2.2.2.2.2)=>h.stmts hx
 have hT:=fun x (hx:x∈b.2.2.2.2.2.2)=>Hd h hx
 have hS:=fun x=>HU h (x:=x)
 unfold d8 bf;rw [bv (body:=f8 b) b.2.2.2.2.2.2 (fun x=>(aW b x).isSome) (fun k=>(.inr (cH k (aW b (b.2.2.2.2.2.2.getD k ([],0,0,0,[],[],[])))):Unit⊕Flt)) (.inl ()) ?_ ?_]
 . cases b.2.2.2.2.2.2.findIdx? (fun x=>(aW b x).isSome) <;> rfl
 . intro k hk;unfold f8;have e:b.2.2.2.2.2.2.getD k ([],0,0,0,[],[],[])=b.2.2.2.2.2.2[k]:=by simp [S1,hk]
   obtain ⟨l,hT',_⟩:=hT _ (U0 hk);have hst':=hst _ (U0 hk);simp only [dlt hk,cond_true,ah hk,M0,ak hk (by omega:b.2.2.2.2.2.2.length<=9223372036854775807),e];generalize b.2.2.2.2.2.2[k]=x at *;rw [bv (body:=f7 b k x) x.1 (fun s=>!decide (sE b.2.2.2.1 b.2.1 s=0)) (fun j=>(.inr (.inr (.inr (sE b.2.2.2.1 b.2.1 (x.1.getD j (0,0,0,0,false)),6,(k:Int),(j:Int)))):Unit⊕(Int⊕(Unit⊕Flt)))) (.inl ()) ?_ ?_]
   . unfold aW;cases hf:x.1.findIdx? (fun s=>!decide (sE b.2.2.2.1 b.2.1 s=0)) with
     | some j=>rfl
     | none =>
       simp only [M0];unfold bc nF;rw [M0,show dA (x.2.1,x.2.2.1,x.2.2.2.1,x.2.2.2.2.1,x.2.2.2.2.2.1,x.2.2.2.2.2.2) (((b.2.2.2.2.2.2.length:Nat):Int),b.2.1,b.2.2.2.1,b.2.2.2.2.1,b.2.2.2.2.2.1)=_ from hT',M0];by_cases q3:tE (aN b) x.2=0
       . simp [q3]
       . simp [q3,cH]
   . intro j hj;obtain ⟨l,hS',_⟩:=hS x.1[j];have e2:x.1.getD j (0,0,0,0,false)=x.1[j]:=by simp [S1,hj]
     unfold f7 bc nA;simp only [dlt hj,cond_true,ah hj,M0,ak hj (by omega:x.1.length<=9223372036854775807),e2,show fi (x.1[j].1,x.1[j].2.1,x.1[j].2.2.1,x.1[j].2.2.2.1,x.1[j].2.2.2.2) b.2.2.2.1 b.2.1=_ from hS'];cases (!decide (sE b.2.2.2.1 b.2.1 x.1[j]=0)) <;> rfl
   . simp [f7]
 . simp [f8]
theorem AQ:d7 b=some (vck b):=by
 unfold d7 vck bc;have hh:gm b=some (cG b):=by
   unfold gm cG;by_cases q:b.1 < 1\/b.2.1 < b.1
   . have:(decide (b.1 < 1)||decide (b.2.1 < b.1))=true:=by simpa using q
     rw [this,if_pos q]; rfl
   . have:(decide (b.1 < 1)||decide (b.2.1 < b.1))=false:=by simpa using q
     rw [this,if_neg q,cond_false];by_cases q2:65536 < b.2.1
     . rw [decide_eq_true q2,if_pos q2]; rfl
     . rw [decide_eq_false q2,if_neg q2]; rfl
 rw [M0,show gm b=_ from hh,show gf b=_ from Bm h,show ge b=_ from ER h,
   show gh b=_ from ES h,show ga b=_ from E2 h,show d8 b=_ from Dg h]
 have hret:(cW b).1=0->ef b=some (bN b):=by
   intro hz;refine D7 h (fun hc=>?_);unfold cW at hz;rw [if_pos hc] at hz; cases hz
 have hz6:(bf b).1=0->bf b=(0,0,0,0):=vJ;generalize cG b=v1;generalize eG b=v2;generalize cW b=v3 at *;generalize bN b=v4 at *;generalize dR b=v5;generalize ml b=v6;generalize bf b=v7 at *;unfold or0;by_cases q1:v1.1=0 <;> by_cases q2:v2.1=0 <;> by_cases q3:v3.1=0 <;> by_cases q4:v4.1=0 <;> by_cases q5:v5.1=0 <;> by_cases q6:v6.1=0 <;> by_cases q7:v7.1=0 <;> simp_all
end
end
theorem n5 (t:List St) (n:Int):dC t n=some (rck n t):=by
 by_cases h:16 < t.length
 . unfold dC rck;rw [decide_eq_true (by omega),if_pos h]; rfl
 . exact nI t n (by omega)
theorem BS (s:Sg):da s=some (chk s):=by
 obtain ⟨n,B,A,R⟩:=s;unfold da chk;dsimp only at *;by_cases h0:n < 0
 . rw [decide_eq_true h0,if_pos h0]; rfl
 . rw [decide_eq_false h0,if_neg h0,cond_false,sS];by_cases h1:16 < n\/16 < B.length\/16 < A.length
   . rw [decide_eq_true h1,if_pos h1]; rfl
   . rw [decide_eq_false h1,if_neg h1,cond_false];rw [hI (body:=gv (n,B,A,R)) B (aL n) (.inr 7) (.inl ()) ?_ ?_]
     . cases hb:B.any (aL n) with
       | true=>rfl
       | false =>
         simp only [N2,if_false,M0];rw [tY (body:=gy (n,B,A,R)) (n:=n) (A:=A) (by omega) ?_ ?_]
         . rw [n5 R n];simp only [M0];cases lc n A <;> rfl
         . intro k hk;unfold gy;simp only [dlt hk,cond_true,ah hk,M0];rw [n5,M0]
         . simp [gy]
     . intro k hk;unfold gv kl;simp only [dlt hk,cond_true,ah hk,M0,ak hk (by omega:B.length<=9223372036854775807)];generalize B[k]=b;obtain ⟨b1,b2⟩:=b;have e (x:Int):(!((decide (0<=x))&&(decide (x < n))))=(decide (x < 0)||decide (n<=x)):=by
         by_cases p:x < 0 <;> by_cases q:n<=x <;> simp [p,q] <;> omega
       simp only [e,aL];by_cases p1:b1 < 0 <;> by_cases p2:n<=b1 <;> by_cases p3:b2 < 0 <;> by_cases p4:n<=b2 <;> simp [p1,p2,p3,p4]
     . simp [gv]
theorem Cs {s:Sg} (h:chk s=0):s.2.1.length<=20/\s.2.2.1.length<=20/\s.2.2.2.length<=20/\∀ t∈s.2.2.1,t.length<=20:=by
 unfold chk at h;by_cases h0:s.1 < 0
 . rw [if_pos h0] at h; cases h
 . rw [if_neg h0] at h;by_cases h1:16 < s.1\/16 < s.2.1.length\/16 < s.2.2.1.length
   . rw [if_pos h1] at h; cases h
   . rw [if_neg h1] at h;cases hb:s.2.1.any (aL s.1) with
     | true=>rw [hb] at h; simp at h
     | false =>
       rw [hb] at h;simp only [N2,if_false] at h;unfold lc at h;cases hf:s.2.2.1.findIdx? (fun t=>!decide (rck s.1 t=0)) with
       | some k =>
         exfalso;obtain ⟨hk,h5,_⟩:=R1.1 hf;have e:s.2.2.1.getD k []=s.2.2.1[k]:=by simp [S1,hk]
         rw [hf] at h;simp only [e] at h;simp [h] at h5
       | none =>
         rw [hf] at h;have hr:=(dn h).1;refine ⟨by omega,by omega,by omega,fun t ht=>?_⟩;have:=U1.1 hf t ht;have:=(dn (by simpa using this)).1;omega
theorem DG (x:Tm) (a:Ar) (hR:a.2.2.2.1.length<=20) (hL:∀ t∈a.2.2.1,t.length<=20) (hS:∀ s∈a.2.2.2.2,s.2.1.length<=20/\s.2.2.1.length<=20/\s.2.2.2.length<=20/\∀ t∈s.2.2.1,t.length<=20) :
   ∃ l e,dA x a=some (l,e)/\cj x a=some (l,e):=by
 by_cases hf:aB x=0
 . obtain ⟨_,l2,l3,l4⟩:=jc hf;obtain ⟨l,e,h1,h2,_⟩:=xY x a (by omega) (by omega) (by omega) hR hL hS;exact ⟨l,e,h1,h2⟩
 . refine ⟨[],aB x,?_,?_⟩
   . unfold dA;rw [show fq (x.1,x.2.1,x.2.2.1,x.2.2.2.1,x.2.2.2.2.1,x.2.2.2.2.2)=some (aB x) from rV x,M0,decide_eq_false hf]; rfl
   . unfold cj;rw [show fh (x.1,x.2.1,x.2.2.1,x.2.2.2.1,x.2.2.2.2.1,x.2.2.2.2.2)=some (aB x) from nM x,M0,decide_eq_false hf]; rfl
def lB (b:Bo):Flt:=if 65536 < b.2.2.1.length then (6,1,0,0) else eG b
def lL (b:Bo):Flt:=if b.2.2.2.1=[] then (14,2,0,0) else if 65536 < b.2.2.2.1.length then (6,2,0,0) else cW b
def lS (b:Bo):Flt:=if 65536 < b.2.2.2.2.2.1.length then (6,4,0,0) else dR b
def lkR (X:List Blk):Unit⊕Flt:=((U3 X.length).findSome? (fun k=>if 65536 < stm (X.take (k + 1)) then some (.inr (6,5,(k:Int),0):Unit⊕Flt) else none)).getD (.inl ())
def lK (b:Bo):Flt:=if b.2.2.2.2.2.2=[] then (14,5,0,0) else if 65536 < b.2.2.2.2.2.2.length then (6,5,0,0) else match lkR b.2.2.2.2.2.2 with | .inr f=>f | .inl ()=>(0,0,0,0)
theorem Ex {X:List Blk} {f:Flt} (h:lkR X = .inr f):f.1=6:=by
 unfold lkR at h;cases hf:(U3 X.length).findSome? (fun k=>if 65536 < stm (X.take (k + 1)) then some (.inr (6,5,(k:Int),0):Unit⊕Flt) else none) with
 | none=>rw [hf] at h; cases h
 | some v =>
   rw [hf] at h;simp only [Option.getD_some] at h;subst h;obtain ⟨k,_,hk⟩:=List.exists_of_findSome?_eq_some hf;by_cases q:65536 < stm (X.take (k + 1))
   . rw [if_pos q] at hk; cases hk; rfl
   . rw [if_neg q] at hk; cases hk
theorem sV {b:Bo} (h:(lL b).1=0):b.2.2.2.1≠[]/\b.2.2.2.1.length<=65536/\∀ t∈b.2.2.2.1,t.length<=20:=by
 unfold lL at h;by_cases q:b.2.2.2.1=[]
 . rw [if_pos q] at h; cases h
 . rw [if_neg q] at h;by_cases q2:65536 < b.2.2.2.1.length
   . rw [if_pos q2] at h; cases h
   . rw [if_neg q2] at h;refine ⟨q,by omega,fun t ht=>?_⟩;unfold cW at h;rw [if_neg q] at h;cases hf:b.2.2.2.1.findIdx? (fun t=>!decide (rck b.2.1 t=0)) with
     | some k =>
       exfalso;obtain ⟨hk,h5,_⟩:=R1.1 hf;have e:b.2.2.2.1.getD k []=b.2.2.2.1[k]:=by simp [S1,hk]
       rw [hf] at h;simp only [e] at h;simp [h] at h5
     | none =>
       have:=U1.1 hf t ht;have:=(dn (by simpa using this)).1;omega
theorem wv {b:Bo} (h:(bN b).1=0):b.2.2.2.2.1.length<=20:=by
 unfold bN at h;by_cases q:rck b.1 b.2.2.2.2.1=0
 . have:=(dn q).1; omega
 . rw [if_neg q] at h; exact absurd h q
theorem xO {b:Bo} (h:(lS b).1=0):∀ s∈b.2.2.2.2.2.1,s.2.1.length<=20/\s.2.2.1.length<=20/\s.2.2.2.length<=20/\∀ t∈s.2.2.1,t.length<=20:=by
 unfold lS at h;by_cases q2:65536 < b.2.2.2.2.2.1.length
 . rw [if_pos q2] at h; cases h
 . rw [if_neg q2] at h;intro s hs;unfold dR at h;cases hf:b.2.2.2.2.2.1.findIdx? (fun s=>!decide (chk s=0)) with
   | some k =>
     exfalso;obtain ⟨hk,h5,_⟩:=R1.1 hf;have e:b.2.2.2.2.2.1.getD k (0,[],[],[])=b.2.2.2.2.2.1[k]:=by simp [S1,hk]
     rw [hf] at h;simp only [e] at h;simp [h] at h5
   | none =>
     have:=U1.1 hf s hs;exact Cs (by simpa using this)
theorem BF (b:Bo):gf b=some (lB b):=by
 unfold gf lB;by_cases h1:65536 < b.2.2.1.length
 . rw [decide_eq_true (by omega),cond_true,if_pos h1]
 . unfold eG;rw [if_neg h1,decide_eq_false (by omega),cond_false,bv (body:=fY b) b.2.2.1 (aL b.1) (fun k=>(.inr (7,1,(k:Int),0):Unit⊕Flt)) (.inl ()) ?_ ?_]
   . cases b.2.2.1.findIdx? (aL b.1) <;> rfl
   . intro k hk;unfold fY kg bc;simp only [dlt hk,cond_true,ah hk,M0,ak hk (by omega:b.2.2.1.length<=9223372036854775807)];generalize b.2.2.1[k]=x;obtain ⟨x1,x2⟩:=x;have e (x:Int):(!((decide (0<=x))&&(decide (x < b.1))))=(decide (x < 0)||decide (b.1<=x)):=by
       by_cases p:x < 0 <;> by_cases q:b.1<=x <;> simp [p,q] <;> omega
     simp only [e,aL];by_cases p1:x1 < 0 <;> by_cases p2:b.1<=x1 <;> by_cases p3:x2 < 0 <;> by_cases p4:b.1<=x2 <;> simp [p1,p2,p3,p4]
   . simp [fY]
theorem Eh (b:Bo):ge b=some (lL b):=by
 unfold ge lL;by_cases q:b.2.2.2.1=[]
 . rw [if_pos q,q]; rfl
 . have q':¬ ((b.2.2.2.1.length:Nat):Int)=0:=fun hc=>q (V0.1 (by omega))
   rw [if_neg q,decide_eq_false q',cond_false];by_cases h1:65536 < b.2.2.2.1.length
   . rw [decide_eq_true (by omega),cond_true,if_pos h1]
   . unfold cW;rw [if_neg h1,if_neg q,decide_eq_false (by omega),cond_false,bv (body:=fZ b) b.2.2.2.1 (fun t=>!decide (rck b.2.1 t=0)) (fun k=>(.inr (rck b.2.1 (b.2.2.2.1.getD k []),2,(k:Int),0):Unit⊕Flt)) (.inl ()) ?_ ?_]
     . cases b.2.2.2.1.findIdx? (fun t=>!decide (rck b.2.1 t=0)) <;> rfl
     . intro k hk;unfold fZ bc;have e:b.2.2.2.1.getD k []=b.2.2.2.1[k]:=by simp [S1,hk]
       simp only [dlt hk,cond_true,ah hk,M0,ak hk (by omega:b.2.2.2.1.length<=9223372036854775807),e,n5];cases (!decide (rck b.2.1 b.2.2.2.1[k]=0)) <;> rfl
     . simp [fZ]
theorem DW {b:Bo} (hL:b.2.2.2.1≠[]):ef b=some (bN b):=by
 unfold ef bN;have hp:0 < b.2.2.2.1.length:=N8.2 hL;have e0:b.2.2.2.1.getD 0 []=b.2.2.2.1[0]:=by simp [S1,hp]
 have g0:aa b.2.2.2.1 0=some b.2.2.2.1[0]:=ah (k:=0) hp;rw [n5,M0,g0,M0];by_cases q:rck b.1 b.2.2.2.2.1=0
 . have:=(dn q).1;rw [gW _ _ (by omega),e0,M0,if_pos q,q];cases shp b.2.2.2.2.1 b.2.2.2.1[0] <;> rfl
 . rw [if_neg q,decide_eq_false q]; rfl
theorem Ef (b:Bo):gh b=some (lS b):=by
 unfold gh lS;by_cases h1:65536 < b.2.2.2.2.2.1.length
 . rw [decide_eq_true (by omega),cond_true,if_pos h1]
 . unfold dR;rw [if_neg h1,decide_eq_false (by omega),cond_false,bv (body:=f9 b) b.2.2.2.2.2.1 (fun s=>!decide (chk s=0)) (fun k=>(.inr (chk (b.2.2.2.2.2.1.getD k (0,[],[],[])),4,(k:Int),0):Unit⊕Flt)) (.inl ()) ?_ ?_]
   . cases b.2.2.2.2.2.1.findIdx? (fun s=>!decide (chk s=0)) <;> rfl
   . intro k hk;unfold f9 bc;have e:b.2.2.2.2.2.1.getD k (0,[],[],[])=b.2.2.2.2.2.1[k]:=by simp [S1,hk]
     simp only [dlt hk,cond_true,ah hk,M0,ak hk (by omega:b.2.2.2.2.2.1.length<=9223372036854775807),e,show da (b.2.2.2.2.2.1[k].1,b.2.2.2.2.2.1[k].2.1,b.2.2.2.2.2.1[k].2.2.1,b.2.2.2.2.2.1[k].2.2.2)=_ from BS _];cases (!decide (chk b.2.2.2.2.2.1[k]=0)) <;> rfl
   . simp [f9]
section
theorem wu {X:List Blk} (hx:∀ x∈X,x.1.length<=140737488351232) (k:Nat):stm (X.take k)<=X.length * 140737488351232:=by
 have key:∀ l:List Blk,(∀ x∈l,x.1.length<=140737488351232)->stm l<=l.length * 140737488351232:=by
   intro l
   induction l with
   | nil=>intro _; simp [stm]
   | cons x l ih =>
     intro h;have h1:=ih (fun y hy=>h y (R2 _ hy));have h2:=h x (ab0 ..);unfold stm at *;simp only [Z1,ba0,V1,Q4];omega
 have h1:=key X hx;have h2:=wI (fun x:Blk=>x.1.length) X k;unfold stm at *;omega
section
variable {b:Bo} (hx:∀ x∈b.2.2.2.2.2.2,x.1.length<=140737488351232)
include hx
theorem xq {body:(Int×Int)->Option ((Int×Int)⊕(Unit⊕Flt))} (hX:b.2.2.2.2.2.2.length<=65536)
   (hb:∀ i k,body (i,k)=cond (decide (k < ((b.2.2.2.2.2.2.length:Nat):Int))) ((aa b.2.2.2.2.2.2 k).bind fun x=>cond (decide (65536 < (IntKind.wrap .i64 (i + ((x.1.length:Nat):Int))))) (some (.inr (.inr (6,5,k,0)))) (some (.inl (IntKind.wrap .i64 (i + ((x.1.length:Nat):Int)),IntKind.wrap .i64 (k + 1))))) (some (.inr (.inl ())))) :
   loop body (0,0)=some (lkR b.2.2.2.2.2.2):=by
 have h:=BO (body:=body) b.2.2.2.2.2.2.length (fun k:Nat=>(((stm (b.2.2.2.2.2.2.take k):Nat):Int),(k:Int))) (fun k=>if 65536 < stm (b.2.2.2.2.2.2.take (k + 1)) then some (.inr (6,5,(k:Int),0):Unit⊕Flt) else none) (.inl ()) ?_ ?_
 . unfold lkR;rw [<- h]; simp [stm]
 . intro k hk;have a1:=r9 hk;have a2:=wu hx k;have a3:=wu hx (k + 1);have a4:b.2.2.2.2.2.2.length * 140737488351232<=65536 * 140737488351232:=V3 _ hX;rw [hb];simp only [dlt hk,cond_true,ah hk,M0,ak hk (by omega:b.2.2.2.2.2.2.length<=9223372036854775807)];have e:IntKind.wrap .i64 (((stm (b.2.2.2.2.2.2.take k):Nat):Int) + ((b.2.2.2.2.2.2[k].1.length:Nat):Int))=((stm (b.2.2.2.2.2.2.take (k + 1)):Nat):Int):=by
     rw [w64 (by omega) (by omega),a1]; omega
   rw [e];by_cases q:65536 < stm (b.2.2.2.2.2.2.take (k + 1))
   . rw [decide_eq_true (by omega),if_pos q]; rfl
   . rw [decide_eq_false (by omega),if_neg q]; rfl
 . rw [hb]; simp
theorem D6:ga b=some (lK b):=by
 unfold ga lK;by_cases q:b.2.2.2.2.2.2=[]
 . rw [if_pos q,q]; rfl
 . have q':¬ ((b.2.2.2.2.2.2.length:Nat):Int)=0:=fun hc=>q (V0.1 (by omega))
   rw [if_neg q,decide_eq_false q',cond_false];by_cases h1:65536 < b.2.2.2.2.2.2.length
   . rw [decide_eq_true (by omega),cond_true,if_pos h1]
   . rw [if_neg h1,decide_eq_false (by omega),cond_false,xq (body:=iH b) hx (by omega) (fun i k=>rfl)];cases lkR b.2.2.2.2.2.2 <;> rfl
theorem DA:nE b=some (or0 (cG b) (lB b)):=by
 obtain ⟨u,n,B,L,R,S,X⟩:=b;unfold nE cG lB eG or0;dsimp only at *;by_cases q:u < 1\/n < u
 . have:(decide (u < 1)||decide (n < u))=true:=by simpa using q
   rw [this,if_pos q]; rfl
 . have:(decide (u < 1)||decide (n < u))=false:=by simpa using q
   rw [this,if_neg q,cond_false];by_cases q2:65536 < n
   . rw [decide_eq_true q2,if_pos q2]; rfl
   . rw [decide_eq_false q2,if_neg q2,cond_false];by_cases q3:65536 < B.length
     . rw [decide_eq_true (by omega),if_pos q3]; rfl
     . rw [decide_eq_false (by omega),if_neg q3,cond_false,bv (body:=m9 (u,n,B,L,R,S,X)) B (aL u) (fun k=>(.inr (7,1,(k:Int),0):Unit⊕Flt)) (.inl ()) ?_ ?_]
       . cases B.findIdx? (aL u) <;> rfl
       . intro k hk;unfold m9;simp only [dlt hk,cond_true,ah hk,M0,ak hk (by omega:B.length<=9223372036854775807)];show cond (aL u B[k]) _ _=_;cases aL u B[k] <;> rfl
       . simp [m9]
omit hx in
theorem Ce:nw b=some (or0 (lL b) (or0 (bN b) (lS b))):=by
 obtain ⟨u,n,B,L,R,S,X⟩:=b;unfold nw lL cW bN lS dR;dsimp only at *;by_cases q:L=[]
 . subst q; rfl
 . have q' : ¬ ((L.length : Nat) : Int) = 0 := fun hc => q (V0.1 (by omega))
   rw [if_neg q,decide_eq_false q',cond_false];by_cases g1:65536 < L.length
   . rw [decide_eq_true (by omega),cond_true,if_pos g1]; rfl
   . rw [if_neg g1,if_neg q,decide_eq_false (by omega),cond_false,bv (body:=mX (u,n,B,L,R,S,X)) L (fun t=>!decide (rck n t=0)) (fun k=>(.inr (rck n (L.getD k []),2,(k:Int),0):Unit⊕Flt)) (.inl ()) ?_ ?_]
     . cases hf:L.findIdx? (fun t=>!decide (rck n t=0)) with
       | some k =>
         obtain ⟨hk,h5,_⟩:=R1.1 hf;have e:L.getD k []=L[k]:=by simp [S1,hk]
         have:¬ rck n L[k]=0:=by simpa using h5
         simp only [or0,e,if_neg this]; rfl
       | none =>
         have hp:0 < L.length:=N8.2 q;have e0:L.getD 0 []=L[0]:=by simp [S1,hp]
         have hL0:L[0].length<=16:=by
           have:=U1.1 hf L[0] (U0 hp);exact (dn (by simpa using this)).1
         simp only [M0,nJ];by_cases q2:rck u R=0
         . have g0:aa L 0=some L[0]:=ah (k:=0) hp;simp only [q2,decide_true,X0,cond_false,g0,M0,e0];rw [kY _ _ (by omega),hU,M0];cases hs:shp R L[0] with
           | false=>rfl
           | true =>
             simp only [X0,cond_false];by_cases g2:65536 < S.length
             . rw [decide_eq_true (by omega),if_pos g2]; rfl
             . rw [decide_eq_false (by omega),if_neg g2,cond_false,bv (body:=mZ (u,n,B,L,R,S,X)) S (fun s=>!decide (chk s=0)) (fun k=>(.inr (chk (S.getD k (0,[],[],[])),4,(k:Int),0):Unit⊕Flt)) (.inl ()) ?_ ?_]
               . cases S.findIdx? (fun s=>!decide (chk s=0)) <;> rfl
               . intro k hk;unfold mZ;have e:S.getD k (0,[],[],[])=S[k]:=by simp [S1,hk]
                 simp only [dlt hk,cond_true,ah hk,M0,ak hk (by omega:S.length<=9223372036854775807),e,show gE (S[k].1,S[k].2.1,S[k].2.2.1,S[k].2.2.2)=_ from vg S[k]];cases (!decide (chk S[k]=0)) <;> rfl
               . simp [mZ]
         . simp [q2,or0]
     . intro k hk;unfold mX;have e:L.getD k []=L[k]:=by simp [S1,hk]
       simp only [dlt hk,cond_true,ah hk,M0,ak hk (by omega:L.length<=9223372036854775807),e,nJ];cases (!decide (rck n L[k]=0)) <;> rfl
     . simp [mX]
variable (hL:∀ t∈b.2.2.2.1,t.length<=20) (hR:b.2.2.2.2.1.length<=20) (hS:∀ s∈b.2.2.2.2.2.1,s.2.1.length<=20/\s.2.2.1.length<=20/\s.2.2.2.length<=20/\∀ t∈s.2.2.1,t.length<=20)
include hL hR hS
omit hx hR hS in
theorem zC {x:Stm}:∃ l,fi x b.2.2.2.1 b.2.1=some (l,sE b.2.2.2.1 b.2.1 x)/\ck x b.2.2.2.1 b.2.1=some (l,sE b.2.2.2.1 b.2.1 x):=by
 obtain ⟨l,e,h1,h2,_⟩:=ve x b.2.2.2.1 b.2.1 hL;have:sE b.2.2.2.1 b.2.1 x=e:=by unfold sE; rw [h2]; rfl
 exact ⟨l,by rw [h1,this],by rw [h2,this]⟩
omit hx in
theorem zg {x:Tm}:∃ l,dA x (aN b)=some (l,tE (aN b) x)/\cj x (aN b)=some (l,tE (aN b) x):=by
 obtain ⟨l,e,h1,h2⟩:=DG x (aN b) hR hL hS;have:tE (aN b) x=e:=by unfold tE; rw [h2]; rfl
 exact ⟨l,by rw [h1,this],by rw [h2,this]⟩
theorem Du (hX:b.2.2.2.2.2.2.length<=65536):d8 b=some (bf b):=by
 unfold d8 bf;rw [bv (body:=f8 b) b.2.2.2.2.2.2 (fun x=>(aW b x).isSome) (fun k=>(.inr (cH k (aW b (b.2.2.2.2.2.2.getD k ([],0,0,0,[],[],[])))):Unit⊕Flt)) (.inl ()) ?_ ?_]
 . cases b.2.2.2.2.2.2.findIdx? (fun x=>(aW b x).isSome) <;> rfl
 . intro k hk;unfold f8;have e:b.2.2.2.2.2.2.getD k ([],0,0,0,[],[],[])=b.2.2.2.2.2.2[k]:=by simp [S1,hk]
   have hst':=hx _ (U0 hk);simp only [dlt hk,cond_true,ah hk,M0,ak hk (by omega:b.2.2.2.2.2.2.length<=9223372036854775807),e];generalize b.2.2.2.2.2.2[k]=x at *;obtain ⟨l,hT',_⟩:=zg hL hR hS (x:=x.2);rw [bv (body:=f7 b k x) x.1 (fun s=>!decide (sE b.2.2.2.1 b.2.1 s=0)) (fun j=>(.inr (.inr (.inr (sE b.2.2.2.1 b.2.1 (x.1.getD j (0,0,0,0,false)),6,(k:Int),(j:Int)))):Unit⊕(Int⊕(Unit⊕Flt)))) (.inl ()) ?_ ?_]
   . unfold aW;cases hf:x.1.findIdx? (fun s=>!decide (sE b.2.2.2.1 b.2.1 s=0)) with
     | some j=>rfl
     | none =>
       simp only [M0];unfold bc nF;rw [M0,show dA (x.2.1,x.2.2.1,x.2.2.2.1,x.2.2.2.2.1,x.2.2.2.2.2.1,x.2.2.2.2.2.2) (((b.2.2.2.2.2.2.length:Nat):Int),b.2.1,b.2.2.2.1,b.2.2.2.2.1,b.2.2.2.2.2.1)=_ from hT',M0];by_cases q3:tE (aN b) x.2=0
       . simp [q3]
       . simp [q3,cH]
   . intro j hj;obtain ⟨l,hS',_⟩:=zC (b:=b) hL (x:=x.1[j]);have e2:x.1.getD j (0,0,0,0,false)=x.1[j]:=by simp [S1,hj]
     unfold f7 bc nA;simp only [dlt hj,cond_true,ah hj,M0,ak hj (by omega:x.1.length<=9223372036854775807),e2,show fi (x.1[j].1,x.1[j].2.1,x.1[j].2.2.1,x.1[j].2.2.2.1,x.1[j].2.2.2.2) b.2.2.2.1 b.2.1=_ from hS'];cases (!decide (sE b.2.2.2.1 b.2.1 x.1[j]=0)) <;> rfl
   . simp [f7]
 . simp [f8]
theorem Bu:iO b=some (or0 (lK b) (bf b)):=by
 unfold iO lK bf;by_cases q:b.2.2.2.2.2.2=[]
 . rw [if_pos q,q]; rfl
 . have q' : ¬ ((b.2.2.2.2.2.2.length : Nat) : Int) = 0 := fun hc => q (V0.1 (by omega))
   rw [if_neg q,decide_eq_false q',cond_false];by_cases h1:65536 < b.2.2.2.2.2.2.length
   . rw [decide_eq_true (by omega),cond_true,if_pos h1]; rfl
   . rw [if_neg h1,decide_eq_false (by omega),cond_false,xq (body:=uQ b) hx (by omega) (fun i k=>rfl)];cases hk6:lkR b.2.2.2.2.2.2 with
     | inr f =>
       have:=Ex hk6;simp only [M0,or0];rw [if_neg (by omega)]
     | inl u =>
     rw [M0];dsimp only;rw [bv (body:=mV b) b.2.2.2.2.2.2 (fun x=>(aW b x).isSome) (fun k=>(.inr (cH k (aW b (b.2.2.2.2.2.2.getD k ([],0,0,0,[],[],[])))):Unit⊕Flt)) (.inl ()) ?_ ?_]
     . cases b.2.2.2.2.2.2.findIdx? (fun x=>(aW b x).isSome) <;> rfl
     . intro k hk;unfold mV;have e:b.2.2.2.2.2.2.getD k ([],0,0,0,[],[],[])=b.2.2.2.2.2.2[k]:=by simp [S1,hk]
       have hst':=hx _ (U0 hk);simp only [dlt hk,cond_true,ah hk,M0,ak hk (by omega:b.2.2.2.2.2.2.length<=9223372036854775807),e];generalize b.2.2.2.2.2.2[k]=x at *;obtain ⟨l,_,hT'⟩:=zg hL hR hS (x:=x.2);rw [bv (body:=mS b k x) x.1 (fun s=>!decide (sE b.2.2.2.1 b.2.1 s=0)) (fun j=>(.inr (.inr (.inr (sE b.2.2.2.1 b.2.1 (x.1.getD j (0,0,0,0,false)),6,(k:Int),(j:Int)))):Unit⊕(Int⊕(Unit⊕Flt)))) (.inl ()) ?_ ?_]
       . unfold aW;cases hf:x.1.findIdx? (fun s=>!decide (sE b.2.2.2.1 b.2.1 s=0)) with
         | some j=>rfl
         | none =>
           simp only [M0];rw [show cj (x.2.1,x.2.2.1,x.2.2.2.1,x.2.2.2.2.1,x.2.2.2.2.2.1,x.2.2.2.2.2.2) (((b.2.2.2.2.2.2.length:Nat):Int),b.2.1,b.2.2.2.1,b.2.2.2.2.1,b.2.2.2.2.2.1)=_ from hT',M0];by_cases q3:tE (aN b) x.2=0
           . simp [q3]
           . simp [q3,cH]
       . intro j hj;obtain ⟨l,_,hS'⟩:=zC (b:=b) hL (x:=x.1[j]);have e2:x.1.getD j (0,0,0,0,false)=x.1[j]:=by simp [S1,hj]
         unfold mS;simp only [dlt hj,cond_true,ah hj,M0,ak hj (by omega:x.1.length<=9223372036854775807),e2,show ck (x.1[j].1,x.1[j].2.1,x.1[j].2.2.1,x.1[j].2.2.2.1,x.1[j].2.2.2.2) b.2.2.2.1 b.2.1=_ from hS'];cases (!decide (sE b.2.2.2.1 b.2.1 x.1[j]=0)) <;> rfl
       . simp [mS]
     . simp [mV]
end
def lck (b:Bo):Flt:=or0 (cG b) (or0 (lB b) (or0 (lL b) (or0 (bN b) (or0 (lS b) (or0 (lK b) (bf b))))))
theorem C9 (b:Bo):gm b=some (cG b):=by
 unfold gm cG;by_cases q:b.1 < 1\/b.2.1 < b.1
 . have:(decide (b.1 < 1)||decide (b.2.1 < b.1))=true:=by simpa using q
   rw [this,if_pos q]; rfl
 . have:(decide (b.1 < 1)||decide (b.2.1 < b.1))=false:=by simpa using q
   rw [this,if_neg q,cond_false];by_cases q2:65536 < b.2.1
   . rw [decide_eq_true q2,if_pos q2]; rfl
   . rw [decide_eq_false q2,if_neg q2]; rfl
theorem EZ {b:Bo} (h:(lK b).1=0):b.2.2.2.2.2.2.length<=65536:=by
 unfold lK at h;by_cases q:b.2.2.2.2.2.2=[]
 . rw [q]; simp
 . rw [if_neg q] at h;by_cases q2:65536 < b.2.2.2.2.2.2.length
   . rw [if_pos q2] at h; cases h
   . omega
theorem rT {b:Bo} (hx:∀ x∈b.2.2.2.2.2.2,x.1.length<=140737488351232):d7 b=some (lck b)/\gG b=some (lck b):=by
 have eb:b=b:=rfl;have h1:=C9 b;have h2:=BF b;have h3:=Eh b;have h4:(lL b).1=0->ef b=some (bN b):=fun h=>DW (sV h).1
 have h5:=Ef b;have h6:=D6 hx;have h7:(lL b).1=0->(bN b).1=0->(lS b).1=0->(lK b).1=0->d8 b=some (bf b):=fun a1 a2 a3 a4=>Du hx (sV a1).2.2 (wv a2) (xO a3) (EZ a4)
 have r1:=DA hx;have r2:=Ce (b:=b);have r3:(lL b).1=0->(bN b).1=0->(lS b).1=0->iO b=some (or0 (lK b) (bf b)):=fun a1 a2 a3=>Bu hx (sV a1).2.2 (wv a2) (xO a3)
 have hz6:(bf b).1=0->bf b=(0,0,0,0):=vJ;unfold d7 gG bc lck;simp only [eb,M0,h1,h2,h3,h5,h6,r1,r2];generalize cG b=v1 at *;generalize lB b=v2 at *;generalize lL b=v3 at *;generalize bN b=v4 at *;generalize lS b=v5 at *;generalize lK b=v6 at *;generalize bf b=v7 at *;generalize ef b=o1 at *;generalize d8 b=o2 at *;generalize iO b=o3 at *;unfold or0 at *;by_cases q1:v1.1=0 <;> by_cases q2:v2.1=0 <;> by_cases q3:v3.1=0 <;> by_cases q4:v4.1=0 <;> by_cases q5:v5.1=0 <;> by_cases q6:v6.1=0 <;> by_cases q7:v7.1=0 <;> simp_all
end
section
theorem jN {a b:Flt} (h:(or0 a b).1=0):a.1=0/\b.1=0:=by
 unfold or0 at h;split at h
 . rename_i q; exact ⟨q,h⟩
 . rename_i q; exact absurd h q
theorem Dq {b:Bo} (h:(vck b).1=0):∀ x∈b.2.2.2.2.2.2,(∀ s∈x.1,sE b.2.2.2.1 b.2.1 s=0)/\tE (aN b) x.2=0:=by
 unfold vck at h;have hc:=(jN (jN (jN (jN (jN (jN h).2).2).2).2).2).2;unfold bf at hc;cases hq:b.2.2.2.2.2.2.findIdx? (fun x=>(aW b x).isSome) with
 | none =>
   intro x hx;have:=U1.1 hq x hx;unfold aW at this;split at this
   . simp at this
   . rename_i hs;refine ⟨fun s hm=>?_,?_⟩
     . have:=U1.1 hs s hm;simpa using this
     . by_cases q:tE (aN b) x.2=0
       . exact q
       . rw [if_neg q] at this; simp at this
 | some k =>
   exfalso;rw [hq] at hc;obtain ⟨hk,hcc,_⟩:=R1.1 hq;have e:b.2.2.2.2.2.2.getD k ([],0,0,0,[],[],[])=b.2.2.2.2.2.2[k]:=by simp [S1,hk]
   simp only [e] at hc;unfold aW at hcc hc;split at hcc
   . rename_i j hj;rw [hj] at hc;obtain ⟨hj1,hj2,_⟩:=R1.1 hj;have e2:b.2.2.2.2.2.2[k].1.getD j (0,0,0,0,false)=b.2.2.2.2.2.2[k].1[j]:=by simp [S1,hj1]
     simp only [e2,cH] at hc;simp [hc] at hj2
   . rename_i hj;rw [hj] at hc;by_cases q:tE (aN b) b.2.2.2.2.2.2[k].2=0
     . rw [if_pos q] at hcc; simp at hcc
     . rw [if_neg q] at hc; simp only [cH] at hc; exact q hc
theorem xI {a b:Flt}:(or0 a b).1=0↔a.1=0/\b.1=0:=by
 unfold or0;by_cases q:a.1=0
 . simp [q]
 . simp [q]
theorem sP {b:Bo}:(vck b).1=0↔((cG b).1=0/\(eG b).1=0/\(cW b).1=0/\(bN b).1=0/\(dR b).1=0/\(ml b).1=0)/\∀ x∈b.2.2.2.2.2.2,(∀ s∈x.1,sE b.2.2.2.1 b.2.1 s=0)/\tE (aN b) x.2=0:=by
 constructor
 . intro h;refine ⟨?_,Dq h⟩;unfold vck at h;simp only [xI] at h;exact ⟨h.1,h.2.1,h.2.2.1,h.2.2.2.1,h.2.2.2.2.1,h.2.2.2.2.2.1⟩
 . rintro ⟨⟨h1,h2,h3,h4,h5,h6⟩,h7⟩;unfold vck;simp only [xI];refine ⟨h1,h2,h3,h4,h5,h6,?_⟩;unfold bf;have:b.2.2.2.2.2.2.findIdx? (fun x=>(aW b x).isSome)=none:=U1.2 fun x hx=>by
     obtain ⟨g1,g2⟩:=h7 x hx;unfold aW;rw [U1.2 (fun s hs=>by rw [g1 s hs]; rfl)];simp [g2]
   rw [this]
theorem FD (L:List (List St)) (R:Int):sE L R (0,0,0,0,false)=0:=by
 unfold sE;have:ck (0,0,0,0,false) L R=some ([],0):=by
   unfold ck;rw [show iV ((0:Int),0,0,0,false)=_ from nS (0,0,0,0,false)];rfl
 rw [this]; rfl
theorem Ff {a:Ar} {t:List St} {L:List (List St)} (h:a.2.2.1=t :: L) (hs:shp t a.2.2.2.1=true) (ht:t.length<=20):tE a (3,0,0,[],[],[])=0:=by
 unfold tE;have:∃ l,cj (3,0,0,[],[],[]) a=some (l,0):=by
   unfold cj;rw [show fh ((3:Int),0,0,[],[],[])=_ from nM (3,0,0,[],[],[])];simp only [ej _ _ (show ([]:List Int).length<=1000 by simp)];have h0:aa a.2.2.1 0=some t:=by rw [h]; rfl
   have h1:¬ ((a.2.2.1.length:Nat):Int)=0:=by rw [h]; simp; omega
   have h2:¬ a.2.2.1=[]:=by rw [h]; simp
   rw [h0];simp only [M0];rw [fu t a.2.2.2.1 7 0 (by omega) (by decide) (by decide),hs];refine ⟨rel 7 0 t a.2.2.2.1,?_⟩;have e1:aB (3,0,0,[],[],[])=0:=by decide
   have e2:∀ n,bad n []=false:=fun n=>rfl
   simp [e1,e2,h1,h2]
 obtain ⟨l,hl⟩:=this;rw [hl]; rfl
section
variable {b:Bo} (hx:∀ x∈b.2.2.2.2.2.2,x.1.length<=140737488351232)
include hx
theorem sO (h:Sm b):lck b=vck b:=by
 have h1:=(rT hx).1;rw [AQ h] at h1;exact (P4 h1).symm
end
end
theorem tF (xa:List St) (hn:xa.length<=1073741824):iT xa xa=some true:=by
 unfold iT;have hs:shp xa xa=true:=by unfold shp; simp
 rw [kY xa xa hn,hs];have:=rz (body:=ne xa xa) xa xa (.inr false) (.inl ()) rfl (fun k h=>by
   unfold ne;simp [ah h,h,ak h (by omega)]) (by unfold ne; simp)
 simp only [M0,X0,cond_false,this,if_true]
theorem lf {β:Type} {n:Nat} {body:Int->Option (Int⊕β)} {e:β} (hb:∀ k,k < n->body (k:Int)=some (.inl ((k + 1:Nat):Int))) (he:body (n:Int)=some (.inr e)):loop body 0=some e:=bd (body:=body) (fun k=>(k:Int)) n hb he
theorem vU (l:List (Int×Int)) (hn:l.length<=1000000000):kC l l=some true:=by
 unfold kC;rw [ir rfl,cond_false,lf (n:=l.length) (e := .inl ()) (fun k hk=>by unfold qN; simp [ah hk,hk,ak hk (by omega)]) (by simp [qN])]; rfl
theorem wy (l:List (List St)) (hn:l.length<=1000000000) (h:∀ t∈l,t.length<=1000000000):kE l l=some true:=by
 unfold kE;rw [ir rfl,cond_false,lf (n:=l.length) (e := .inl ()) (fun k hk=>by
   unfold qP;simp [ah hk,hk,ak hk (by omega),tF l[k] (by have:=h l[k] (U0 hk); omega)]) (by simp [qP])]; rfl
theorem rX (l:List Int) (hn:l.length<=1000000000):gI l l=some true:=by rw [Co l l (by omega)]; simp
structure Fin38 (b:Bo):Prop where
 nb:b.2.2.1.length<=1000000
 nl:b.2.2.2.1.length<=1000000
 loc:∀ t∈b.2.2.2.1,t.length<=1000000
 ret:b.2.2.2.2.1.length<=1000000
 ns:b.2.2.2.2.2.1.length<=1000000
 sig:∀ s∈b.2.2.2.2.2.1,s.2.1.length<=1000000/\s.2.2.1.length<=1000000/\(∀ t∈s.2.2.1,t.length<=1000000)/\s.2.2.2.length<=1000000
 nx:b.2.2.2.2.2.2.length<=1000000
 blk:∀ x∈b.2.2.2.2.2.2,x.1.length<=1000000/\x.2.2.2.2.1.length<=1000000/\x.2.2.2.2.2.1.length<=1000000/\x.2.2.2.2.2.2.length<=1000000
theorem wY (b:Bo) (h:Fin38 b):gK b b=some true:=by
 unfold gK;have h1:=h.nb; have h2:=h.nl; have h3:=h.ret; have h4:=h.ns; have h5:=h.nx;rw [vU _ (by omega),wy _ (by omega) (fun t ht=>by have:=h.loc t ht; omega),tF _ (by omega),ir rfl,ir rfl];simp only [decide_true,X0,Z7,cond_false,M0];rw [lf (n:=b.2.2.2.2.2.1.length) (e := .inl ()) (fun k hk=>by
   have hs:=h.sig b.2.2.2.2.2.1[k] (U0 hk);unfold qR qZ;simp only [dlt hk,cond_true,ah hk,M0,ak hk (by omega)];generalize b.2.2.2.2.2.1[k]=s at hs;simp only [decide_true,cond_true,vU s.2.1 (by omega),wy s.2.2.1 (by omega) (fun t ht=>by have:=hs.2.2.1 t ht; omega),tF s.2.2.2 (by omega),M0,X0,cond_false]) (by simp [qR])]
 simp only [M0];rw [lf (n:=b.2.2.2.2.2.2.length) (e := .inl ()) (fun k hk=>by
   have hx:=h.blk b.2.2.2.2.2.2[k] (U0 hk);unfold qS q9;simp only [dlt hk,cond_true,ah hk,M0,ak hk (by omega)];generalize b.2.2.2.2.2.2[k]=x at hx;simp only [decide_true,cond_true,S7,rX x.2.2.2.2.1 (by omega),rX x.2.2.2.2.2.1 (by omega),rX x.2.2.2.2.2.2 (by omega),M0,X0,cond_false];rw [lf (n:=x.1.length) (e := .inl ()) (fun j hj=>by unfold qQ; simp [ah hj,hj,ak hj (by omega)]) (by simp [qQ])]; rfl) (by simp [qS])]
 rfl
section
open Go.RowKit Lb
abbrev Ed:=Int×Int×Int×Int
abbrev zS:Stm:=(0,0,0,0,false)
abbrev zX:Blk:=([],0,0,0,[],[],[])
def edS (l:List Stm) (k:Nat) (kind:Int):Option (List Stm) :=
 if kind=1 then some (l.set k zS) else if kind=2 then some (l.take k++l.drop (k + 1)) else if kind=3 then some (l.take k++[l.getD k zS]++l.drop k)
 else if k + 1=l.length then none else some ((l.set k (l.getD (k + 1) zS)).set (k + 1) (l.getD k zS))
def chX (X:List Blk) (i k kind:Int):Option (List Blk) :=
 if 0<=i/\i < (X.length:Nat) then if 0<=k/\k < ((X.getD i.toNat zX).1.length:Nat) then (edS (X.getD i.toNat zX).1 k.toNat kind).map (fun l=>X.set i.toNat (l,(X.getD i.toNat zX).2)) else none else none
def chL (L:List (List St)) (i k r:Int):Option (List (List St)) :=
 if 0<=i/\i < (L.length:Nat) then if 0<=k/\k < ((L.getD i.toNat []).length:Nat) then some (L.set i.toNat ((L.getD i.toNat []).set k.toNat (r,((L.getD i.toNat []).getD k.toNat (0,false)).2))) else none else none
def chB (B:List (Int×Int)) (i:Int):Option (List (Int×Int)):=if 0<=i/\i < (B.length:Nat) then some (B.take i.toNat++B.drop (i.toNat + 1)) else none
def chg (b:Bo) (e:Ed):Option Bo :=
 if 1<=e.1/\e.1<=4 then (chX b.2.2.2.2.2.2 e.2.1 e.2.2.1 e.1).map fun X=>(b.1,b.2.1,b.2.2.1,b.2.2.2.1,b.2.2.2.2.1,b.2.2.2.2.2.1,X)
 else if e.1=5 then (chL b.2.2.2.1 e.2.1 e.2.2.1 e.2.2.2).map fun L=>(b.1,b.2.1,b.2.2.1,L,b.2.2.2.2)
 else if e.1=6 then (chL b.2.2.2.1 e.2.1 e.2.2.1 b.2.1).map fun L=>(b.1,b.2.1 + 1,b.2.2.1,L,b.2.2.2.2)
 else if e.1=7 then some (b.1,b.2.1,b.2.2.1++[(e.2.1,e.2.2.1)],b.2.2.2)
 else if e.1=8 then (chB b.2.2.1 e.2.1).map fun B=>(b.1,b.2.1,B,b.2.2.2) else none
theorem qk {α β:Type} (p:α×β):(p.1,p.2)=p:=rfl
theorem dF (a:Int):aU a a=some ():=by simp [aU]
theorem sb (a b:Int):fd a b=some (decide (0<=a/\a < b)):=by
 unfold fd;by_cases h1:0<=a <;> by_cases h2:a < b <;> simp [h1,h2]
section
variable {a n:Int} {i k:Nat} {x:Blk} (hk:k + 1 < x.1.length) (hl:x.1.length<=1000000) (p q:Stm)
include hk hl
theorem zw:mL x (a,(i:Int),(k:Int),n) p q=some ((x.1.set k p).set (k + 1) q):=by
 unfold mL;simp only [ah (show k < x.1.length by omega),M0,ak (show k < x.1.length by omega) (by omega),O1,ah (l:=x.1.set k p) (show k + 1 < (x.1.set k p).length by rw [N5]; exact hk)]
theorem y9:qA (a,(i:Int),(k:Int),n) x p q=some ((x.1.set k p).set (k + 1) q):=by
 unfold qA;simp only [dF,M0,zw hk hl,cB]
theorem tM:iD (a,(i:Int),(k:Int),n) x p q=some ((x.1.set k p).set (k + 1) q):=by
 unfold iD;simp only [dF,ah (show k < x.1.length by omega),M0,ak (show k < x.1.length by omega) (by omega),O1,ah (l:=x.1.set k p) (show k + 1 < (x.1.set k p).length by rw [N5]; exact hk)]
theorem zq:mM (a,(i:Int),(k:Int),n) x p q=some ((x.1.set k p).set (k + 1) q):=by
 unfold mM;simp only [M0,tM hk hl,cB]
theorem zi:qB (a,(i:Int),(k:Int),n) x p q=some ((x.1.set k p).set (k + 1) q):=by
 unfold qB;simp only [M0,zq hk hl,cB]
theorem GI:mI (a,(i:Int),(k:Int),n) x p q=some ((x.1.set k p).set (k + 1) q):=by
 unfold mI;simp only [dF,M0,y9 hk hl,zi hk hl,cB]
theorem tP:mG (a,(i:Int),(k:Int),n) x p q=some ((x.1.set k p).set (k + 1) q):=by
 unfold mG;simp only [dF,M0,tM hk hl,cB]
theorem zH:mK (a,(i:Int),(k:Int),n) x p q=some ((x.1.set k p).set (k + 1) q):=by
 unfold mK;simp only [dF,ah (show k < x.1.length by omega),M0,ak (show k < x.1.length by omega) (by omega),O1,ah (l:=x.1.set k p) (show k + 1 < (x.1.set k p).length by rw [N5]; exact hk)]
theorem yz:qz (a,(i:Int),(k:Int),n) x p q=some ((x.1.set k p).set (k + 1) q):=by
 unfold qz;simp only [M0,zH hk hl,cB]
theorem yP:qy (a,(i:Int),(k:Int),n) x p q=some ((x.1.set k p).set (k + 1) q):=by
 unfold qy;simp only [M0,tP hk hl,yz hk hl,cB]
theorem E9:mF (a,(i:Int),(k:Int),n) x p q=some ((x.1.set k p).set (k + 1) q):=by
 unfold mF;simp only [M0,tP hk hl,yP hk hl,cB]
end
theorem Fc {α:Type} {l:List α} {k:Nat} (hk:k < l.length) (hl:l.length<=1000000):eT l (k:Int) [l[k]]=some (l.take k++[l[k]]++l.drop k):=by
 unfold eT;rw [if_pos ⟨by omega,by omega,by simp,by simp; omega⟩,O1]
theorem yX {α:Type} {l:List α} {k:Nat} (hk:k < l.length) (hl:l.length<=1000000):bY l (k:Int) (IntKind.wrap .i64 ((k:Int) + 1))=some (l.take k++l.drop (k + 1)):=by
 unfold bY;rw [ak hk (by omega),if_pos ⟨by omega,by omega,by omega⟩,O1,O1]
theorem AG (e:Ed) (a0 a1:Int) (B:List (Int×Int)) (L:List (List St)) (R:List St) (S:List Sg) (X:List Blk) (he:1<=e.1/\e.1<=4) (hX:∀ x∈X,x.1.length<=1000000) :
   (∀ X',chX X e.2.1 e.2.2.1 e.1=some X'->kc e a0 a1 B L R S X=some (true,B,L,R,S,X'))/\(chX X e.2.1 e.2.2.1 e.1=none->∃ r,kc e a0 a1 B L R S X=some (false,r)):=by
 obtain ⟨a,i,k,n⟩:=e;dsimp only at he ⊢;unfold kc;simp only [sb,M0,dF];unfold chX;by_cases hi:0<=i/\i < (X.length:Nat)
 . obtain ⟨i,rfl⟩:=Y0 hi.1;have hi':i < X.length:=by omega
   have hx:(X[i]).1.length<=1000000:=hX _ (U0 hi');have hset:∀ y,y=X[i]->X.set i y=X:=fun y h=>by rw [h]; exact bl0 hi'
   rw [if_pos hi,show X.getD (i:Int).toNat zX=X[i] by simp [S1,hi']];simp only [decide_eq_true hi,X0,cond_false,ah hi',M0,qk,O1,hset _ rfl];generalize hy:X[i]=x at *;by_cases hk:0<=k/\k < (x.1.length:Nat)
   . obtain ⟨k,rfl⟩:=Y0 hk.1;have hk':k < x.1.length:=by omega
     have hg:x.1.getD k zS=x.1[k]:=by simp [S1,hk']
     rw [if_pos hk];simp only [decide_eq_true hk,X0,cond_false,ah hi',hy,M0,ah hk',O1,qk];have h4:a=1\/a=2\/a=3\/a=4:=by omega
     rcases h4 with rfl | rfl | rfl | rfl
     . exact ⟨fun X' h=>by cases h; rfl,fun h=>by cases h⟩
     . refine ⟨fun X' h=>?_,fun h=>by cases h⟩;cases h;unfold qw;rw [yX hk' hx];rfl
     . refine ⟨fun X' h=>?_,fun h=>by cases h⟩;unfold edS at h;rw [hg] at h;cases h;unfold mJ mC;have:=Fc hk' hx;simp only [dF,this,M0,cB,hset _ hy,O1];simp [hset _ hy,cB]
     . unfold edS;by_cases hl:k + 1=x.1.length
       . refine ⟨fun X' h=>?_,fun _=>?_⟩
         . simp [hl] at h
         . simp only [ak hk' (by omega),show decide (((k + 1:Nat):Int)=((x.1.length:Nat):Int))=true by simp; omega,cond_true];exact ⟨_,rfl⟩
       . have hk1:k + 1 < x.1.length:=by omega
         have hg1:x.1.getD (k + 1) zS=x.1[k + 1]:=by simp [S1,hk1]
         refine ⟨fun X' h=>?_,fun h=>?_⟩
         . simp only [hl,hg,hg1] at h;simp at h;subst h;simp only [ak hk' (by omega),show decide (((k + 1:Nat):Int)=((x.1.length:Nat):Int))=false by simp; omega,cond_false,ah hk1,ah hk',M0,y9 hk1 hx,tM hk1 hx,zq hk1 hx,zi hk1 hx,GI hk1 hx,tP hk1 hx,zH hk1 hx,yz hk1 hx,yP hk1 hx,E9 hk1 hx,zw hk1 hx,dF,cB,hset _ hy];simp [hset _ hy]
         . simp [hl] at h
   . rw [if_neg hk];simp only [decide_eq_false hk];exact ⟨fun X' h=>(by cases h),fun _=>⟨_,rfl⟩⟩
 . rw [if_neg hi];simp only [decide_eq_false hi];exact ⟨fun X' h=>(by cases h),fun _=>⟨_,rfl⟩⟩
theorem AT (e:Ed) (a0 a1:Int) (B:List (Int×Int)) (L:List (List St)) (R:List St) (S:List Sg) (X:List Blk) (h1:0<=a1/\a1<=1000000) :
   (∀ L',chL L e.2.1 e.2.2.1 (if e.1=6 then a1 else e.2.2.2)=some L'->ke e a0 a1 B L R S X=some (true,if e.1=6 then a1 + 1 else a1,B,L',R,S,X)) /\
     (chL L e.2.1 e.2.2.1 (if e.1=6 then a1 else e.2.2.2)=none->∃ r,ke e a0 a1 B L R S X=some (false,r)):=by
 obtain ⟨a,i,k,n⟩:=e;dsimp only;unfold ke;simp only [sb,M0,dF];unfold chL;have hw:IntKind.wrap .i64 (a1 + 1)=a1 + 1:=w64 (by omega) (by omega);by_cases hi:0<=i/\i < (L.length:Nat)
 . obtain ⟨i,rfl⟩:=Y0 hi.1;have hi':i < L.length:=by omega
   have hset:∀ y,y=L[i]->L.set i y=L:=fun y h=>by rw [h]; exact bl0 hi'
   rw [if_pos hi,show L.getD (i:Int).toNat []=L[i] by simp [S1,hi']];simp only [decide_eq_true hi,X0,cond_false,ah hi',M0,O1,hset _ rfl];generalize hy:L[i]=x at *;by_cases hk:0<=k/\k < (x.length:Nat)
   . obtain ⟨k,rfl⟩:=Y0 hk.1;have hk':k < x.length:=by omega
     have hg:x.getD k (0,false)=x[k]:=by simp [S1,hk']
     rw [if_pos hk];simp only [decide_eq_true hk,X0,cond_false,M0,O1,hg,hw];refine ⟨fun L' h=>?_,fun h=>(by cases h)⟩;cases h;by_cases h6:a=6
     . simp only [h6,decide_true,cond_true,M0,ah hi',hy,ah hk',if_true]
     . simp only [h6,decide_false,cond_false,M0,ah hi',hy,ah hk',if_false]
   . rw [if_neg hk];simp only [decide_eq_false hk];exact ⟨fun X' h=>(by cases h),fun _=>⟨_,rfl⟩⟩
 . rw [if_neg hi];simp only [decide_eq_false hi];exact ⟨fun X' h=>(by cases h),fun _=>⟨_,rfl⟩⟩
theorem B1 (e:Ed) (b:Bo) (hX:∀ x∈b.2.2.2.2.2.2,x.1.length<=1000000) (hB:b.2.2.1.length<=1000000) (hR:0<=b.2.1/\b.2.1<=1000000) :
   (∀ c,chg b e=some c->c.1=b.1/\kh e b.1 b.2.1 b.2.2.1 b.2.2.2.1 b.2.2.2.2.1 b.2.2.2.2.2.1 b.2.2.2.2.2.2=some (true,c.2)) /\
     (chg b e=none->∃ r,kh e b.1 b.2.1 b.2.2.1 b.2.2.2.1 b.2.2.2.2.1 b.2.2.2.2.2.1 b.2.2.2.2.2.2=some (false,r)):=by
 obtain ⟨u,R,B,L,T,S,X⟩:=b;dsimp only at *;unfold kh;unfold chg;dsimp only;by_cases h14:1<=e.1/\e.1<=4
 . rw [if_pos h14];obtain ⟨c1,c2⟩:=AG e u R B L T S X h14 hX;have ht:(cond (decide (e.1=1)) (some (decide (e.1=1))) (cond (decide (e.1=2)) (some (decide (e.1=2))) (cond (decide (e.1=3)) (some (decide (e.1=3))) (some (decide (e.1=4))))):Option Bool)=some true:=by
     have:e.1=1\/e.1=2\/e.1=3\/e.1=4:=by omega
     rcases this with h | h | h | h <;> simp [h]
   rw [ht];simp only [M0,cond_true,qk];refine ⟨fun c h=>?_,fun h=>?_⟩
   . obtain ⟨X',h3,h4⟩:=Y1.1 h;subst h4;exact ⟨rfl,by rw [c1 X' h3]; rfl⟩
   . obtain ⟨⟨r1,r2,r3,r4,r5⟩,hr⟩:=c2 (X5.1 h);exact ⟨_,by rw [hr]; rfl⟩
 . rw [if_neg h14];have ht:(cond (decide (e.1=1)) (some (decide (e.1=1))) (cond (decide (e.1=2)) (some (decide (e.1=2))) (cond (decide (e.1=3)) (some (decide (e.1=3))) (some (decide (e.1=4))))):Option Bool)=some false:=by
     simp [show ¬ e.1=1 by omega,show ¬ e.1=2 by omega,show ¬ e.1=3 by omega,show ¬ e.1=4 by omega]
   rw [ht];simp only [M0,cond_false,qk];obtain ⟨s1,s2⟩:=AT e u R B L T S X hR;by_cases h5:e.1=5
   . have h6:¬ e.1=6:=by omega
     rw [if_pos h5];simp only [h6,if_false] at s1 s2;have ht:(cond (decide (e.1=5)) (some (decide (e.1=5))) (some (decide (e.1=6))):Option Bool)=some true:=by simp [h5]
     rw [ht];simp only [M0,cond_true];refine ⟨fun c h=>?_,fun h=>?_⟩
     . obtain ⟨L',h3,h4⟩:=Y1.1 h;subst h4;exact ⟨rfl,by rw [s1 L' h3]; rfl⟩
     . obtain ⟨⟨r1,r2,r3,r4,r5,r6⟩,hr⟩:=s2 (X5.1 h);exact ⟨_,by rw [hr]; rfl⟩
   rw [if_neg h5];by_cases h6:e.1=6
   . rw [if_pos h6];simp only [h6,if_true] at s1 s2;have ht:(cond (decide (e.1=5)) (some (decide (e.1=5))) (some (decide (e.1=6))):Option Bool)=some true:=by simp [h6]
     rw [ht];simp only [M0,cond_true];refine ⟨fun c h=>?_,fun h=>?_⟩
     . obtain ⟨L',h3,h4⟩:=Y1.1 h;subst h4;exact ⟨rfl,by rw [s1 L' h3]; rfl⟩
     . obtain ⟨⟨r1,r2,r3,r4,r5,r6⟩,hr⟩:=s2 (X5.1 h);exact ⟨_,by rw [hr]; rfl⟩
   rw [if_neg h6];have ht:(cond (decide (e.1=5)) (some (decide (e.1=5))) (some (decide (e.1=6))):Option Bool)=some false:=by simp [h5,h6]
   rw [ht];simp only [M0,cond_false];by_cases h7:e.1=7
   . rw [if_pos h7];simp only [h7,decide_true,cond_true,aq (show B.length + [(e.2.1,e.2.2.1)].length<=1073741824 by simp; omega),M0];exact ⟨fun c h=>(by cases h; exact ⟨rfl,rfl⟩),fun h=>(by cases h)⟩
   rw [if_neg h7];simp only [h7,decide_false,cond_false];by_cases h8:e.1=8
   . rw [if_pos h8];unfold chB;simp only [h8,decide_true,cond_true,sb,M0];by_cases hi:0<=e.2.1/\e.2.1 < (B.length:Nat)
     . rw [if_pos hi];refine ⟨fun c h=>?_,fun h=>(by cases h)⟩;cases h;obtain ⟨i,hi2⟩:=Y0 hi.1;unfold qv;rw [hi2] at hi ⊢;rw [yX (by omega) hB];simp only [decide_eq_true hi];exact ⟨trivial,rfl⟩
     . rw [if_neg hi];simp only [decide_eq_false hi];exact ⟨fun X' h=>(by cases h),fun _=>⟨_,rfl⟩⟩
   . rw [if_neg h8];simp only [h8,decide_false,cond_false];exact ⟨fun X' h=>(by cases h),fun _=>⟨_,rfl⟩⟩
structure Nr (b:Bo) (k:Nat):Prop where
 bounds:b.2.2.1.length<=20 + k
 locals:b.2.2.2.1.length<=10
 loc:∀ t∈b.2.2.2.1,t.length<=20
 ret:b.2.2.2.2.1.length<=20
 sigs:b.2.2.2.2.2.1.length<=4
 sig:∀ s∈b.2.2.2.2.2.1,s.2.1.length<=20/\s.2.2.1.length<=20/\s.2.2.2.length<=20/\∀ t∈s.2.2.1,t.length<=20
 blocks:b.2.2.2.2.2.2.length<=8
 term:∀ x∈b.2.2.2.2.2.2,x.2.2.2.2.1.length<=20/\x.2.2.2.2.2.1.length<=20/\x.2.2.2.2.2.2.length<=20
 many:∀ x∈b.2.2.2.2.2.2,x.1.length<=24 + k
theorem Few.nr {b:Bo} (h:Few b):Nr b 0:=⟨h.bounds,h.locals,h.loc,h.ret,h.sigs,h.sig,h.blocks,h.term,fun x hx=>M9 (sF (fun x:Blk=>x.1.length) _ x hx) h.many⟩
theorem Nr.up {b:Bo} {k:Nat} (h:Nr b k):Nr b (k + 1):=⟨bG0 h.bounds,h.locals,h.loc,h.ret,h.sigs,h.sig,h.blocks,h.term,fun x hx=>bG0 (h.many x hx)⟩
theorem E8 {X:List Blk} {n:Nat} (h:∀ x∈X,x.1.length<=n):stm X<=X.length * n:=by
 unfold stm
 induction X with
 | nil=>simp
 | cons x X ih =>
   rw [Z1,ba0,V1,Q4];have:=ih (fun y hy=>h y (by simp [hy]));have:=h x (by simp);omega
theorem Nr.sm {b:Bo} {k:Nat} (h:Nr b k) (hk:k<=10):Sm b where
 bounds:=by have:=h.bounds; omega
 locals:=by have:=h.locals; omega
 loc:=h.loc
 ret:=h.ret
 sigs:=by have:=h.sigs; omega
 sig:=h.sig
 blocks:=by have:=h.blocks; omega
 term:=h.term
 many:=by
   have h1:=E8 h.many;have h2:=h.blocks;have:b.2.2.2.2.2.2.length * (24 + k)<=8 * (24 + k):=V3 _ h2;omega
theorem Nr.hx {b:Bo} {k:Nat} (h:Nr b k) (hk:k<=10):∀ x∈b.2.2.2.2.2.2,x.1.length<=140737488351232:=fun x hx=>by have:=h.many x hx; omega
theorem Ey {l l':List Stm} {k:Nat} {a:Int} (h:edS l k a=some l') (hk:k < l.length):l'.length<=l.length + 1:=by
 unfold edS at h;split at h
 . cases h; simp
 split at h
 . cases h; simp; omega
 split at h
 . cases h; simp; omega
 split at h
 . cases h
 . cases h; simp
theorem EK {X X':List Blk} {i k a:Int} (h:chX X i k a=some X'):∃ (j m:Nat) (hj:j < X.length) (l:List Stm),i=(j:Int)/\k=(m:Int)/\m < X[j].1.length/\edS X[j].1 m a=some l/\X'=X.set j (l,X[j].2):=by
 unfold chX at h;split at h
 . rename_i hi;split at h
   . rename_i hk;obtain ⟨j,rfl⟩:=Y0 hi.1;obtain ⟨m,rfl⟩:=Y0 hk.1;have hj:j < X.length:=by omega
     have e:X.getD (j:Int).toNat zX=X[j]:=by simp [S1,hj]
     rw [e] at h hk;obtain ⟨l,h1,h2⟩:=Y1.1 h;exact ⟨j,m,hj,l,rfl,rfl,by omega,h1,h2.symm⟩
   . cases h
 . cases h
theorem yu {L L':List (List St)} {i k r:Int} (h:chL L i k r=some L'):∃ (j:Nat) (hj:j < L.length) (t:List St),t.length=L[j].length/\L'=L.set j t:=by
 unfold chL at h;split at h
 . rename_i hi;split at h
   . obtain ⟨j,rfl⟩:=Y0 hi.1;have hj:j < L.length:=by omega
     have e:L.getD (j:Int).toNat []=L[j]:=by simp [S1,hj]
     rw [e] at h;cases h;exact ⟨j,hj,_,by simp,rfl⟩
   . cases h
 . cases h
theorem Nr.stp {b c:Bo} {k:Nat} (h:Nr b k) {e:Ed} (hc:chg b e=some c):Nr c (k + 1):=by
 have hu:=h.up;unfold chg at hc;split at hc
 . obtain ⟨X',h1,rfl⟩:=Y1.1 hc;obtain ⟨j,m,hj,l,_,_,hm,h2,rfl⟩:=EK h1;have hl:=Ey h2 hm;refine { hu with blocks:=by show (List.set _ _ _).length<=8; rw [N5]; exact h.blocks,term:=fun x hx=>?_,many:=fun x hx=>?_ }
   . rcases Z5 hx with hx | rfl
     . exact h.term x hx
     . have q:=h.term _ (U0 hj);exact q
   . rcases Z5 hx with hx | rfl
     . exact hu.many x hx
     . have:=h.many _ (U0 hj); dsimp only; omega
 split at hc
 . obtain ⟨L',h1,rfl⟩:=Y1.1 hc;obtain ⟨j,hj,t,ht,rfl⟩:=yu h1;refine { hu with locals:=by show (List.set _ _ _).length<=10; rw [N5]; exact h.locals,loc:=fun x hx=>?_ }
   rcases Z5 hx with hx | rfl
   . exact h.loc x hx
   . rw [ht]; exact h.loc _ (U0 hj)
 split at hc
 . obtain ⟨L',h1,rfl⟩:=Y1.1 hc;obtain ⟨j,hj,t,ht,rfl⟩:=yu h1;refine { hu with locals:=by show (List.set _ _ _).length<=10; rw [N5]; exact h.locals,loc:=fun x hx=>?_ }
   rcases Z5 hx with hx | rfl
   . exact h.loc x hx
   . rw [ht]; exact h.loc _ (U0 hj)
 split at hc
 . cases hc;refine { hu with bounds:=?_ };have:=h.bounds;dsimp only;simp;omega
 split at hc
 . obtain ⟨B',h1,rfl⟩:=Y1.1 hc;unfold chB at h1;split at h1
   . cases h1;refine { hu with bounds:=?_ };have:=h.bounds;dsimp only;simp;omega
   . cases h1
 . cases hc
theorem okL {b:Bo} (hx:∀ x∈b.2.2.2.2.2.2,x.1.length<=140737488351232):gV b=some (decide ((lck b).1=0))/\gS b=some (decide ((lck b).1=0)):=by
 obtain ⟨h1,h2⟩:=rT hx;constructor
 . unfold gV;rw [show d7 b=_ from h1]; rfl
 . unfold gS;rw [show gG b=_ from h2]; rfl
theorem Nr.pz {b:Bo} {k:Nat} (h:Nr b k) (hk:k<=10):Pz b where
 B:=by have:=h.bounds; omega
 L:=⟨by have:=h.locals; omega,h.loc⟩
 R:=h.ret
 S:=⟨by have:=h.sigs; omega,fun g hg=>by obtain ⟨h1,h2,h3,h4⟩:=h.sig g hg; exact ⟨h1,h2,h4,h3⟩⟩
 X:=⟨by have:=h.blocks; omega,fun x hx=>by have:=h.many x hx; omega⟩
theorem Cv {b:Bo} {k:Nat} (h:Nr b k) (hk:k<=10) (ho:okBd b):(cJ b).length<=300000:=by
 have hp:=ya ho;have hz:=h.pz hk;have hf:b.2.2.2.2.2.2.find? (fun x=>!decide (bn x=0))=none:=by
   rw [aA0]; intro x hx; simp [rF (ho.X x hx)]
 unfold ma at hp;rw [hf] at hp;dsimp only at hp;have he:=congrArg N1 (Prod.mk.inj hp).1;have hb0:=h.bounds; have hb1:=h.locals; have hb2:=h.ret; have hb3:=h.sigs; have hb4:=h.blocks;have q (n:Int):(put n).length<=5:=aQ n;have q1:=q b.1; have q2:=q b.2.1; have q3:=q (b.2.2.2.1.length:Int); have q4:=q (b.2.2.2.2.2.1.length:Int); have q5:=q (b.2.2.2.2.2.2.length:Int);have l1:=nN b.2.2.1;have l2:=cF aV 105 b.2.2.2.1 (fun t ht=>by have:=dD t; have:=h.loc t ht; omega);have l3:=dD b.2.2.2.2.1;have l4:=cF cd 2500 b.2.2.2.2.2.1 (fun g hg=>rP (hz.S.2 g hg));have l5:=cF bR 20305 b.2.2.2.2.2.2 (fun x hx=>wo (rF (ho.X x hx)) (hz.X.2 x hx));unfold po at he;simp only [P0,V1,M3] at he;omega
theorem xu {b:Bo} {k:Nat} (h:Nr b k) (hk:k<=10) (hv:(lck b).1=0):gJ b=some b:=by
 have hs:=h.sm hk;rw [sO (h.hx hk) hs] at hv;have ho:=Hb hs hv;have hh:=tS (sP.1 hv).1.1;have hl:=Cv h hk ho;have h3:=h.locals; have h4:=h.sigs; have h5:=h.blocks;have ht:=Gl b (DI b ho ⟨by omega,by omega⟩ ⟨by omega,by omega⟩ (by omega) (by omega) (by omega) (by omega));unfold gJ;rw [show kZ b=_ from Bj b (h.pz hk),ya ho,M0];dsimp only;rw [Dh _ (by simp; omega),ht];rfl
end
end
end Go.Proofs.YtcocmnheohgndaaGreat
