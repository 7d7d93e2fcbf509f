/- 'easement/easementlaw31.DeclAlike' returns true for every input, and each argument qt afterwards as it read before: the row's frame round the walk. -/
import Derived.Test.YtdjcapgpjpadeaaDoorZ4
import Derived.Lib.RowBridge
import Derived.Test.YtdjcapgpjpadeaaDoorRows
import Derived.Lib.LaidTab
import Derived.Test.YtdjcapgpjpadeaaDoorCards
import Derived.Test.YtdjcapgpjpadeaaDoorTie
import Derived.Lay
import Derived.SevenTiedAt
namespace Go.Proofs.YtdjcapgpjpadeaaDoor
noncomputable section
set_option linter.unusedVariables false
set_option linter.unusedSimpArgs false
set_option linter.unnecessarySimpa false
open Go.RowKit
theorem dp (x:Nat):BitVec.ofInt 64 (x:Int)=BitVec.ofNat 64 x:=by simp
theorem cw (x:Nat) (h:x < 18446744073709551616):IntKind.wrap .u64 (x:Int)=(x:Int):=by
 rw [IntKind.wrap_u64]
 omega
theorem iL {k:Nat} (hk:k < 64):2 ^ k < 18446744073709551616:=Nat.pow_lt_pow_right (by decide) hk
theorem pF {k:Nat} (hk:k < 64):IntKind.wrap .u64 (1 * 2 ^ (min k (IntKind.bits .u64)))=((2 ^ k:Nat):Int):=by
 have h1:min k (IntKind.bits .u64)=k:=Nat.min_eq_left (Nat.le_of_lt hk)
 rw [h1,Int.one_mul]
 have:=cw (2 ^ k) (iL hk)
 rw [← this]
 congr 1
theorem qT (x y:Nat) (hx:x < 18446744073709551616) (hy:y < 18446744073709551616):IntKind.wrap .u64 ((BitVec.ofInt (IntKind.bits .u64) (x:Int) &&& BitVec.ofInt (IntKind.bits .u64) (y:Int)).toNat:Int)=((x &&& y:Nat):Int):=by
 show IntKind.wrap .u64 ((BitVec.ofInt 64 (x:Int) &&& BitVec.ofInt 64 (y:Int)).toNat:Int)=_
 rw [dp,dp,BitVec.toNat_and,BitVec.toNat_ofNat,BitVec.toNat_ofNat,Nat.mod_eq_of_lt hx,Nat.mod_eq_of_lt hy]
 exact cw _ (Nat.and_lt_two_pow (n:=64) _ hy)
theorem orU (x y:Nat) (hx:x < 18446744073709551616) (hy:y < 18446744073709551616):IntKind.wrap .u64 ((BitVec.ofInt (IntKind.bits .u64) (x:Int) ||| BitVec.ofInt (IntKind.bits .u64) (y:Int)).toNat:Int)=((x ||| y:Nat):Int):=by
 show IntKind.wrap .u64 ((BitVec.ofInt 64 (x:Int) ||| BitVec.ofInt 64 (y:Int)).toNat:Int)=_
 rw [dp,dp,BitVec.toNat_or,BitVec.toNat_ofNat,BitVec.toNat_ofNat,Nat.mod_eq_of_lt hx,Nat.mod_eq_of_lt hy]
 exact cw _ (Nat.or_lt_two_pow (n:=64) hx hy)
theorem vx (x k:Nat):(x &&& 2 ^ k=0)↔x.testBit k=false:=by
 constructor
 . intro h
   have:=congrArg (fun n=>n.testBit k) h
   simpa [Nat.testBit_and,Nat.testBit_two_pow_self] using this
 . intro h
   apply Nat.eq_of_testBit_eq
   intro i
   rw [Nat.testBit_and,Nat.testBit_two_pow,Nat.zero_testBit]
   by_cases hi:k=i
   . subst hi; simp [h]
   . simp [hi]
theorem v7 (x k i:Nat):(x ||| 2 ^ k).testBit i=(x.testBit i||decide (k=i)):=by
 rw [Nat.testBit_or,Nat.testBit_two_pow]
def Wd (w:Int):Prop:=0≤w∧w < 18446744073709551616
def mem (l:List Int) (i:Nat):Bool:=match l[i / 64]? with | some w=>w.toNat.testBit (i % 64) | none=>false
structure Ds (n:Nat) (l:List Int):Prop where
 hn:n≤1048576
 len:l.length=(n + 63) / 64
 wd:∀ w∈l,Wd w
 top:∀ i,n≤i→mem l i=false
theorem ka {n:Nat} {l:List Int} (i:Int):dk (some ((n:Int),l)) i=some (decide (0≤i∧i < n)):=by
 unfold dk
 rw [show ia (some ((n:Int),l))=some (n:Int) from rfl]
 by_cases h:0≤i
 . simp [h]
 . simp [h]
theorem Ds.word {n:Nat} {l:List Int} (h:Ds n l) {k:Nat} (hk:k < n):∃ x:Nat,l[k / 64]? = some (x:Int)∧x < 18446744073709551616:=by
 have hl:k / 64 < l.length:=by rw [h.len]; omega
 refine ⟨(l[k / 64]).toNat,?_,?_⟩
 . rw [List.getElem?_eq_getElem hl,Int.toNat_of_nonneg (h.wd _ (List.getElem_mem hl)).1]
 . have:=h.wd _ (List.getElem_mem hl)
   unfold Wd at this
   omega
theorem cC {l:List Int} {k x:Nat} (h:l[k / 64]? = some (x:Int)):mem l k=x.testBit (k % 64):=by
 unfold mem
 rw [h]
 simp
theorem kJ {n:Nat} {l:List Int} (h:Ds n l) (i:Int):cO (some ((n:Int),l)) i=some (decide (0≤i∧i < n)&&mem l i.toNat):=by
 unfold cO
 rw [ka]
 by_cases hi:0≤i∧i < n
 . obtain ⟨k,rfl⟩:=Int.eq_ofNat_of_zero_le hi.1
   have hk:k < n:=by omega
   have hn:=h.hn
   obtain ⟨x,hx,hx2⟩:=h.word hk
   have e1:IntKind.wrap .i64 (Int.tdiv (k:Int) 64)=((k / 64:Nat):Int):=by
     rw [show Int.tdiv (k:Int) 64=((k / 64:Nat):Int) from rfl]
     exact w64 (by omega) (by omega)
   have e2:Int.tmod (k:Int) 64=((k % 64:Nat):Int):=rfl
   have g:ah l ((k / 64:Nat):Int)=some (x:Int):=by
     unfold ah
     rw [if_pos (Int.natCast_nonneg _),Int.toNat_natCast]
     exact hx
   have hd:decide (0≤(k:Int)∧(k:Int) < n)=true:=by simpa using hk
   rw [hd,e1,e2]
   simp only [Option.bind_some,cond_true,g,ly (Int.natCast_nonneg _),Int.toNat_natCast,Bool.true_and]
   have E:IntKind.wrap .u64 ((BitVec.ofInt (IntKind.bits .u64) (x:Int) &&& BitVec.ofInt (IntKind.bits .u64) (IntKind.wrap .u64 (1 * 2 ^ (min (k % 64) (IntKind.bits .u64))))).toNat:Int)=((x &&& 2 ^ (k % 64):Nat):Int):=by
     rw [pF (Nat.mod_lt k (by decide))]
     exact qT x _ hx2 (iL (Nat.mod_lt k (by decide)))
   simp only [E,cC hx]
   have hb:=vx x (k % 64)
   cases ht:x.testBit (k % 64) with
   | false=>simp [hb.2 ht]
   | true =>
     have:¬ (x &&& 2 ^ (k % 64)=0):=fun e=>by rw [hb.1 e] at ht; cases ht
     have h2:¬ (((x &&& 2 ^ (k % 64):Nat):Int)=0):=by omega
     rw [decide_eq_false h2]
     rfl
 . rw [decide_eq_false hi]
   rfl
theorem oO {l:List Int} {q x y:Nat} (hq:l[q]? = some (x:Int)) (j:Nat):mem (l.set q (y:Int)) j=if j / 64=q then y.testBit (j % 64) else mem l j:=by
 unfold mem
 rw [List.getElem?_set]
 have hlt:q < l.length:=(List.getElem?_eq_some_iff.1 hq).1
 by_cases hj:j / 64=q
 . rw [if_pos hj.symm,if_pos hj,← hj] 
   simp [hj,hlt]
 . rw [if_neg (fun e=>hj e.symm),if_neg hj]
theorem ou {n:Nat} {l:List Int} (h:Ds n l) (i:Int):∃ l',dj i n l=some (decide (0≤i∧i < n)&&!mem l i.toNat,l')∧Ds n l'∧∀ j,mem l' j=(mem l j||decide ((0≤i∧i < n)∧i.toNat=j)):=by
 unfold dj
 rw [ka,kJ h]
 by_cases hi:0≤i∧i < n
 . rw [decide_eq_true hi]
   cases hm:mem l i.toNat with
   | true=>exact ⟨l,rfl,h,fun j=>by
       by_cases hj:i.toNat=j
       . subst hj; simp [hm]
       . simp [hj]⟩
   | false =>
     obtain ⟨k,rfl⟩:=Int.eq_ofNat_of_zero_le hi.1
     have hk:k < n:=by omega
     have hn:=h.hn
     obtain ⟨x,hx,hx2⟩:=h.word hk
     have e1:IntKind.wrap .i64 (Int.tdiv (k:Int) 64)=((k / 64:Nat):Int):=by
       rw [show Int.tdiv (k:Int) 64=((k / 64:Nat):Int) from rfl]
       exact w64 (by omega) (by omega)
     have e2:Int.tmod (k:Int) 64=((k % 64:Nat):Int):=rfl
     have g:ah l ((k / 64:Nat):Int)=some (x:Int):=by
       unfold ah
       rw [if_pos (Int.natCast_nonneg _),Int.toNat_natCast]
       exact hx
     have E:IntKind.wrap .u64 ((BitVec.ofInt (IntKind.bits .u64) (x:Int) ||| BitVec.ofInt (IntKind.bits .u64) (IntKind.wrap .u64 (1 * 2 ^ (min (k % 64) (IntKind.bits .u64))))).toNat:Int)=((x ||| 2 ^ (k % 64):Nat):Int):=by
       rw [pF (Nat.mod_lt k (by decide))]
       exact orU x _ hx2 (iL (Nat.mod_lt k (by decide)))
     have hlt:k / 64 < l.length:=(List.getElem?_eq_some_iff.1 hx).1
     have hmem:∀ j,mem (l.set (k / 64) ((x ||| 2 ^ (k % 64):Nat):Int)) j=(mem l j||decide (((0:Int)≤(k:Int)∧(k:Int) < n)∧k=j)):=fun j=>by
       rw [oO hx]
       by_cases hj:j / 64=k / 64
       . rw [if_pos hj,v7,cC (by rw [hj]; exact hx)]
         have:(k % 64=j % 64)↔k=j:=by omega
         simp [this,hk]
       . rw [if_neg hj]
         have:¬ k=j:=fun e=>hj (by rw [e])
         simp [this]
     refine ⟨l.set (k / 64) ((x ||| 2 ^ (k % 64):Nat):Int),?_,⟨hn,by rw [List.length_set]; exact h.len,fun w hw=>?_,fun j hj=>?_⟩,hmem⟩
     . rw [e1,e2]
       simp only [Option.bind_some,cond_true,cond_false,g,ly (Int.natCast_nonneg _),Int.toNat_natCast,Bool.true_and,Bool.not_true,Bool.not_false,E]
     . rcases List.mem_or_eq_of_mem_set hw with hw | rfl
       . exact h.wd w hw
       . have:=Nat.or_lt_two_pow (n:=64) hx2 (iL (Nat.mod_lt k (by decide)))
         unfold Wd
         omega
     . rw [hmem,h.top j hj]
       have:¬ k=j:=by omega
       simp [this]
 . rw [decide_eq_false hi]
   exact ⟨l,rfl,h,fun j=>by simp [hi]⟩
theorem iD (x r j:Nat):(x / 2 ^ r * 2 ^ r).testBit j=(decide (r≤j)&&x.testBit j):=by
 rw [Nat.testBit_mul_two_pow]
 by_cases h:r≤j
 . rw [Nat.testBit_div_two_pow,Nat.sub_add_cancel h]
 . simp [h]
theorem sD (x r:Nat) (hx:x < 18446744073709551616) (hr:r < 64):IntKind.wrap .u64 ((Int.fdiv (x:Int) (2 ^ (min r (IntKind.bits .u64)))) * 2 ^ (min r (IntKind.bits .u64)))=((x / 2 ^ r * 2 ^ r:Nat):Int):=by
 have h1:min r (IntKind.bits .u64)=r:=Nat.min_eq_left (Nat.le_of_lt hr)
 have hp:((2:Int) ^ r)=((2 ^ r:Nat):Int):=by simp
 have h2:Int.fdiv (x:Int) ((2 ^ r:Nat):Int)=((x / 2 ^ r:Nat):Int):=by
   rw [Int.fdiv_eq_ediv_of_nonneg _ (Int.natCast_nonneg _)]
   rfl
 rw [h1,hp,h2,← Int.natCast_mul]
 exact cw _ (Nat.lt_of_le_of_lt (Nat.div_mul_le_self x (2 ^ r)) hx)
theorem vu {x:Nat} (h0:x≠0) (h:x < 18446744073709551616):Lib.ctz 64 x < 64∧x.testBit (Lib.ctz 64 x)=true∧∀ j,j < Lib.ctz 64 x→x.testBit j=false:=by
 have h':x < 2 ^ 64:=h
 obtain ⟨m,hm,hk⟩:=Lib.ctzFrom_spec 64 x (by omega) h'
 have e:Lib.ctz 64 x=Lib.ctzFrom 64 x:=by simp [Lib.ctz,h0]
 rw [e]
 clear e
 revert hm hk
 generalize Lib.ctzFrom 64 x=c
 intro hm hk
 refine ⟨hk,?_,fun j hj=>?_⟩
 . rw [hm,Nat.mul_comm,Nat.testBit_mul_two_pow]
   simp
 . rw [hm,Nat.mul_comm,Nat.testBit_mul_two_pow]
   simp [Nat.not_le.2 hj]
theorem sB {n:Int} {l:List Int} (hw:∀ w∈l,Wd w) (hlen:l.length≤20000):∀ (d a w:Nat),a + 1 + d=l.length→w < 18446744073709551616 →
   ∃ r,loop (ew (n,l)) ((a:Int),(w:Int))=some r∧((r = .inr (-1)∧w=0∧∀ q,a < q→q < l.length→l[q]? = some 0) ∨
     ∃ b v:Nat,r = .inl ((b:Int),(v:Int))∧v≠0∧v < 18446744073709551616∧a≤b∧b < l.length∧((b=a∧v=w)∨(a < b∧w=0∧l[b]? = some (v:Int)))∧∀ q,a < q→q < b→l[q]? = some 0):=by
 intro d
 induction d with
 | zero =>
   intro a w ha hx
   by_cases h0:w=0
   . subst h0
     refine ⟨.inr (-1),eL ?_,.inl ⟨rfl,rfl,fun q h1 h2=>by omega⟩⟩
     have e:IntKind.wrap .i64 ((a:Int) + 1)=((l.length:Nat):Int):=by rw [w64 (by omega) (by omega)]; omega
     unfold ew
     simp [e]
   . refine ⟨.inl ((a:Int),(w:Int)),eL ?_,.inr ⟨a,w,rfl,h0,hx,Nat.le_refl a,by omega,.inl ⟨rfl,rfl⟩,fun q h1 h2=>by omega⟩⟩
     have h1:¬ ((w:Int)=0):=by omega
     unfold ew
     simp [h1,h0]
 | succ d ih =>
   intro a w ha hx
   by_cases h0:w=0
   . subst h0
     have hlt:a + 1 < l.length:=by omega
     have hwd:=hw _ (List.getElem_mem hlt)
     obtain ⟨x,hxe⟩:∃ x:Nat,l[a + 1]=(x:Int):=⟨l[a + 1].toNat,(Int.toNat_of_nonneg hwd.1).symm⟩
     have hx2:x < 18446744073709551616:=by have:=hwd.2; rw [hxe] at this; omega
     have hq:l[a + 1]? = some (x:Int):=by rw [List.getElem?_eq_getElem hlt,hxe]
     obtain ⟨r,h1,h2⟩:=ih (a + 1) x (by omega) hx2
     have e:IntKind.wrap .i64 ((a:Int) + 1)=((a + 1:Nat):Int):=by rw [w64 (by omega) (by omega)]; rfl
     have hne:¬ (((a + 1:Nat):Int)=((l.length:Nat):Int)):=by omega
     have hg:ah l ((a + 1:Nat):Int)=some (x:Int):=by
       unfold ah
       rw [if_pos (Int.natCast_nonneg _),Int.toNat_natCast]
       exact hq
     refine ⟨r,(kx (s':=(((a + 1:Nat):Int),(x:Int))) ?_).trans h1,?_⟩
     . unfold ew
       simp only [e,hg,Option.bind_some,decide_eq_false hne,cond_false]
       rfl
     . rcases h2 with ⟨h3,h4,h5⟩ | ⟨b,v,h3,h4,h5,h6,h7,h8,h9⟩
       . refine .inl ⟨h3,rfl,fun q g1 g2=>?_⟩
         by_cases hqa:q=a + 1
         . subst hqa; rw [hq,h4]; rfl
         . exact h5 q (by omega) g2
       . refine .inr ⟨b,v,h3,h4,h5,by omega,h7,.inr ?_,fun q g1 g2=>?_⟩
         . rcases h8 with ⟨rfl,rfl⟩ | ⟨g1,g2,g3⟩
           . exact ⟨by omega,rfl,hq⟩
           . exact ⟨by omega,rfl,g3⟩
         . by_cases hqa:q=a + 1
           . subst hqa
             rcases h8 with ⟨rfl,rfl⟩ | ⟨k1,k2,k3⟩
             . omega
             . rw [hq,k2]; rfl
           . exact h9 q (by omega) g2
   . refine ⟨.inl ((a:Int),(w:Int)),eL ?_,.inr ⟨a,w,rfl,h0,hx,Nat.le_refl a,by omega,.inl ⟨rfl,rfl⟩,fun q h1 h2=>by omega⟩⟩
     have h1:¬ ((w:Int)=0):=by omega
     unfold ew
     simp [h1,h0]
theorem kH {l:List Int} {j:Nat} (h:∀ w,l[j / 64]? = some w→w=0):mem l j=false:=by
 unfold mem
 cases hl:l[j / 64]? with
 | none=>rfl
 | some w=>rw [h w hl]; simp
theorem ky {n:Nat} {l:List Int} (h:Ds n l) (i:Int):∃ r,bV (some ((n:Int),l)) i=some r∧((r = -1∧∀ j:Nat,i≤(j:Int)→mem l j=false) ∨
   ∃ k:Nat,r=(k:Int)∧i≤(k:Int)∧mem l k=true∧∀ j:Nat,i≤(j:Int)→j < k→mem l j=false):=by
 obtain ⟨c,hc⟩:∃ c:Nat,(if i < 0 then 0 else i)=(c:Int):=⟨(if i < 0 then 0 else i).toNat,by split <;> omega⟩
 have hci:∀ j:Nat,i≤(j:Int)↔c≤j:=fun j=>by split at hc <;> omega
 have hn:=h.hn
 have hl:=h.len
 unfold bV
 simp only [hc,ka,Option.bind_some]
 by_cases hk:c < n
 . have hd : decide (0 ≤ (c : Int) ∧ (c : Int) < n) = true := by simpa using hk
   obtain ⟨x,hx,hx2⟩:=h.word hk
   have e1:IntKind.wrap .i64 (Int.tdiv (c:Int) 64)=((c / 64:Nat):Int):=by
     rw [show Int.tdiv (c:Int) 64=((c / 64:Nat):Int) from rfl]
     exact w64 (by omega) (by omega)
   have e2:Int.tmod (c:Int) 64=((c % 64:Nat):Int):=rfl
   have g:ah l ((c / 64:Nat):Int)=some (x:Int):=by
     unfold ah
     rw [if_pos (Int.natCast_nonneg _),Int.toNat_natCast]
     exact hx
   have hr:c % 64 < 64:=Nat.mod_lt c (by decide)
   have hw2:x / 2 ^ (c % 64) * 2 ^ (c % 64) < 18446744073709551616:=Nat.lt_of_le_of_lt (Nat.div_mul_le_self x _) hx2
   obtain ⟨r,hlp,hcase⟩:=sB (n:=(n:Int)) h.wd (by omega) (l.length - 1 - c / 64) (c / 64) _ (by omega) hw2
   simp only [hd,Bool.not_true,cond_false,e1,e2,g,Option.bind_some,ly (Int.natCast_nonneg _),Int.toNat_natCast,sD x _ hx2 hr,hlp]
   rcases hcase with ⟨rfl,h4,h5⟩ | ⟨b,v,rfl,h4,h5,h6,h7,h8,h9⟩
   . refine ⟨-1,rfl,.inl ⟨rfl,fun j hj=>?_⟩⟩
     have hj:=(hci j).1 hj
     by_cases hja:j / 64=c / 64
     . rw [cC (by rw [hja]; exact hx)]
       have:=iD x (c % 64) (j % 64)
       rw [h4,Nat.zero_testBit] at this
       have hle:c % 64≤j % 64:=by omega
       simpa [hle] using this.symm
     . refine kH (fun w hw=>?_)
       have hlt:=(List.getElem?_eq_some_iff.1 hw).1
       rw [h5 (j / 64) (by omega) hlt] at hw
       exact (Option.some.inj hw).symm
   . obtain ⟨t1,t2,t3⟩:=vu h4 h5
     have ht:tzF (v:Int)=some ((Lib.ctz 64 v:Nat):Int):=by
       unfold tzF
       rw [if_pos ⟨Int.natCast_nonneg _,by omega⟩,Int.toNat_natCast]
     have e3:IntKind.wrap .i64 (IntKind.wrap .i64 ((b:Int) * 64) + ((Lib.ctz 64 v:Nat):Int))=((b * 64 + Lib.ctz 64 v:Nat):Int):=by
       rw [w64 (x:=(b:Int) * 64) (by omega) (by omega),w64 (by omega) (by omega)]
       omega
     refine ⟨((b * 64 + Lib.ctz 64 v:Nat):Int),by simp only [ht,Option.bind_some,e3],.inr ⟨_,rfl,?_⟩⟩
     generalize Lib.ctz 64 v=z at t1 t2 t3
     have d1:(b * 64 + z) / 64=b:=by omega
     have d2:(b * 64 + z) % 64=z:=by omega
     rcases h8 with ⟨rfl,rfl⟩ | ⟨g1,g2,g3⟩
     . rw [iD,Bool.and_eq_true] at t2
       have hz:c % 64≤z:=by simpa using t2.1
       refine ⟨(hci _).2 (by omega),?_,fun j hj hjk=>?_⟩
       . rw [cC (x:=x) (by rw [d1]; exact hx),d2]
         exact t2.2
       . have hj:=(hci j).1 hj
         have:=t3 (j % 64) (by omega)
         rw [iD] at this
         rw [cC (by rw [show j / 64=c / 64 by omega]; exact hx)]
         have hle:c % 64≤j % 64:=by omega
         simpa [hle] using this
     . refine ⟨(hci _).2 (by omega),?_,fun j hj hjk=>?_⟩
       . rw [cC (x:=v) (by rw [d1]; exact g3),d2]
         exact t2
       . have hj:=(hci j).1 hj
         by_cases hja:j / 64=c / 64
         . rw [cC (by rw [hja]; exact hx)]
           have:=iD x (c % 64) (j % 64)
           rw [g2,Nat.zero_testBit] at this
           have hle:c % 64≤j % 64:=by omega
           simpa [hle] using this.symm
         . by_cases hjb:j / 64=b
           . rw [cC (by rw [hjb]; exact g3)]
             exact t3 _ (by omega)
           . exact kH (fun w hw=>by
               rw [h9 (j / 64) (by omega) (by omega)] at hw
               exact (Option.some.inj hw).symm)
 . have hd:decide (0≤(c:Int)∧(c:Int) < n)=false:=by simpa using hk
   simp only [hd,Bool.not_false,cond_true]
   exact ⟨-1,rfl,.inl ⟨rfl,fun j hj=>h.top j (by have:=(hci j).1 hj; omega)⟩⟩
theorem gl (m j:Nat):mem (List.replicate m 0) j=false:=kH (fun w hw=>by
 rw [List.getElem?_replicate] at hw
 split at hw
 . exact (Option.some.inj hw).symm
 . cases hw)
theorem pT {n:Nat} (h:n≤1048576):Ds n (List.replicate ((n + 63) / 64) 0) :=
 ⟨h,List.length_replicate,fun w hw=>by
   obtain ⟨_,rfl⟩:=List.mem_replicate.1 hw
   exact ⟨Int.le_refl _,by decide⟩,fun j _=>gl _ j⟩
theorem uf (n:Int):cy n=if n < 0 then some (.inl 2) else if 1048576 < n then some (.inl 5) else some (.inr (0,n,List.replicate ((n.toNat + 63) / 64) 0)):=by
 unfold cy
 by_cases h1:n < 0
 . simp [h1]
 . by_cases h2:1048576 < n
   . simp [h1,h2]
   . obtain ⟨k,rfl⟩:=Int.eq_ofNat_of_zero_le (by omega:0≤n)
     have e:IntKind.wrap .i64 (Int.tdiv (IntKind.wrap .i64 (IntKind.wrap .i64 ((k:Int) + 64) - 1)) 64)=(((k + 63) / 64:Nat):Int):=by
       rw [w64 (x:=(k:Int) + 64) (by omega) (by omega),w64 (x:=(k:Int) + 64 - 1) (by omega) (by omega),show (k:Int) + 64 - 1=((k + 63:Nat):Int) by omega]
       rw [show Int.tdiv ((k + 63:Nat):Int) 64=(((k + 63) / 64:Nat):Int) from rfl]
       exact w64 (by omega) (by omega)
     rw [e]
     have hm:(mk ((((k + 63) / 64:Nat):Int)) ((((k + 63) / 64:Nat):Int)) (0:Int))=some (List.replicate ((k + 63) / 64) 0):=by
       unfold mk
       rw [if_pos (by constructor <;> omega),Int.toNat_natCast]
     rw [hm]
     simp [h1,h2]
def cg (n:Nat) (l:List Int):List Nat:=(List.range n).filter (mem l)
def liN (L:List Nat):List Int:=L.map Int.ofNat
theorem iv {p:Nat→Bool} {c:Nat}:∀ (d:Nat),(∀ j,c≤j→j < c + d→p j=false)→(List.range (c + d)).filter p=(List.range c).filter p
 | 0,_=>rfl
 | d + 1,h=>by
   rw [← Nat.add_assoc,List.range_succ,List.filter_append,iv d (fun j h1 h2=>h j h1 (by omega))]
   simp [h (c + d) (by omega) (by omega)]
theorem fZ (p:Nat→Bool) (c:Nat):((List.range c).filter p).length≤c:=by
 have:=List.length_filter_le p (List.range c)
 simpa using this
theorem vZ {n:Nat} {l:List Int} (h:Ds n l) {body:Int×List Int→Option ((Int×List Int)⊕List Int)}
   (hb:∀ (c:List Int) (k:Nat),mem l k=true→body ((k:Int),c)=(app c [(k:Int)]).bind fun z=>(bV (some ((n:Int),l)) ((k:Int) + 1)).bind fun i=>some (.inl (i,z))) (he:∀ c,body (-1,c)=some (.inr c)) :
   ∃ r,bV (some ((n:Int),l)) 0=some r∧loop body (r,[])=some (liN (cg n l)):=by
 have hn:=h.hn
 have lt_of:∀ k,mem l k=true→k < n:=fun k hk=>by
   rcases Nat.lt_or_ge k n with h1 | h1
   . exact h1
   . rw [h.top k h1] at hk; cases hk
 have key:∀ (r:Int) (acc:List Int),(∃ c:Nat,c≤n∧acc=liN ((List.range c).filter (mem l))∧((r = -1∧∀ j:Nat,(c:Int)≤(j:Int)→mem l j=false)∨∃ k:Nat,r=(k:Int)∧(c:Int)≤(k:Int)∧mem l k=true∧∀ j:Nat,(c:Int)≤(j:Int)→j < k→mem l j=false)) →
     loop body (r,acc)=some (liN (cg n l)):=by
   intro r acc hI
   refine tR (fun s=>∃ c:Nat,c≤n∧s.2=liN ((List.range c).filter (mem l))∧((s.1 = -1∧∀ j:Nat,(c:Int)≤(j:Int)→mem l j=false)∨∃ k:Nat,s.1=(k:Int)∧(c:Int)≤(k:Int)∧mem l k=true∧∀ j:Nat,(c:Int)≤(j:Int)→j < k→mem l j=false)) (fun s=>if s.1 < 0 then 0 else n + 1 - s.1.toNat) ?_ (s:=(r,acc)) hI
   rintro ⟨r,acc⟩ ⟨c,hcn,rfl,hr⟩
   rcases hr with ⟨rfl,h2⟩ | ⟨k,rfl,h2,h3,h4⟩
   . right
     have e:cg n l=(List.range c).filter (mem l):=by
       unfold cg
       have:=iv (p:=mem l) (c:=c) (n - c) (fun j h1 _=>h2 j (by omega))
       rw [show c + (n - c)=n by omega] at this
       exact this
     rw [e]
     exact he _
   . left
     have hk:=lt_of k h3
     obtain ⟨r',g1,g2⟩:=ky h (((k + 1:Nat):Int))
     have e1:(k:Int) + 1=((k + 1:Nat):Int):=rfl
     have e2:(List.range (k + 1)).filter (mem l)=(List.range c).filter (mem l)++[k]:=by
       have:=iv (p:=mem l) (c:=c) (k - c) (fun j h5 h6=>h4 j (by omega) (by omega))
       rw [show c + (k - c)=k by omega] at this
       rw [List.range_succ,List.filter_append,this]
       simp [h3]
     have e3:app (liN ((List.range c).filter (mem l))) [(k:Int)]=some (liN ((List.range (k + 1)).filter (mem l))):=by
       have:=fZ (mem l) c
       unfold app
       rw [if_pos (by simp [liN]; omega),e2]
       simp [liN]
     refine ⟨(r',liN ((List.range (k + 1)).filter (mem l))),?_,⟨k + 1,by omega,rfl,g2⟩,?_⟩
     . rw [hb _ k h3]
       simp only [e3,e1,g1,Option.bind_some]
     . show (if r' < 0 then 0 else n + 1 - r'.toNat) < (if (k:Int) < 0 then 0 else n + 1 - (k:Int).toNat)
       rw [if_neg (by omega:¬ (k:Int) < 0),Int.toNat_natCast]
       rcases g2 with ⟨rfl,_⟩ | ⟨k',rfl,k1,k2,_⟩
       . simp; omega
       . rw [if_neg (by omega:¬ (k':Int) < 0),Int.toNat_natCast]
         have:=lt_of k' k2
         omega
 obtain ⟨r,g1,g2⟩:=ky h 0
 exact ⟨r,g1,key r [] ⟨0,Nat.zero_le n,rfl,g2⟩⟩
section
theorem dlt {k n:Nat} (h:k < n):decide ((k:Int) < (n:Int))=true:=by simp; omega
theorem dge {k n:Nat} (h:¬ k < n):decide ((k:Int) < (n:Int))=false:=by simp; omega
section
variable {α β γ σ:Type}
theorem rS {body:Int→Option (Int⊕β)} (xa:List α) (t:α→Bool) (hit:Nat→β) (e:β) (hb:∀ (k:Nat) (h:k < xa.length),body (k:Int)=some (if t xa[k] then .inr (hit k) else .inl ((k + 1:Nat):Int))) (he:body (xa.length:Int)=some (.inr e)) :
   loop body 0=some (match xa.findIdx? t with | some k=>hit k | none=>e):=by
 rcases sH (fun k=>∃ h:k < xa.length,t xa[k]=true) (fun k:Nat=>(k:Int)) xa.length hit e (fun k hk hp=>by
     rw [hb k hk,if_neg (fun h=>hp ⟨hk,h⟩)]) (fun k hk ⟨_,hp⟩=>by rw [hb k hk,if_pos hp]) he with ⟨k,h1,⟨_,h2⟩,h3,h4⟩ | ⟨h1,h2⟩
 . rw [show ((0:Int))=((0:Nat):Int) from rfl,h4]
   have:xa.findIdx? t=some k:=by
     rw [List.findIdx?_eq_some_iff_getElem]
     exact ⟨h1,h2,fun j hj=>fun hc=>h3 j hj ⟨by omega,by simpa using hc⟩⟩
   rw [this]
 . rw [show ((0:Int))=((0:Nat):Int) from rfl,h2]
   have:xa.findIdx? t=none:=by
     rw [List.findIdx?_eq_none_iff]
     intro x hx
     obtain ⟨k,hk,rfl⟩:=List.getElem_of_mem hx
     cases hc:t xa[k] with
     | false=>rfl
     | true=>exact absurd ⟨hk,hc⟩ (h1 k hk)
   rw [this]
theorem sr [DecidableEq α] {body:Int→Option (Int⊕β)} (xa xb:List α) (hit e:β) (hl:xa.length=xb.length) (hb:∀ (k:Nat) (h:k < xa.length),body (k:Int)=some (if xa[k]=(xb[k]'(by omega)) then .inl ((k + 1:Nat):Int) else .inr hit)) (he:body (xa.length:Int)=some (.inr e)) :
   loop body 0=some (if xa=xb then e else hit):=by
 rw [rS (List.range xa.length) (fun k=>decide (xa[k]?≠xb[k]?)) (fun _=>hit) e (fun k h=>by
     simp at h
     rw [hb k h]
     have h2:k < xb.length:=by omega
     by_cases hq:xa[k]=xb[k] <;> simp [h,h2,hq]) (by simpa using he)]
 by_cases hq:xa=xb
 . subst hq
   have:(List.range xa.length).findIdx? (fun k=>decide (xa[k]?≠xa[k]?))=none:=by rw [List.findIdx?_eq_none_iff]; simp
   rw [this]; simp
 . cases h:(List.range xa.length).findIdx? (fun k=>decide (xa[k]?≠xb[k]?)) with
   | some k=>simp [hq]
   | none =>
     exfalso; apply hq
     rw [List.findIdx?_eq_none_iff] at h
     apply List.ext_getElem?
     intro k
     by_cases hk:k < xa.length
     . simpa using h k (List.mem_range.2 hk)
     . rw [List.getElem?_eq_none (by omega),List.getElem?_eq_none (by omega)]
theorem kB {l:List α} {k:Nat} (h:k < l.length):l.take (k + 1)=l.take k++[l[k]]:=List.take_succ_eq_append_getElem h
theorem xw {a b:Nat} (h:a=b):(!decide ((a:Int)=(b:Int)))=false:=by simp [h]
theorem wD {a b:Nat} (h:¬ a=b):(!decide ((a:Int)=(b:Int)))=true:=by simp; omega
end
end
def pc:Nat→Nat→Nat
 | 0,_=>0
 | n + 1,x=>(x % 2) + pc n (x / 2)
theorem fY (a b y M:Nat) (ha:a < 256) (hb:b < 256):(a + 256 * y) &&& (b + 256 * M)=(a &&& b) + 256 * (y &&& M):=by
 have h1:a &&& b < 256:=Nat.and_lt_two_pow (n:=8) a hb
 apply Nat.eq_of_testBit_eq
 intro i
 have e:∀ (u v:Nat),u < 256→(u + 256 * v).testBit i=if i < 8 then u.testBit i else v.testBit (i - 8):=fun u v hu=>by
   rw [Nat.add_comm,show 256 * v=2 ^ 8 * v from rfl,Nat.testBit_two_pow_mul_add v (show u < 2 ^ 8 from hu)]
 rw [Nat.testBit_and,e a y ha,e b M hb,e _ _ h1]
 split <;> simp [Nat.testBit_and]
theorem iG (P:Nat→Bool) (h:(List.range 256).all P=true) {a:Nat} (ha:a < 256):P a=true:=List.all_eq_true.1 h a (List.mem_range.2 ha)
def s1 (M x:Nat):Nat:=((x / 2) &&& M) + (x &&& M)
def s2 (M x:Nat):Nat:=((x / 4) &&& M) + (x &&& M)
def s3 (M x:Nat):Nat:=(x / 16 + x) &&& M
theorem tO (a y M:Nat) (ha:a < 256):s1 (85 + 256 * M) (a + 256 * y)=s1 85 a + 256 * s1 M y:=by
 unfold s1
 have h2:(a + 256 * y) / 2=(a / 2 + 128 * (y % 2)) + 256 * (y / 2):=by omega
 have h3:(a / 2 + 128 * (y % 2)) &&& 85=(a / 2) &&& 85:=by
   have h4:y % 2=0∨y % 2=1:=by omega
   rcases h4 with h4 | h4
   . rw [h4]; rfl
   . rw [h4]
     have:=iG (fun a=>decide (((a / 2 + 128 * 1) &&& 85)=((a / 2) &&& 85))) (by decide +kernel) ha
     exact of_decide_eq_true this
 rw [fY a 85 y M ha (by decide),h2,fY _ 85 _ M (by omega) (by decide),h3]
 omega
theorem vP {a:Nat} (ha:a < 256):s1 85 a < 256:=by
 have:=iG (fun a=>decide (s1 85 a < 256)) (by decide +kernel) ha
 exact of_decide_eq_true this
theorem tX (a y M:Nat) (ha:a < 256):s2 (51 + 256 * M) (a + 256 * y)=s2 51 a + 256 * s2 M y:=by
 unfold s2
 have h2:(a + 256 * y) / 4=(a / 4 + 64 * (y % 4)) + 256 * (y / 4):=by omega
 have h3:(a / 4 + 64 * (y % 4)) &&& 51=(a / 4) &&& 51:=by
   have h4:y % 4=0∨y % 4=1∨y % 4=2∨y % 4=3:=by omega
   have:=iG (fun a=>decide (((a / 4 + 64 * 1) &&& 51)=((a / 4) &&& 51)∧((a / 4 + 64 * 2) &&& 51)=((a / 4) &&& 51)∧((a / 4 + 64 * 3) &&& 51)=((a / 4) &&& 51))) (by decide +kernel) ha
   have:=of_decide_eq_true this
   rcases h4 with h4 | h4 | h4 | h4 <;> rw [h4]
   . rfl
   . exact this.1
   . exact this.2.1
   . exact this.2.2
 rw [fY a 51 y M ha (by decide),h2,fY _ 51 _ M (by omega) (by decide),h3]
 omega
theorem pu {a:Nat} (ha:a < 256):((s2 51 (s1 85 a)) / 16 + (s2 51 (s1 85 a)) % 16)=pc 8 a∧(s2 51 (s1 85 a)) % 16≤4∧(s2 51 (s1 85 a)) / 16≤4∧s2 51 (s1 85 a) < 256∧pc 8 a≤8:=by
 have:=iG (fun a=>decide (((s2 51 (s1 85 a)) / 16 + (s2 51 (s1 85 a)) % 16)=pc 8 a∧(s2 51 (s1 85 a)) % 16≤4∧(s2 51 (s1 85 a)) / 16≤4∧s2 51 (s1 85 a) < 256∧pc 8 a≤8)) (by decide +kernel) ha
 exact of_decide_eq_true this
theorem tP (a y M:Nat) (ha:a < 256) (h1:a % 16≤4) (h2:a / 16≤4) (h3:y % 16≤4):s3 (15 + 256 * M) (a + 256 * y)=(a / 16 + a % 16) + 256 * s3 M y:=by
 unfold s3
 have e:(a + 256 * y) / 16 + (a + 256 * y)=(a / 16 + a % 16 + 16 * (a / 16 + y % 16)) + 256 * (y / 16 + y):=by omega
 rw [e,fY _ 15 _ M (by omega) (by decide)]
 have:(a / 16 + a % 16 + 16 * (a / 16 + y % 16)) &&& 15=a / 16 + a % 16:=by
   rw [show (15:Nat)=2 ^ 4 - 1 from rfl,Nat.and_two_pow_sub_one_eq_mod]
   omega
 rw [this]
theorem pK:∀ (n m x:Nat),pc (n + m) x=pc n x + pc m (x / 2 ^ n)
 | 0,m,x=>by simp [pc]
 | n + 1,m,x=>by
   rw [show n + 1 + m=(n + m) + 1 by omega,show pc ((n + m) + 1) x=x % 2 + pc (n + m) (x / 2) from rfl,show pc (n + 1) x=x % 2 + pc n (x / 2) from rfl]
   rw [pK n m,Nat.div_div_eq_div_mul,Nat.pow_succ,Nat.mul_comm 2]
   omega
theorem wk (a y:Nat) (ha:a < 256):pc 8 (a + 256 * y)=pc 8 a:=by
 unfold pc pc pc pc pc pc pc pc pc
 omega
def c8:Nat→Nat→Nat
 | _,0=>0
 | b,n + 1=>b + 256 * c8 b n
def pcs:Nat→Nat→Nat
 | 0,_=>0
 | n + 1,x=>pc 8 (x % 256) + 256 * pcs n (x / 256)
theorem wK (n:Nat):∀ x,x < 256 ^ n→s3 (c8 15 n) (s2 (c8 51 n) (s1 (c8 85 n) x))=pcs n x∧(s2 (c8 51 n) (s1 (c8 85 n) x)) % 16≤4:=by
 induction n with
 | zero => intro x hx; have : x = 0 := by simp at hx; omega
           subst this; decide
 | succ n ih =>
   intro x hx
   have hx2:x / 256 < 256 ^ n:=by
     rw [Nat.pow_succ] at hx
     exact Nat.div_lt_of_lt_mul (by rw [Nat.mul_comm]; exact hx)
   obtain ⟨i1,i2⟩:=ih _ hx2
   have ha:x % 256 < 256:=Nat.mod_lt _ (by decide)
   obtain ⟨b1,b2,b3,b4,b5⟩:=pu ha
   have e:x=x % 256 + 256 * (x / 256):=by omega
   unfold c8
   have e1:s1 (85 + 256 * c8 85 n) x=s1 85 (x % 256) + 256 * s1 (c8 85 n) (x / 256):=by
     conv=>lhs; rw [e]
     exact tO _ _ _ ha
   rw [e1,tX _ _ _ (vP ha),tP _ _ _ b4 b2 b3 i2,i1,b1]
   refine ⟨rfl,?_⟩
   omega
theorem uP (x:Nat) (hx:x < 18446744073709551616):s3 1085102592571150095 (s2 3689348814741910323 (s1 6148914691236517205 x))=pcs 8 x :=
 (wK 8 x hx).1
theorem wE (x:Nat):∃ p0 p1 p2 p3 p4 p5 p6 p7:Nat,pcs 8 x=p0 + 256 * (p1 + 256 * (p2 + 256 * (p3 + 256 * (p4 + 256 * (p5 + 256 * (p6 + 256 * (p7 + 256 * 0)))))))∧pc 64 x=p0 + p1 + p2 + p3 + p4 + p5 + p6 + p7∧p0≤8∧p1≤8∧p2≤8∧p3≤8∧p4≤8∧p5≤8∧p6≤8∧p7≤8:=by
 have h:∀ y,pc 8 (y % 256)≤8:=fun y=>(pu (Nat.mod_lt y (by decide))).2.2.2.2
 have g:∀ m y,pc (8 + m) y=pc 8 (y % 256) + pc m (y / 256):=fun m y=>by
   rw [pK 8 m]
   congr 1
   conv=>lhs; rw [show y=y % 256 + 256 * (y / 256) by omega]
   exact wk _ _ (Nat.mod_lt _ (by decide))
 refine ⟨_,_,_,_,_,_,_,_,rfl,?_,h _,h _,h _,h _,h _,h _,h _,h _⟩
 rw [show (64:Nat)=8 + (8 + (8 + (8 + (8 + (8 + (8 + (8 + 0))))))) from rfl,g,g,g,g,g,g,g,g]
 simp only [pc]
 omega
theorem dv {k L R x:Nat} (hk:0 < k) (h:x=L + k * R) (hL:L < k):x / k=R:=by
 rw [h,Nat.add_mul_div_left _ _ hk,Nat.div_eq_of_lt hL,Nat.zero_add]
theorem xD {y z u v s:Nat} {p0 p1 p2 p3 p4 p5 p6 p7:Nat} (hy:y=p0 + 256 * (p1 + 256 * (p2 + 256 * (p3 + 256 * (p4 + 256 * (p5 + 256 * (p6 + 256 * (p7 + 256 * 0)))))))) (hs:s=p0 + p1 + p2 + p3 + p4 + p5 + p6 + p7) (h0:p0≤8) (h1:p1≤8) (h2:p2≤8) (h3:p3≤8) (h4:p4≤8) (h5:p5≤8) (h6:p6≤8) (h7:p7≤8)
   (hz:z=y + y / 256) (hu:u=z + z / 65536) (hv:v=u + u / 4294967296):v % 128=s∧v < 9223372036854775808:=by
 have e1:y / 256=p1 + 256 * (p2 + 256 * (p3 + 256 * (p4 + 256 * (p5 + 256 * (p6 + 256 * p7))))):=dv (L:=p0) (by decide) (by rw [hy]; rfl) (by omega)
 rw [e1,hy] at hz
 have e2:z / 65536=(p2 + p3) + 256 * ((p3 + p4) + 256 * ((p4 + p5) + 256 * ((p5 + p6) + 256 * ((p6 + p7) + 256 * p7)))):=dv (L:=(p0 + p1) + 256 * (p1 + p2)) (by decide) (by rw [hz]; clear hz hu hv hy e1; omega) (by clear hz hu hv hy e1; omega)
 rw [e2,hz] at hu
 clear e1 e2 hz hy
 have e3:u / 4294967296=(p4 + p5 + p6 + p7) + 256 * ((p5 + p6 + p7) + 256 * ((p6 + p7) + 256 * p7)):=dv (L:=(p0 + p1 + p2 + p3) + 256 * ((p1 + p2 + p3 + p4) + 256 * ((p2 + p3 + p4 + p5) + 256 * (p3 + p4 + p5 + p6)))) (by decide) (by rw [hu]; clear hu hv; omega) (by clear hu hv; omega)
 rw [e3,hu] at hv
 clear e3 hu
 refine ⟨?_,by omega⟩
 have:v=s + 128 * (2 * ((p1+p2+p3+p4 + (p5+p6+p7)) + 256 * ((p2+p3+p4+p5 + (p6+p7)) + 256 * ((p3+p4+p5+p6 + p7) + 256 * ((p4+p5+p6+p7) + 256 * ((p5+p6+p7) + 256 * ((p6+p7) + 256 * p7))))))):=by rw [hv,hs]; clear hv hs; omega
 rw [this,Nat.add_mul_mod_self_left]
 exact Nat.mod_eq_of_lt (by omega)

def ocA (x m:Int):Int:=IntKind.wrap .u64 ((BitVec.ofInt (IntKind.bits .u64) x &&& BitVec.ofInt (IntKind.bits .u64) m).toNat:Int)
def ocS (x:Int) (k:Nat):Int:=Int.fdiv x (2 ^ (min k (IntKind.bits .u64)))
def oc1 (x:Int):Int:=IntKind.wrap .u64 (ocA (ocS x 1) 6148914691236517205 + ocA x 6148914691236517205)
def oc2 (x:Int):Int:=IntKind.wrap .u64 (ocA (ocS x 2) 3689348814741910323 + ocA x 3689348814741910323)
def oc3 (x:Int):Int:=ocA (IntKind.wrap .u64 (ocS x 4 + x)) 1085102592571150095
def oc4 (x:Int):Int:=IntKind.wrap .u64 (x + ocS x 8)
def oc5 (x:Int):Int:=IntKind.wrap .u64 (x + ocS x 16)
def oc6 (x:Int):Int:=IntKind.wrap .u64 (x + ocS x 32)
theorem sK (x:Int):hP x=some (IntKind.wrap .i64 ((BitVec.ofInt (IntKind.bits .i64) (IntKind.wrap .i64 (oc6 (oc5 (oc4 (oc3 (oc2 (oc1 x))))))) &&& BitVec.ofInt (IntKind.bits .i64) 127).toNat:Int)):=rfl
theorem gq (x m:Nat) (M:Int) (hM:M=(m:Int)) (hx:x < 18446744073709551616) (hm:m < 18446744073709551616):ocA (x:Int) M=((x &&& m:Nat):Int):=by
 rw [hM]
 exact qT x m hx hm
theorem fc (x k:Nat) (hk:k < 64):ocS (x:Int) k=((x / 2 ^ k:Nat):Int):=by
 unfold ocS
 have h1:min k (IntKind.bits .u64)=k:=Nat.min_eq_left (Nat.le_of_lt hk)
 have hp:((2:Int) ^ k)=((2 ^ k:Nat):Int):=by simp
 rw [h1,hp,Int.fdiv_eq_ediv_of_nonneg _ (Int.natCast_nonneg _)]
 rfl
theorem dD (x m:Nat):x &&& m≤m:=Nat.and_le_right
theorem vF (x:Nat) (hx:x < 18446744073709551616):oc1 (x:Int)=((s1 6148914691236517205 x:Nat):Int):=by
 unfold oc1 s1
 rw [fc x 1 (by decide),gq (x / 2 ^ 1) 6148914691236517205 6148914691236517205 rfl (by omega) (by decide),gq x 6148914691236517205 6148914691236517205 rfl hx (by decide),← Int.natCast_add]
 have b1:=dD (x / 2 ^ 1) 6148914691236517205
 have b2:=dD x 6148914691236517205
 exact cw _ (by omega)
theorem vS (x:Nat) (hx:x < 18446744073709551616):oc2 (x:Int)=((s2 3689348814741910323 x:Nat):Int):=by
 unfold oc2 s2
 rw [fc x 2 (by decide),gq (x / 2 ^ 2) 3689348814741910323 3689348814741910323 rfl (by omega) (by decide),gq x 3689348814741910323 3689348814741910323 rfl hx (by decide),← Int.natCast_add]
 have b1:=dD (x / 2 ^ 2) 3689348814741910323
 have b2:=dD x 3689348814741910323
 exact cw _ (by omega)
theorem vI (z:Nat) (hz:z≤7378697629483820646):oc3 (z:Int)=((s3 1085102592571150095 z:Nat):Int):=by
 unfold oc3 s3
 rw [fc z 4 (by decide),← Int.natCast_add,cw _ (by omega),gq _ 1085102592571150095 1085102592571150095 rfl (by omega) (by decide)]
theorem wy (x:Nat):s1 6148914691236517205 x < 18446744073709551616:=by
 have b1:=dD (x / 2) 6148914691236517205
 have b2:=dD x 6148914691236517205
 unfold s1; omega
theorem wv (x:Nat):s2 3689348814741910323 x≤7378697629483820646:=by
 have b1:=dD (x / 4) 3689348814741910323
 have b2:=dD x 3689348814741910323
 unfold s2; omega
theorem wn (w:Nat) (h:w + w / 256 < 18446744073709551616):oc4 (w:Int)=((w + w / 256:Nat):Int):=by
 unfold oc4
 rw [fc w 8 (by decide),← Int.natCast_add]
 exact cw _ h
theorem vQ (w:Nat) (h:w + w / 65536 < 18446744073709551616):oc5 (w:Int)=((w + w / 65536:Nat):Int):=by
 unfold oc5
 rw [fc w 16 (by decide),← Int.natCast_add]
 exact cw _ h
theorem wc (w:Nat) (h:w + w / 4294967296 < 18446744073709551616):oc6 (w:Int)=((w + w / 4294967296:Nat):Int):=by
 unfold oc6
 rw [fc w 32 (by decide),← Int.natCast_add]
 exact cw _ h
theorem v8 (v:Nat) (h:v < 9223372036854775808):IntKind.wrap .i64 ((BitVec.ofInt (IntKind.bits .i64) (IntKind.wrap .i64 (v:Int)) &&& BitVec.ofInt (IntKind.bits .i64) 127).toNat:Int)=((v % 128:Nat):Int):=by
 rw [w64 (x:=(v:Int)) (by omega) (by omega)]
 show IntKind.wrap .i64 ((BitVec.ofInt 64 (v:Int) &&& BitVec.ofInt 64 ((127:Nat):Int)).toNat:Int)=_
 rw [dp,dp,BitVec.toNat_and,BitVec.toNat_ofNat,BitVec.toNat_ofNat,Nat.mod_eq_of_lt (by omega),Nat.mod_eq_of_lt (by decide),show (127:Nat)=2 ^ 7 - 1 from rfl,Nat.and_two_pow_sub_one_eq_mod]
 exact w64 (by omega) (by omega)
theorem tU (w s:Nat) (h:∃ p0 p1 p2 p3 p4 p5 p6 p7:Nat,w=p0 + 256 * (p1 + 256 * (p2 + 256 * (p3 + 256 * (p4 + 256 * (p5 + 256 * (p6 + 256 * (p7 + 256 * 0)))))))∧s=p0 + p1 + p2 + p3 + p4 + p5 + p6 + p7∧p0≤8∧p1≤8∧p2≤8∧p3≤8∧p4≤8∧p5≤8∧p6≤8∧p7≤8) :
   IntKind.wrap .i64 ((BitVec.ofInt (IntKind.bits .i64) (IntKind.wrap .i64 (oc6 (oc5 (oc4 (w:Int))))) &&& BitVec.ofInt (IntKind.bits .i64) 127).toNat:Int)=((s:Nat):Int):=by
 obtain ⟨p0,p1,p2,p3,p4,p5,p6,p7,q,qs,c0,c1,c2,c3,c4,c5,c6,c7⟩:=h
 obtain ⟨r1,r2⟩:=xD q qs c0 c1 c2 c3 c4 c5 c6 c7 rfl rfl rfl
 clear q qs c0 c1 c2 c3 c4 c5 c6 c7
 generalize h1:w + w / 256=w1 at *
 generalize h2:w1 + w1 / 65536=w2 at *
 generalize h3:w2 + w2 / 4294967296=w3 at *
 rw [wn w (by omega),h1,vQ w1 (by omega),h2,wc w2 (by omega),h3,v8 w3 r2,r1]
theorem vD (x:Nat) (hx:x < 18446744073709551616):hP (x:Int)=some ((pc 64 x:Nat):Int):=by
 rw [sK,vF x hx,vS _ (wy x),vI _ (wv _),uP x hx]
 exact congrArg some (tU _ _ (wE x))
theorem kp:∀ (n x:Nat),pc n x=((List.range n).filter (fun i=>x.testBit i)).length
 | 0,_=>rfl
 | n + 1,x=>by
   have e:(fun i=>x.testBit i) ∘ Nat.succ=fun i=>(x / 2).testBit i:=funext fun i=>by
     show x.testBit (i + 1)=_
     rw [Nat.testBit_succ]
   rw [show pc (n + 1) x=x % 2 + pc n (x / 2) from rfl,kp n (x / 2),List.range_succ_eq_map,List.filter_cons,List.filter_map,e]
   have h0:x.testBit 0=decide (x % 2=1):=Nat.testBit_zero x
   rw [h0]
   by_cases h:x % 2=1
   . rw [if_pos (decide_eq_true h),List.length_cons,List.length_map,h]
     omega
   . rw [if_neg (by simpa using h),List.length_map]
     omega
def bZ (l:List Int):Nat:=(l.map fun w=>pc 64 w.toNat).sum
theorem mem_cons (w:Int) (l:List Int) (i:Nat):mem (w :: l) i=if i < 64 then w.toNat.testBit i else mem l (i - 64):=by
 unfold mem
 by_cases h:i < 64
 . rw [if_pos h,Nat.div_eq_of_lt h,Nat.mod_eq_of_lt h]
   rfl
 . rw [if_neg h,show i / 64=(i - 64) / 64 + 1 by omega,show i % 64=(i - 64) % 64 by omega]
   rfl
theorem pz:∀ l:List Int,((List.range (64 * l.length)).filter (mem l)).length=bZ l
 | []=>rfl
 | w :: l=>by
   rw [show 64 * (w :: l).length=64 + 64 * l.length by simp; omega,List.range_add,List.filter_append,List.length_append,List.filter_map,List.length_map]
   have e1:(List.range 64).filter (mem (w :: l))=(List.range 64).filter (fun i=>w.toNat.testBit i):=List.filter_congr fun i hi=>by
     rw [mem_cons,if_pos (List.mem_range.1 hi)]
   have e2:(mem (w :: l)) ∘ (64 + ·)=mem l:=funext fun i=>by
     show mem (w :: l) (64 + i)=_
     rw [mem_cons,if_neg (by omega),Nat.add_sub_cancel_left]
   rw [e1,e2,pz l,← kp]
   simp [bZ]
theorem uh {n:Nat} {l:List Int} (h:Ds n l):(cg n l).length=bZ l:=by
 have hl:=h.len
 rw [← pz]
 have:=iv (p:=mem l) (c:=n) (64 * l.length - n) (fun j h1 _=>h.top j h1)
 rw [show n + (64 * l.length - n)=64 * l.length by omega] at this
 rw [this]
 rfl
theorem wG (n x:Nat):pc n x≤n:=by
 rw [kp]; exact fZ _ _
theorem nG {l:List Int} {k:Nat} (hk:k < l.length):bZ (l.take (k + 1))=bZ (l.take k) + pc 64 (l[k]).toNat:=by
 unfold bZ
 rw [kB hk,List.map_append,List.sum_append]
 simp
theorem sy {n:Nat} {l:List Int} (h:Ds n l):eA (some ((n:Int),l))=some (((cg n l).length:Nat):Int):=by
 have hn:=h.hn
 have hl:=h.len
 have hb:∀ k,k≤l.length→bZ (l.take k)≤64 * k:=fun k=>by
   induction k with
   | zero=>intro _; simp [bZ]
   | succ k ih =>
     intro hk
     have:=ih (by omega)
     have h2:=wG 64 (l[k]).toNat
     rw [nG (by omega:k < l.length)]
     omega
 unfold eA
 have hlp:loop (fR ((n:Int),l)) ((0:Int),(0:Int))=some ((bZ l:Nat):Int):=by
   have:=cT (body:=fR ((n:Int),l)) (fun k:Nat=>(((bZ (l.take k):Nat):Int),(k:Int))) l.length (b:=((bZ l:Nat):Int)) ?_ ?_
   . exact this
   . intro k hk
     unfold fR
     have hw:=h.wd _ (List.getElem_mem hk)
     unfold Wd at hw
     obtain ⟨x,hx⟩:=Int.eq_ofNat_of_zero_le hw.1
     have ho:=vD x (by omega)
     rw [← hx] at ho
     have hp:l[k].toNat=x:=by omega
     have h1:=hb k (by omega)
     have h2:=hb (k + 1) (by omega)
     have e:bZ (l.take (k + 1))=bZ (l.take k) + pc 64 x:=by
       rw [nG hk,hp]
     simp only [dlt hk,cond_true,be hk,ho,Option.bind_some]
     rw [aZ hk (by omega),e,w64 (by omega) (by omega),← Int.natCast_add]
   . unfold fR
     simp
 simp only [Option.isNone_some,cond_false,Option.bind_some]
 rw [hlp,uh h]
 rfl
theorem ko:∀ {xs ys:List Int},xs.Pairwise (· < ·)→ys.Pairwise (· < ·)→(∀ a,a∈xs↔a∈ys)→xs=ys
 | [],[],_,_,_=>rfl
 | [],y :: ys,_,_,h=>by have:=(h y).2 (by simp); simp at this
 | x :: xs,[],_,_,h=>by have:=(h x).1 (by simp); simp at this
 | x :: xs,y :: ys,hx,hy,h=>by
   obtain ⟨hx1,hx2⟩:=List.pairwise_cons.1 hx
   obtain ⟨hy1,hy2⟩:=List.pairwise_cons.1 hy
   have e:x=y:=by
     have h1:=(h x).1 (by simp)
     have h2:=(h y).2 (by simp)
     rcases List.mem_cons.1 h1 with h1 | h1
     . exact h1
     . rcases List.mem_cons.1 h2 with h2 | h2
       . exact h2.symm
       . have:=hy1 x h1; have:=hx1 y h2; omega
   subst e
   rw [ko hx2 hy2 (fun a=>?_)]
   constructor
   . intro ha
     rcases List.mem_cons.1 ((h a).1 (by simp [ha])) with e | e
     . subst e; have:=hx1 a ha; omega
     . exact e
   . intro ha
     rcases List.mem_cons.1 ((h a).2 (by simp [ha])) with e | e
     . subst e; have:=hy1 a ha; omega
     . exact e
theorem mL {zs:List Int} (hs:zs.Pairwise (·≤·)):∀ m,m≤zs.length→(Lib.compactUpTo zs.toArray m).Pairwise (· < ·)∧∀ a,a∈Lib.compactUpTo zs.toArray m↔a∈zs.take m
 | 0,_=>by simp [Lib.compactUpTo]
 | m + 1,h=>by
   obtain ⟨h1,h2⟩:=mL hs m (by omega)
   have hm:m < zs.length:=by omega
   have e:zs.toArray[m]! = zs[m]:=by simp [getElem!_pos,hm]
   rw [Lib.compactUpTo_succ,e]
   have htk:zs.take (m + 1)=zs.take m++[zs[m]]:=List.take_succ_eq_append_getElem hm
   have hle:∀ a∈zs.take m,a≤zs[m]:=by
     intro a ha
     have:=hs.sublist (List.take_sublist (m + 1) zs)
     rw [htk] at this
     exact (List.pairwise_append.1 this).2.2 a ha _ (by simp)
   rw [htk]
   cases hk:Lib.keeps zs.toArray m with
   | false =>
     simp only [Bool.false_eq_true,if_false,List.append_nil]
     refine ⟨h1,fun a=>?_⟩
     rw [h2,List.mem_append]
     have hm0:m≠0:=by rintro rfl; simp [Lib.keeps] at hk
     have he:zs.toArray[m]! = zs.toArray[m - 1]!:=by
       simp [Lib.keeps,hm0] at hk; simpa using hk
     have hp:m - 1 < zs.length:=by omega
     have e2:zs.toArray[m - 1]! = zs[m - 1]:=by simp [getElem!_pos,hp]
     rw [e,e2] at he
     constructor
     . exact .inl
     . rintro (h | h)
       . exact h
       . simp at h; rw [h,he]
         exact List.mem_take_iff_getElem.2 ⟨m - 1,by omega,rfl⟩
   | true =>
     simp only [if_true]
     refine ⟨List.pairwise_append.2 ⟨h1,by simp,fun a ha b hb=>?_⟩,fun a=>by rw [List.mem_append,List.mem_append,h2]⟩
     simp at hb; subst hb
     have ha':=(h2 a).1 ha
     have hle':=hle a ha'
     rcases Int.lt_or_eq_of_le hle' with h | h
     . exact h
     . exfalso
       obtain ⟨j,hj,rfl⟩:=List.mem_take_iff_getElem.1 ha'
       have hm0:m≠0:=by omega
       have hp:m - 1 < zs.length:=by omega
       have e2:zs.toArray[m - 1]! = zs[m - 1]:=by simp [getElem!_pos,hp]
       simp only [Lib.keeps,e,e2] at hk
       simp [hm0] at hk
       have a1:zs[j]≤zs[m - 1]:=by
         rcases Nat.lt_or_ge j (m - 1) with q | q
         . exact List.pairwise_iff_getElem.1 hs j (m - 1) _ _ q
         . have:j=m - 1:=by omega
           subst this; exact Int.le_refl _
       have a2:zs[m - 1]≤zs[m]:=List.pairwise_iff_getElem.1 hs (m - 1) m _ _ (by omega)
       omega
theorem rF {zs:List Int} (hs:zs.Pairwise (·≤·)):(Lib.compact zs).Pairwise (· < ·)∧∀ a,a∈Lib.compact zs↔a∈zs:=by
 have:=mL hs zs.length (Nat.le_refl _)
 rw [List.take_length] at this
 exact this
def ins (i:Int):List Int→List Int
 | []=>[i]
 | x :: l=>if i < x then i :: x :: l else x :: ins i l
theorem iN (i a:Int):∀ l,a∈ins i l↔a=i∨a∈l
 | []=>by simp [ins]
 | x :: l=>by
   unfold ins
   split
   . simp
   . rw [List.mem_cons,iN i a l,List.mem_cons]
     constructor
     . rintro (h | h | h) <;> simp [h]
     . rintro (h | h | h) <;> simp [h]
theorem lA (i:Int):∀ l:List Int,l.Pairwise (· < ·)→i∉l→(ins i l).Pairwise (· < ·)
 | [],_,_=>by simp [ins]
 | x :: l,h,hi=>by
   obtain ⟨h1,h2⟩:=List.pairwise_cons.1 h
   have hx:i≠x:=fun e=>hi (by simp [e])
   unfold ins
   split
   . rename_i hlt
     refine List.pairwise_cons.2 ⟨fun a ha=>?_,h⟩
     rcases List.mem_cons.1 ha with rfl | ha
     . exact hlt
     . have:=h1 a ha; omega
   . refine List.pairwise_cons.2 ⟨fun a ha=>?_,lA i l h2 (fun hm=>hi (by simp [hm]))⟩
     rcases (iN i a l).1 ha with rfl | ha
     . omega
     . exact h1 a ha
def qM (L:List Int) (i:Int):Bool:=decide (i∈L)
def df (s:Int) (L:List Int) (i:Int):List Int:=if (0≤i∧i < s)∧i∉L then ins i L else L
def gD (s:Int) (L:List Int) (i:Int):Bool:=decide ((0≤i∧i < s)∧i∉L)
def rOr (s:Int) (L:List Int):List Int→List Int×Bool
 | []=>(L,false)
 | x :: l=>((rOr s (df s L x) l).1,gD s L x||(rOr s (df s L x) l).2)
theorem va {s:Int} {L:List Int} (h:L.Pairwise (· < ·)) (i:Int):(df s L i).Pairwise (· < ·):=by
 unfold df
 split
 . rename_i h4; exact lA _ _ h h4.2
 . exact h
theorem kT {s:Int} {L:List Int} (i x:Int):x∈df s L i↔x∈L∨(x=i∧0≤i∧i < s):=by
 unfold df
 split
 . rename_i h4
   rw [iN]
   constructor
   . rintro (h | h)
     . exact .inr ⟨h,h4.1⟩
     . exact .inl h
   . rintro (h | h)
     . exact .inr h
     . exact .inl h.1
 . rename_i h4
   constructor
   . exact .inl
   . rintro (h | ⟨rfl,h⟩)
     . exact h
     . refine Classical.byContradiction fun h5=>h4 ⟨h,h5⟩
theorem pH (s:Int):∀ (l L:List Int),L.Pairwise (· < ·)→(rOr s L l).1.Pairwise (· < ·)
 | [],_,h=>h
 | x :: l,L,h=>pH s l _ (va h x)
theorem pq (s:Int) (x:Int):∀ (l L:List Int),x∈(rOr s L l).1↔x∈L∨(x∈l∧0≤x∧x < s)
 | [],L=>by simp [rOr]
 | y :: l,L=>by
   unfold rOr
   dsimp only
   rw [pq s x l,kT,List.mem_cons]
   constructor
   . rintro ((h | ⟨h,h2⟩) | ⟨h,h2⟩)
     . exact .inl h
     . subst h; exact .inr ⟨.inl rfl,h2⟩
     . exact .inr ⟨.inr h,h2⟩
   . rintro (h | ⟨h | h,h2⟩)
     . exact .inl (.inl h)
     . subst h; exact .inl (.inr ⟨rfl,h2⟩)
     . exact .inr ⟨h,h2⟩
theorem pR (s:Int):∀ (l L:List Int),(rOr s L l).2=true↔∃ x∈l,(0≤x∧x < s)∧x∉L
 | [],L=>by simp [rOr]
 | y :: l,L=>by
   unfold rOr
   dsimp only
   rw [Bool.or_eq_true,pR s l]
   unfold gD
   rw [decide_eq_true_eq]
   constructor
   . rintro (h | ⟨x,h1,h2,h3⟩)
     . exact ⟨y,by simp,h⟩
     . exact ⟨x,by simp [h1],h2,fun h=>h3 ((kT _ _).2 (.inl h))⟩
   . rintro ⟨x,h1,h2,h3⟩
     by_cases hy:(0≤y∧y < s)∧y∉L
     . exact .inl hy
     . rcases List.mem_cons.1 h1 with rfl | h1
       . exact absurd ⟨h2,h3⟩ hy
       . refine .inr ⟨x,h1,h2,fun h=>?_⟩
         rcases (kT _ _).1 h with h | ⟨rfl,h⟩
         . exact h3 h
         . exact hy ⟨h,h3⟩
structure Rp (n:Nat) (l:List Int) (L:List Int):Prop where
 ds:Ds n l
 rs:L.Pairwise (· < ·)
 mm:∀ x:Int,x∈L↔0≤x∧mem l x.toNat=true
theorem vf (M:List Nat) (x:Int):x∈liN M↔0≤x∧x.toNat∈M:=by
 unfold liN
 rw [List.mem_map]
 constructor
 . rintro ⟨a,ha,rfl⟩
   exact ⟨Int.natCast_nonneg _,by simpa using ha⟩
 . rintro ⟨h1,h2⟩
   exact ⟨x.toNat,h2,Int.toNat_of_nonneg h1⟩
theorem dm {n:Nat} {l:List Int} (h:Ds n l) {k:Nat} (hk:mem l k=true):k < n:=by
 rcases Nat.lt_or_ge k n with h1 | h1
 . exact h1
 . rw [h.top k h1] at hk; cases hk
theorem uo {n:Nat} {l:List Int} (h:Ds n l) (k:Nat):k∈cg n l↔mem l k=true:=by
 unfold cg
 rw [List.mem_filter,List.mem_range]
 exact ⟨fun h=>h.2,fun hk=>⟨dm h hk,hk⟩⟩
theorem vW (n:Nat) (l:List Int):(liN (cg n l)).Pairwise (· < ·):=by
 unfold liN cg
 rw [List.pairwise_map]
 refine List.Pairwise.imp (fun h=>?_) (List.Pairwise.filter (mem l) (List.pairwise_lt_range (n:=n)))
 exact Int.ofNat_lt.2 h
theorem Rp.eq {n:Nat} {l L:List Int} (h:Rp n l L):liN (cg n l)=L :=
 ko (vW n l) h.rs (fun x=>by rw [vf,uo h.ds,h.mm])
theorem Rp.len {n:Nat} {l L:List Int} (h:Rp n l L):(cg n l).length=L.length:=by
 rw [← h.eq]; simp [liN]
theorem Rp.le {n:Nat} {l L:List Int} (h:Rp n l L):L.length≤n:=by
 rw [← h.len]; exact fZ _ _
theorem Rp.has {n:Nat} {l L:List Int} (h:Rp n l L) (i:Int):cO (some ((n:Int),l)) i=some (qM L i):=by
 rw [kJ h.ds]
 congr 1
 unfold qM
 rw [Bool.eq_iff_iff,Bool.and_eq_true,decide_eq_true_eq,decide_eq_true_eq,h.mm]
 constructor
 . exact fun h=>⟨h.1.1,h.2⟩
 . intro h2
   have:=dm h.ds h2.2
   exact ⟨⟨h2.1,by omega⟩,h2.2⟩
theorem Rp.add {n:Nat} {l L:List Int} (h:Rp n l L) (i:Int):∃ l',dj i n l=some (gD n L i,l')∧Rp n l' (df n L i):=by
 obtain ⟨l',h1,h2,h3⟩:=ou h.ds i
 have hm:=h.mm i
 have e:(decide (0≤i∧i < n)&&!mem l i.toNat)=gD n L i:=by
   unfold gD
   rw [Bool.eq_iff_iff,Bool.and_eq_true,decide_eq_true_eq,decide_eq_true_eq,hm]
   constructor
   . rintro ⟨h5,h6⟩
     exact ⟨h5,fun h7=>by rw [h7.2] at h6; cases h6⟩
   . rintro ⟨h5,h6⟩
     refine ⟨h5,?_⟩
     cases h7:mem l i.toNat with
     | false=>rfl
     | true=>exact absurd ⟨h5.1,h7⟩ h6
 refine ⟨l',by rw [h1,e],h2,?_,fun x=>?_⟩
 . unfold df
   split
   . rename_i h4
     exact lA _ _ h.rs h4.2
   . exact h.rs
 . rw [h3]
   unfold df
   split
   . rename_i h4
     rw [iN,h.mm,Bool.or_eq_true,decide_eq_true_eq]
     constructor
     . rintro (rfl | h5)
       . exact ⟨h4.1.1,.inr ⟨h4.1,rfl⟩⟩
       . exact ⟨h5.1,.inl h5.2⟩
     . rintro ⟨h5,h6 | h6⟩
       . exact .inr ⟨h5,h6⟩
       . exact .inl (by omega)
   . rename_i h4
     rw [h.mm,Bool.or_eq_true,decide_eq_true_eq]
     constructor
     . exact fun h5=>⟨h5.1,.inl h5.2⟩
     . rintro ⟨h5,h6 | h6⟩
       . exact ⟨h5,h6⟩
       . have hx:x=i:=by omega
         subst hx
         refine ⟨h5,?_⟩
         cases h7:mem l x.toNat with
         | true=>rfl
         | false=>exact absurd ⟨h6.1,fun h8=>by rw [(hm.1 h8).2] at h7; cases h7⟩ h4
theorem nE (x y:Nat) (hx:x < 18446744073709551616) (hy:y < 18446744073709551616):IntKind.wrap .u64 ((BitVec.ofInt (IntKind.bits .u64) (x:Int) &&& ~~~BitVec.ofInt (IntKind.bits .u64) (y:Int)).toNat:Int)=0↔∀ i,x.testBit i=true→y.testBit i=true:=by
 have e:IntKind.wrap .u64 ((BitVec.ofInt (IntKind.bits .u64) (x:Int) &&& ~~~BitVec.ofInt (IntKind.bits .u64) (y:Int)).toNat:Int)=(((BitVec.ofNat 64 x &&& ~~~BitVec.ofNat 64 y).toNat:Nat):Int):=by
   show IntKind.wrap .u64 ((BitVec.ofInt 64 (x:Int) &&& ~~~BitVec.ofInt 64 (y:Int)).toNat:Int)=_
   rw [dp,dp]
   exact cw _ (BitVec.isLt _)
 have hb:∀ i,(BitVec.ofNat 64 x &&& ~~~BitVec.ofNat 64 y).toNat.testBit i=(x.testBit i&&!y.testBit i):=fun i=>by
   rw [BitVec.testBit_toNat,BitVec.getLsbD_and,BitVec.getLsbD_not,BitVec.getLsbD_ofNat,BitVec.getLsbD_ofNat]
   by_cases hj:i < 64
   . simp [hj]
   . have:x.testBit i=false:=Nat.testBit_lt_two_pow (Nat.lt_of_lt_of_le hx (show 2 ^ 64≤2 ^ i from Nat.pow_le_pow_right (by decide) (by omega)))
     simp [hj,this]
 rw [e]
 constructor
 . intro h i hi
   have h0:(BitVec.ofNat 64 x &&& ~~~BitVec.ofNat 64 y).toNat=0:=by omega
   have:=hb i
   rw [h0,Nat.zero_testBit,hi] at this
   cases hy:y.testBit i with
   | true=>rfl
   | false=>rw [hy] at this; cases this
 . intro h
   have h0:(BitVec.ofNat 64 x &&& ~~~BitVec.ofNat 64 y).toNat=0:=Nat.eq_of_testBit_eq fun i=>by
     rw [hb,Nat.zero_testBit]
     cases hx:x.testBit i with
     | false=>rfl
     | true=>rw [h i hx]; rfl
   rw [h0]
   rfl
theorem py {n:Nat} {l l':List Int} (h:Ds n l) (h':Ds n l'):∃ c q,bK n l n l'=some (c,q,l')∧Ds n q∧(∀ j,mem q j=(mem l j||mem l' j))∧(c=true↔∃ j,mem l' j=true∧mem l j=false):=by
 have hn:=h.hn
 have hl:=h.len
 have hl':=h'.len
 have wordOf:∀ {n:Nat} {l:List Int},(∀ w∈l,Wd w)→∀ (k:Nat) (hk:k < l.length),∃ x:Nat,l[k]=(x:Int)∧x < 18446744073709551616:=fun hw k hk=>by
   have:=hw _ (List.getElem_mem hk)
   unfold Wd at this
   exact ⟨_,(Int.toNat_of_nonneg this.1).symm,by omega⟩
 have key:=bx (body:=jY l') (fun s=>∃ k:Nat,k≤l'.length∧s.2.1=(k:Int)∧s.2.2.length=l.length∧(∀ w∈s.2.2,Wd w)∧(∀ j,mem s.2.2 j=if j / 64 < k then mem l j||mem l' j else mem l j)∧(s.1=true↔∃ j,j / 64 < k∧mem l' j=true∧mem l j=false)) (fun s=>l'.length - s.2.1.toNat)
   (Q:=fun r=>r.2.length=l.length∧(∀ w∈r.2,Wd w)∧(∀ j,mem r.2 j=(mem l j||mem l' j))∧(r.1=true↔∃ j,mem l' j=true∧mem l j=false)) ?_ (s:=(false,(0:Int),l)) ⟨0,Nat.zero_le _,rfl,rfl,h.wd,fun j=>by simp,by simp⟩
 . obtain ⟨⟨c,q⟩,hlp,q1,q2,q3,q4⟩:=key
   refine ⟨c,q,?_,⟨hn,by rw [q1]; exact hl,q2,fun j hj=>?_⟩,q3,q4⟩
   . unfold bK
     rw [hlp]
     simp
   . rw [q3,h.top j hj,h'.top j hj]; rfl
 . rintro ⟨c,i,q⟩ ⟨k,hk,rfl,g1,g2,g3,g4⟩
   dsimp only at g1 g2 g3 g4 ⊢
   unfold jY
   by_cases hkl:k < l'.length
   . left
     have hkq:k < q.length:=by omega
     obtain ⟨x,hx,hx2⟩:=wordOf (n:=n) h'.wd k hkl
     obtain ⟨y,hy,hy2⟩:=wordOf (n:=n) g2 k hkq
     have hxs:l'[k]? = some (x:Int):=by rw [List.getElem?_eq_getElem hkl,hx]
     have hys:q[k]? = some (y:Int):=by rw [List.getElem?_eq_getElem hkq,hy]
     have hmy:∀ j,j / 64=k→mem l j=y.testBit (j % 64):=fun j hj=>by
       have:=g3 j
       rw [if_neg (by omega),cC (by rw [hj]; exact hys)] at this
       exact this.symm
     have hmx:∀ j,j / 64=k→mem l' j=x.testBit (j % 64):=fun j hj=>cC (by rw [hj]; exact hxs)
     have ha:=nE x y hx2 hy2
     simp only [dlt hkl,cond_true,be hkl,be hkq,hx,hy,Option.bind_some,aZ hkl (by omega),Int.toNat_natCast]
     by_cases hz:IntKind.wrap .u64 ((BitVec.ofInt (IntKind.bits .u64) (x:Int) &&& ~~~BitVec.ofInt (IntKind.bits .u64) (y:Int)).toNat:Int)=0
     . have hsub:=ha.1 hz
       have hsub2:∀ j,j / 64=k→mem l' j=true→mem l j=true:=fun j hj hm=>by
         rw [hmx j hj] at hm
         rw [hmy j hj]
         exact hsub _ hm
       refine ⟨(c,((k + 1:Nat):Int),q),by rw [decide_eq_true hz]; rfl,⟨k + 1,by omega,rfl,g1,g2,fun j=>?_,?_⟩,?_⟩
       . rw [g3]
         by_cases h1:j / 64 < k
         . rw [if_pos h1,if_pos (by omega)]
         . rw [if_neg h1]
           by_cases h2:j / 64=k
           . rw [if_pos (by omega)]
             cases hm:mem l' j with
             | false=>simp
             | true=>rw [hsub2 j h2 hm]; rfl
           . rw [if_neg (by omega)]
       . rw [g4]
         constructor
         . rintro ⟨j,h1,h2⟩; exact ⟨j,by omega,h2⟩
         . rintro ⟨j,h1,h2,h3⟩
           by_cases h4:j / 64=k
           . rw [hsub2 j h4 h2] at h3; cases h3
           . exact ⟨j,by omega,h2,h3⟩
       . show l'.length - ((k + 1:Nat):Int).toNat < l'.length - ((k:Nat):Int).toNat
         rw [Int.toNat_natCast,Int.toNat_natCast]; omega
     . have hw:IntKind.wrap .u64 ((BitVec.ofInt (IntKind.bits .u64) (y:Int) ||| BitVec.ofInt (IntKind.bits .u64) (x:Int)).toNat:Int)=((y ||| x:Nat):Int):=orU y x hy2 hx2
       have hex:∃ i,x.testBit i=true∧y.testBit i=false:=by
         refine Classical.byContradiction fun hc=>hz (ha.2 fun i hi=>?_)
         cases hyi:y.testBit i with
         | true=>rfl
         | false=>exact absurd ⟨i,hi,hyi⟩ hc
       obtain ⟨i,hi1,hi2⟩:=hex
       have hi64:i < 64:=by
         rcases Nat.lt_or_ge i 64 with h1 | h1
         . exact h1
         . rw [Nat.testBit_lt_two_pow (Nat.lt_of_lt_of_le hx2 (show 2 ^ 64≤2 ^ i from Nat.pow_le_pow_right (by decide) h1))] at hi1
           cases hi1
       refine ⟨(true,((k + 1:Nat):Int),q.set k ((y ||| x:Nat):Int)),by rw [decide_eq_false hz,hw]; rfl,⟨k + 1,by omega,rfl,by rw [List.length_set]; exact g1,fun w hw=>?_,fun j=>?_,?_⟩,?_⟩
       . rcases List.mem_or_eq_of_mem_set hw with hw | rfl
         . exact g2 w hw
         . have:=Nat.or_lt_two_pow (n:=64) hy2 hx2
           unfold Wd
           omega
       . dsimp only
         rw [oO hys]
         by_cases h2:j / 64=k
         . rw [if_pos h2,if_pos (by omega),Nat.testBit_or,hmy j h2,hmx j h2]
         . rw [if_neg h2,g3]
           by_cases h1:j / 64 < k
           . rw [if_pos h1,if_pos (by omega)]
           . rw [if_neg h1,if_neg (by omega)]
       . refine ⟨fun _=>⟨64 * k + i,by omega,?_,?_⟩,fun _=>rfl⟩
         . rw [hmx _ (by omega),show (64 * k + i) % 64=i by omega]; exact hi1
         . rw [hmy _ (by omega),show (64 * k + i) % 64=i by omega]; exact hi2
       . show l'.length - ((k + 1:Nat):Int).toNat < l'.length - ((k:Nat):Int).toNat
         rw [Int.toNat_natCast,Int.toNat_natCast]; omega
   . right
     have e:k=l'.length:=by omega
     subst e
     have hlt:∀ j,mem l' j=true→j / 64 < l'.length:=fun j hj=>by
       have:=dm h' hj
       omega
     refine ⟨(c,q),by simp,g1,g2,fun j=>?_,?_⟩
     . rw [g3]
       by_cases h1:j / 64 < l'.length
       . rw [if_pos h1]
       . rw [if_neg h1]
         cases hm:mem l' j with
         | false=>simp
         | true=>exact absurd (hlt j hm) h1
     . rw [g4]
       constructor
       . rintro ⟨j,_,h2⟩; exact ⟨j,h2⟩
       . rintro ⟨j,h2⟩; exact ⟨j,hlt j h2.1,h2⟩
theorem ta {n m:Nat} (h:n≠m) (l l':List Int):bK n l m l'=some (false,l,l'):=by
 unfold bK
 have:¬ ((n:Int)=(m:Int)):=by omega
 simp [this]
theorem Rp.or {n m:Nat} {l l' L L':List Int} (h:Rp n l L) (h':Rp m l' L'):∃ q,bK n l m l'=some (decide ((n:Int)=(m:Int))&&(rOr n L L').2,q,l')∧Rp n q (if (n:Int)=(m:Int) then (rOr n L L').1 else L):=by
 by_cases e:n=m
 . subst e
   obtain ⟨c,q,h1,h2,h3,h4⟩:=py h.ds h'.ds
   refine ⟨q,?_,?_⟩
   . rw [h1]
     have:c=(rOr n L L').2:=by
       rw [Bool.eq_iff_iff,h4,pR]
       constructor
       . rintro ⟨j,h5,h6⟩
         have:=dm h'.ds h5
         refine ⟨(j:Int),(h'.mm _).2 ⟨Int.natCast_nonneg _,by simpa using h5⟩,⟨Int.natCast_nonneg _,by omega⟩,fun h7=>?_⟩
         have:=((h.mm _).1 h7).2
         rw [Int.toNat_natCast,h6] at this
         cases this
       . rintro ⟨x,h5,h6,h7⟩
         refine ⟨x.toNat,((h'.mm _).1 h5).2,?_⟩
         cases h8:mem l x.toNat with
         | false=>rfl
         | true=>exact absurd ((h.mm x).2 ⟨h6.1,h8⟩) h7
     rw [this]
     simp
   . rw [if_pos rfl]
     refine ⟨h2,pH _ _ _ h.rs,fun x=>?_⟩
     rw [pq,h3,Bool.or_eq_true,h.mm,h'.mm]
     constructor
     . rintro (h5 | ⟨h5,h6⟩)
       . exact ⟨h5.1,.inl h5.2⟩
       . exact ⟨h5.1,.inr h5.2⟩
     . rintro ⟨h5,h6 | h6⟩
       . exact .inl ⟨h5,h6⟩
       . have:=dm h'.ds h6
         exact .inr ⟨⟨h5,h6⟩,h5,by omega⟩
 . have e2:¬ ((n:Int)=(m:Int)):=by omega
   rw [ta e,if_neg e2,decide_eq_false e2]
   exact ⟨l,rfl,h⟩
abbrev MX:=List (Option (Int×List Int))
def aw (x:Option (Int×List Int)) (c:Nat):Bool:=match x with | some e=>mem e.2 c | none=>false
def fA (M:MX) (r:Int):Option (Int×List Int):=if 0≤r then M[r.toNat]?.join else none
def has (M:MX) (r c:Nat):Bool:=aw M[r]?.join c
def okR (C:Nat) (x:Option (Int×List Int)):Prop:=∀ e,x=some e→e.1=(C:Int)∧Ds C e.2
structure Mx (N C:Nat) (M:MX):Prop where
 hN:N≤65536
 hC:C≤65536
 len:M.length=N
 ok:∀ r:Nat,okR C M[r]?.join
theorem okR.lt {C:Nat} {x:Option (Int×List Int)} (h:okR C x) {c:Nat} (hc:aw x c=true):c < C:=by
 cases x with
 | none=>cases hc
 | some e=>exact dm (h e rfl).2 hc
theorem okR.none {C:Nat}:okR C none:=fun e h=>by cases h
theorem iZ {M:MX} {r:Nat} (h:r < M.length):M[r]?.join=M[r]:=by rw [List.getElem?_eq_getElem h]; rfl
theorem nR {M:MX} {r:Nat} (h:M.length≤r):M[r]?.join=none:=by rw [List.getElem?_eq_none h]; rfl
theorem Mx.lt {N C:Nat} {M:MX} (h:Mx N C M) {r c:Nat} (hm:has M r c=true):r < N∧c < C:=by
 refine ⟨?_,(h.ok r).lt hm⟩
 rcases Nat.lt_or_ge r N with h1 | h1
 . exact h1
 . unfold has at hm; rw [nR (by rw [h.len]; exact h1)] at hm; cases hm
theorem kU {M:MX} {r:Nat} (hr:r < M.length) (x:Option (Int×List Int)) (a:Nat):(M.set r x)[a]?.join=if a=r then x else M[a]?.join:=by
 rw [List.getElem?_set]
 by_cases h:r=a
 . subst h; simp [hr]
 . rw [if_neg h,if_neg (fun e=>h e.symm)]
theorem k9 {M:MX} {r:Nat} (hr:r < M.length) (x:Option (Int×List Int)) (a c:Nat):has (M.set r x) a c=if a=r then aw x c else has M a c:=by
 unfold has
 rw [kU hr]
 split <;> rfl
theorem Mx.set {N C:Nat} {M:MX} (h:Mx N C M) {r:Nat} (hr:r < N) {x:Option (Int×List Int)} (hx:okR C x):Mx N C (M.set r x) :=
 ⟨h.hN,h.hC,by rw [List.length_set]; exact h.len,fun a=>by
   rw [kU (by rw [h.len]; exact hr)]
   split
   . exact hx
   . exact h.ok a⟩
theorem wh {N C:Nat} (hN:N≤65536) (hC:C≤65536):Mx N C (List.replicate N none) :=
 ⟨hN,hC,List.length_replicate,fun r=>by
   rcases Nat.lt_or_ge r N with h | h
   . rw [List.getElem?_replicate,if_pos h]; exact okR.none
   . rw [List.getElem?_replicate,if_neg (by omega)]; exact okR.none⟩
theorem vb (N r c:Nat):has (List.replicate N none) r c=false:=by
 unfold has
 rw [List.getElem?_replicate]
 split <;> rfl
theorem vy (n c:Int):fX n c=if n < 0∨c < 0 then some (.inl 2) else if 65536 < n∨65536 < c then some (.inl 5) else some (.inr (0,c,List.replicate n.toNat none)):=by
 unfold fX
 by_cases h1:n < 0∨c < 0
 . rw [if_pos h1]
   have:(decide (n < 0)||decide (c < 0))=true:=by simpa using h1
   rw [this]; rfl
 . rw [if_neg h1]
   have:(decide (n < 0)||decide (c < 0))=false:=by
     rw [Bool.eq_false_iff]; simpa using h1
   rw [this]
   by_cases h2:65536 < n∨65536 < c
   . rw [if_pos h2]
     have:(decide (65536 < n)||decide (65536 < c))=true:=by simpa using h2
     rw [this]; rfl
   . rw [if_neg h2]
     have:(decide (65536 < n)||decide (65536 < c))=false:=by
       rw [Bool.eq_false_iff]; simpa using h2
     rw [this]
     simp only [cond_false]
     unfold mk
     rw [if_pos (by omega)]
     rfl
theorem tS:ia none=some 0:=rfl
theorem m7 (i:Int):dk none i=some false:=by
 unfold dk
 rw [tS]
 by_cases h:0≤i
 . have h2:¬ i < 0:=by omega
   simp [h,h2]
 . simp [h]
theorem uW (i:Int):cO none i=some false:=by
 unfold cO
 rw [m7]
 rfl
theorem tf:eA none=some 0:=rfl
theorem ox (i:Int):bV none i=some (-1):=by
 unfold bV
 rw [m7]
 rfl
theorem pV (c:Int) (M:MX) (r:Int):fU (some (c,M)) r=some (fA M r):=by
 unfold fU j3
 rw [show j4 (some (c,M))=some ((M.length:Nat):Int) from rfl]
 unfold fA
 by_cases h0:0≤r
 . rw [if_pos h0]
   by_cases h1:r < (M.length:Nat)
   . have hr:r.toNat < M.length:=by omega
     simp only [decide_eq_true h0,cond_true,Option.bind_some,decide_eq_true h1,Bool.not_true,cond_false]
     rw [show ah M r=some M[r.toNat] from oW (by omega) hr,iZ hr]
     rfl
   . simp only [decide_eq_true h0,cond_true,Option.bind_some,decide_eq_false h1,Bool.not_false]
     rw [nR (by omega)]
 . rw [if_neg h0]
   simp [h0]
theorem okO {N C:Nat} {M:MX} (h:Mx N C M) (r:Int):okR C (fA M r):=by
 unfold fA
 split
 . exact h.ok _
 . exact okR.none
theorem hasO (M:MX) (r:Int) (c:Nat):aw (fA M r) c=(decide (0≤r)&&has M r.toNat c):=by
 unfold fA has
 by_cases h:0≤r
 . simp [h]
 . simp [h,aw]
theorem uD {C:Nat} {x:Option (Int×List Int)} (h:okR C x) (c:Int):cO x c=some (decide (0≤c)&&aw x c.toNat):=by
 cases x with
 | none=>rw [uW]; simp [aw]
 | some e =>
   obtain ⟨s,l⟩:=e
   obtain ⟨h1,h2⟩:=h _ rfl
   dsimp only at h1 h2
   subst h1
   rw [kJ h2]
   congr 1
   rw [Bool.eq_iff_iff]
   simp only [Bool.and_eq_true,decide_eq_true_eq,aw]
   constructor
   . exact fun h=>⟨h.1.1,h.2⟩
   . intro h3
     have:=dm h2 h3.2
     exact ⟨⟨h3.1,by omega⟩,h3.2⟩
theorem uM {N C:Nat} {M:MX} (h:Mx N C M) (r c:Int):hY (some ((C:Int),M)) r c=some ((decide (0≤r)&&decide (0≤c))&&has M r.toNat c.toNat):=by
 unfold hY
 rw [pV]
 simp only [Option.bind_some,uD (okO h r),hasO]
 congr 1
 cases decide (0≤r) <;> cases decide (0≤c) <;> simp
theorem oz (i:Int):bC i i=some ():=by unfold bC; simp
theorem fx {M:MX} {r:Nat} (h:r < M.length):ah M (r:Int)=some M[r]?.join:=by rw [be h,iZ h]
theorem iJ {M:MX} {r:Nat} (h:r < M.length):M.set r M[r]?.join=M:=by rw [iZ h]; exact List.set_getElem_self h
theorem pa {C:Nat} (hC:C≤65536):cy (C:Int)=some (.inr (0,(C:Int),List.replicate ((C + 63) / 64) 0)):=by
 rw [uf,if_neg (by omega),if_neg (by omega)]
 simp
theorem vo {N C:Nat} {M:MX} (h:Mx N C M) (r c:Int):∃ M',fL r c (C:Int) M=some (decide ((0≤r∧r < N)∧0≤c∧c < C)&&!has M r.toNat c.toNat,M')∧Mx N C M' ∧
   ∀ a b,has M' a b=(has M a b||decide (((0≤r∧r < N)∧0≤c∧c < C)∧r.toNat=a∧c.toNat=b)):=by
 have hN:=h.hN
 have hC:=h.hC
 have hlen:=h.len
 by_cases hin:(0≤r∧r < N)∧0≤c∧c < C
 . obtain ⟨k,rfl⟩:∃ k:Nat,r=(k:Int):=⟨r.toNat,by omega⟩
   have hk:k < M.length:=by omega
   have hk2:(k:Int) < ((M.length:Nat):Int):=by omega
   have e1:ek (k:Int) (C:Int) M=some (true,M):=by
     unfold ek
     rw [show cN (C:Int) M=some (((M.length:Nat):Int),M) from rfl]
     simp only [decide_eq_true hin.1.1,cond_true,Option.bind_some,decide_eq_true hk2]
   have e2:(((!true)||decide (c < 0))||decide ((C:Int)≤c))=false:=by simp; omega
   have main:∀ (s:Int) (l:List Int),s=(C:Int)→Ds C l→∃ l',dj c s l=some (!mem l c.toNat,l')∧okR C (some (s,l'))∧∀ b,mem l' b=(mem l b||decide (c.toNat=b)):=by
     rintro s l rfl hl
     obtain ⟨l',q1,q2,q3⟩:=ou hl c
     refine ⟨l',?_,fun e he=>by cases he; exact ⟨rfl,q2⟩,fun b=>?_⟩
     . rw [q1]; simp [hin.2]
     . rw [q3]; simp [hin.2]
   unfold fL
   rw [e1]
   simp only [Option.bind_some,e2,cond_false,fx hk,oz,Int.toNat_natCast,iJ hk]
   have hd:decide (((0:Int)≤(k:Int)∧(k:Int) < N)∧0≤c∧c < C)=true:=by simpa using hin
   have fin:∀ (x:Option (Int×List Int)) (l':List Int),M[k]?.join=x→(∀ b,mem l' b=(aw x b||decide (c.toNat=b)))→∀ a b,has (M.set k (some ((C:Int),l'))) a b=(has M a b||decide ((((0:Int)≤(k:Int)∧(k:Int) < N)∧0≤c∧c < C)∧k=a∧c.toNat=b)):=fun x l' hx hl a b=>by
     rw [k9 hk]
     by_cases hak:a=k
     . subst hak
       rw [if_pos rfl]
       show mem l' b=_
       rw [hl,← hx]
       simp [hin,has]
     . rw [if_neg hak]
       have:¬ k=a:=fun e=>hak e.symm
       simp [this]
   cases hx:M[k]?.join with
   | none =>
     have hk3:k < (M.set k (some ((C:Int),List.replicate ((C + 63) / 64) 0))).length:=by rw [List.length_set]; exact hk
     have e3:M.set k none=M:=by have:=iJ hk; rw [hx] at this; exact this
     obtain ⟨l',q1,q2,q3⟩:=main (C:Int) _ rfl (pT (n:=C) (by omega))
     simp only [Option.isNone_none,cond_true,e3,hx,Option.bind_some,pa hC,fx hk3,kU hk,if_true,q1,List.set_set,fx hk]
     refine ⟨_,by rw [hd]; simp [hx,has,aw,gl],h.set (by omega) q2,fin none l' hx (fun b=>by rw [q3,gl]; rfl)⟩
   | some e =>
     obtain ⟨s,l⟩:=e
     obtain ⟨p1,p2⟩:=h.ok k _ hx
     dsimp only at p1 p2
     subst p1
     have e3:M.set k (some ((C:Int),l))=M:=by have:=iJ hk; rw [hx] at this; exact this
     obtain ⟨l',q1,q2,q3⟩:=main (C:Int) l rfl p2
     simp only [Option.isNone_some,cond_false,e3,hx,Option.bind_some,fx hk,q1]
     refine ⟨_,by rw [hd]; simp [hx,has,aw],h.set (by omega) q2,fin _ l' hx (fun b=>by rw [q3]; rfl)⟩
 . have hout:∃ t,ek r (C:Int) M=some (t,M)∧(((!t)||decide (c < 0))||decide ((C:Int)≤c))=true:=by
     unfold ek
     rw [show cN (C:Int) M=some (((M.length:Nat):Int),M) from rfl]
     by_cases h0:0≤r
     . refine ⟨decide (r < ((M.length:Nat):Int)),by simp [h0],?_⟩
       simp
       omega
     . refine ⟨false,by simp [h0],by simp⟩
   obtain ⟨t,q1,q2⟩:=hout
   have hf:decide ((0≤r∧r < N)∧0≤c∧c < C)=false:=by simpa using hin
   refine ⟨M,?_,h,fun a b=>?_⟩
   . unfold fL
     rw [q1,hf]
     simp only [Option.bind_some,q2,cond_true,Bool.false_and]
   . have:¬ (((0≤r∧r < N)∧0≤c∧c < C)∧r.toNat=a∧c.toNat=b):=fun e=>hin e.1
     simp [this]
def ar (C:Nat) (f:Nat→Bool):List Nat:=(List.range C).filter f
theorem eW (C:Nat) (f:Nat→Bool):(ar C f).length≤C:=fZ f C
def bX (N C:Nat) (f:Nat→Nat→Bool):Nat:=((List.range N).map fun r=>(ar C (f r)).length).sum
theorem oq (N C:Nat) (f:Nat→Nat→Bool):bX (N + 1) C f=bX N C f + (ar C (f N)).length:=by
 unfold bX
 rw [List.range_succ,List.map_append,List.sum_append]
 simp
theorem lr (N C:Nat) (f:Nat→Nat→Bool):bX N C f≤N * C:=by
 induction N with
 | zero=>simp [bX]
 | succ N ih=>rw [oq,Nat.succ_mul]; have:=eW C (f N); omega
theorem sG {C:Nat} {x:Option (Int×List Int)} (h:okR C x):eA x=some (((ar C (aw x)).length:Nat):Int):=by
 cases x with
 | none =>
   rw [tf]
   have:ar C (aw none)=[]:=List.filter_eq_nil_iff.2 (fun a _=>by simp [aw])
   rw [this]; rfl
 | some e =>
   obtain ⟨s,l⟩:=e
   obtain ⟨h1,h2⟩:=h _ rfl
   dsimp only at h1 h2
   subst h1
   rw [sy h2]; rfl
theorem nO {N C:Nat} {M:MX} (h:Mx N C M):fN (C:Int) M=some (((bX N C (has M):Nat):Int),M):=by
 have hN:=h.hN
 have hC:=h.hC
 have hlen:=h.len
 unfold fN
 rw [show cN (C:Int) M=some (((M.length:Nat):Int),M) from rfl]
 simp only [Option.bind_some]
 have key:=cT (body:=gZ ((M.length:Nat):Int)) (fun k=>(((bX k C (has M):Nat):Int),(k:Int),M)) N (b:=(((bX N C (has M):Nat):Int),M)) (fun k hk=>by
   have hk2:k < M.length:=by omega
   unfold gZ
   have hle:=lr (k + 1) C (has M)
   have h1:(k + 1) * C≤65536 * 65536:=Nat.mul_le_mul (by omega) hC
   simp only [dlt hk2,cond_true,fx hk2,Option.bind_some,oz,sG (h.ok k),aZ hk2 (by omega),Int.toNat_natCast,iJ hk2]
   have e:((bX k C (has M):Nat):Int) + (((ar C (aw M[k]?.join)).length:Nat):Int)=((bX (k + 1) C (has M):Nat):Int):=by rw [oq]; rfl
   rw [e,w64 (by omega) (by omega)]) (by
   unfold gZ
   simp only [dge (show ¬ N < M.length by omega),cond_false])
 have e0:((0:Int),(0:Int),M)=(((bX 0 C (has M):Nat):Int),((0:Nat):Int),M):=rfl
 rw [e0,key]
 rfl
theorem tN {C:Nat} {x:Option (Int×List Int)} (h:okR C x) (hC:C≤65536):fV x=some (liN (ar C (aw x))):=by
 cases x with
 | none =>
   have:ar C (aw none)=[]:=List.filter_eq_nil_iff.2 (fun a _=>by simp [aw])
   rw [this]
   unfold fV
   rw [show ib none=some () from rfl,ox]
   simp only [Option.bind_some]
   rw [eL (b:=[]) (by unfold fS; rfl)]
   rfl
 | some e =>
   obtain ⟨s,l⟩:=e
   obtain ⟨h1,h2⟩:=h _ rfl
   dsimp only at h1 h2
   subst h1
   obtain ⟨r,q1,q2⟩:=vZ h2 (body:=fS (some ((C:Int),l))) (fun c k hk=>by
     have:=dm h2 hk
     unfold fS
     have e1:decide ((0:Int)≤(k:Int))=true:=by simp
     simp only [e1,cond_true]
     rw [w64 (by omega) (by omega)]) (fun c=>by unfold fS; rfl)
   unfold fV
   rw [show ib (some ((C:Int),l))=some () from rfl]
   simp only [Option.bind_some,q1,q2]
   rfl
theorem u9 {N C:Nat} {M:MX} (h:Mx N C M) (r:Int):fT (some ((C:Int),M)) r=some (liN (ar C fun c=>decide (0≤r)&&has M r.toNat c)):=by
 unfold fT
 rw [pV]
 simp only [Option.bind_some,tN (okO h r) h.hC]
 congr 3
 funext c
 exact hasO M r c
theorem uL {n:Nat} {l:List Int} (h:Ds n l):fO (n:Int) l=some (false,l):=by
 have hn:=h.hn
 have hl:=h.len
 unfold fO
 have e:(!decide ((n:Int)=(n:Int)))=false:=by simp
 rw [e]
 simp only [cond_false]
 have key:=cT (body:=hO l) (fun k=>(false,l,(k:Int))) l.length (b:=(false,l)) (fun k hk=>by
   unfold hO
   have hw:=h.wd l[k] (List.getElem_mem hk)
   obtain ⟨x,hx,hx2⟩:∃ x:Nat,l[k]=(x:Int)∧x < 18446744073709551616:=by
     unfold Wd at hw
     exact ⟨_,(Int.toNat_of_nonneg hw.1).symm,by omega⟩
   have ha:=(nE x x hx2 hx2).2 (fun i h=>h)
   simp only [dlt hk,cond_true,be hk,Option.bind_some,hx,ha,aZ hk (by omega)]
   simp) (by
   unfold hO
   simp only [dge (Nat.lt_irrefl _),cond_false])
 have e0:(false,l,(0:Int))=(false,l,((0:Nat):Int)):=rfl
 rw [e0,key]
 rfl
theorem orR {C:Nat} {s l:List Int} (h:Ds C s) (h':Ds C l):∃ b q,bK (C:Int) s (C:Int) l=some (b,q,l)∧okR C (some ((C:Int),q))∧(∀ c,mem q c=(mem s c||mem l c))∧(b=true↔∃ c,mem l c=true∧mem s c=false):=by
 obtain ⟨b,q,h1,h2,h3,h4⟩:=py h h'
 exact ⟨b,q,h1,fun e he=>by cases he; exact ⟨rfl,h2⟩,h3,h4⟩
theorem vV {N C:Nat} {M:MX} (h:Mx N C M) {j:Nat} (hj:j < N) (k:Int) {x:Option (Int×List Int)} (hx:okR C x) (hsub:∀ c,has M j c=true→aw x c=true) :
   ∃ b x',orH k (C:Int) M j x=some (b,x')∧okR C x'∧(∀ c,aw x' c=(aw x c||(decide (0≤k)&&has M k.toNat c)))∧(b=true↔∃ c,(decide (0≤k)&&has M k.toNat c)=true∧aw x c=false)∧(x≠none→x'≠none):=by
 have hC:=h.hC
 have hlen:=h.len
 have same:(∀ c,(decide (0≤k)&&has M k.toNat c)=true→aw x c=true)→orH k (C:Int) M j x=some (false,x)→∃ b x',orH k (C:Int) M j x=some (b,x')∧okR C x'∧(∀ c,aw x' c=(aw x c||(decide (0≤k)&&has M k.toNat c)))∧(b=true↔∃ c,(decide (0≤k)&&has M k.toNat c)=true∧aw x c=false)∧(x≠none→x'≠none):=fun hs he =>
   ⟨false,x,he,hx,fun c=>by
     cases hq:(decide (0≤k)&&has M k.toNat c) with
     | false=>simp
     | true=>rw [hs c hq]; rfl,Iff.intro (fun h=>(by cases h)) (fun ⟨c,h1,h2⟩=>(by rw [hs c h1] at h2; cases h2)),id⟩
 by_cases hk:0≤k∧k < (M.length:Int)
 . obtain ⟨k',rfl⟩:∃ k':Nat,k=(k':Int):=⟨k.toNat,by omega⟩
   have hk2:k' < M.length:=by omega
   by_cases hkj:k'=j
   . subst hkj
     refine same (fun c hc=>hsub c (by simpa using hc)) ?_
     unfold orH
     rw [if_pos hk,if_pos (Int.toNat_natCast _)]
     cases x with
     | none=>rfl
     | some e =>
       obtain ⟨s,l⟩:=e
       obtain ⟨p1,p2⟩:=hx _ rfl
       dsimp only at p1 p2
       subst p1
       simp only [uL p2,Option.bind_some]
   . have hd : decide ((0 : Int) ≤ (k' : Int)) = true := by simp
     simp only [hd,Bool.true_and,Int.toNat_natCast] at same ⊢
     have hun:orH (k':Int) (C:Int) M j x=(match (generalizing:=false) M[k']?.join with
         | some b=>(match (generalizing:=false) x with
           | some s=>(bK s.1 s.2 b.1 b.2).bind fun r=>some (r.1,some (s.1,r.2.1))
           | none=>(cy (C:Int)).bind fun o=>(match (generalizing:=false) o with
             | .inl _=>none
             | .inr q=>(bK q.2.1 q.2.2 b.1 b.2).bind fun r=>some (r.1,some (q.2.1,r.2.1))))
         | none=>some (false,x)):=by
       unfold orH
       rw [if_pos hk,if_neg (show ¬ ((k':Int)).toNat=j by rw [Int.toNat_natCast]; exact hkj)]
       rfl
     cases hy:M[k']?.join with
     | none =>
       have hM:M[k']? = some none:=by
         rw [iZ hk2] at hy
         rw [List.getElem?_eq_getElem hk2,hy]
       refine same (fun c hc=>?_) (by rw [hun,hy])
       unfold has at hc
       rw [hy] at hc; cases hc
     | some b =>
       obtain ⟨bs,bl⟩:=b
       obtain ⟨p1,p2⟩:=h.ok k' _ hy
       dsimp only at p1 p2
       subst p1
       have hh:∀ c,has M k' c=mem bl c:=fun c=>by unfold has; rw [hy]; rfl
       cases x with
       | none =>
         obtain ⟨b,q,q1,q2,q3,q4⟩:=orR (pT (n:=C) (by omega)) p2
         refine ⟨b,some ((C:Int),q),?_,q2,fun c=>?_,?_,fun h=>absurd rfl h⟩
         . rw [hun,hy]
           simp only [pa hC,Option.bind_some,q1]
         . show mem q c=_
           rw [q3,gl,hh]; rfl
         . rw [q4]
           constructor
           . rintro ⟨c,h1,_⟩; exact ⟨c,by rw [hh]; exact h1,rfl⟩
           . rintro ⟨c,h1,_⟩; exact ⟨c,by rw [← hh]; exact h1,gl _ _⟩
       | some e =>
         obtain ⟨s,l⟩:=e
         obtain ⟨p3,p4⟩:=hx _ rfl
         dsimp only at p3 p4
         subst p3
         obtain ⟨b,q,q1,q2,q3,q4⟩:=orR p4 p2
         refine ⟨b,some ((C:Int),q),?_,q2,fun c=>?_,?_,fun _ h=>by cases h⟩
         . rw [hun,hy]
           simp only [Option.bind_some,q1]
         . show mem q c=_
           rw [q3,hh]; rfl
         . rw [q4]
           constructor
           . rintro ⟨c,h1,h2⟩; exact ⟨c,by rw [hh]; exact h1,h2⟩
           . rintro ⟨c,h1,h2⟩; exact ⟨c,by rw [← hh]; exact h1,h2⟩
 . refine same (fun c hc=>?_) ?_
   . simp only [Bool.and_eq_true,decide_eq_true_eq] at hc
     have:=h.lt hc.2
     exact absurd ⟨hc.1,by omega⟩ hk
   . unfold orH
     rw [if_neg hk]
theorem ow {C:Nat} {x:Option (Int×List Int)} (h:okR C x) (i:Int):∃ q,bV x i=some q∧((q = -1∧∀ c:Nat,i≤(c:Int)→aw x c=false)∨∃ k:Nat,q=(k:Int)∧i≤(k:Int)∧aw x k=true∧∀ c:Nat,i≤(c:Int)→c < k→aw x c=false):=by
 cases x with
 | none=>exact ⟨-1,ox i,.inl ⟨rfl,fun c _=>rfl⟩⟩
 | some e =>
   obtain ⟨s,l⟩:=e
   obtain ⟨h1,h2⟩:=h _ rfl
   dsimp only at h1 h2
   subst h1
   exact ky h2 i
structure Wid (N C:Nat) (M:MX) (r:Nat) (x:Option (Int×List Int)):Prop where
 ok:okR C x
 sup:∀ c,has M r c=true→aw x c=true
 snd:∀ S:Nat→Prop,(∀ c,has M r c=true→S c)→(∀ k c,S k→has M k c=true→S c)→∀ c,aw x c=true→S c
theorem tF {N C:Nat} {M:MX} (h:Mx N C M) {r:Nat} (hr:r < N):∃ b M',g8 (r:Int) (C:Int) M=some (b,M')∧Mx N C M'∧(∀ a c,a≠r→has M' a c=has M a c)∧(∀ c,has M r c=true→has M' r c=true) ∧
   (∀ S:Nat→Prop,(∀ c,has M r c=true→S c)→(∀ k c,S k→has M k c=true→S c)→∀ c,has M' r c=true→S c) ∧
   (b=false→(∀ c,has M' r c=has M r c)∧∀ k c,has M r k=true→has M k c=true→has M r c=true)∧(b=true→∃ c,has M' r c=true∧has M r c=false):=by
 have hN:=h.hN
 have hC:=h.hC
 have hlen:=h.len
 have hr2:r < M.length:=by omega
 have key:∀ (i0:Int),((i0 = -1∧∀ c:Nat,(0:Int)≤(c:Int)→aw M[r]?.join c=false)∨∃ k:Nat,i0=(k:Int)∧(0:Int)≤(k:Int)∧aw M[r]?.join k=true∧∀ c:Nat,(0:Int)≤(c:Int)→c < k→aw M[r]?.join c=false) →
     ∃ z:Bool×MX×Int×Option (Int×List Int),loop (gU (r:Int) (C:Int)) (i0,false,M,(r:Int),M[r]?.join)=some z∧(z.2.1=M∧z.2.2.1=(r:Int)∧Wid N C M r z.2.2.2 ∧
       (z.1=false→(∀ c,aw z.2.2.2 c=has M r c)∧∀ k c,has M r k=true→has M k c=true→has M r c=true)∧(z.1=true→∃ c,aw z.2.2.2 c=true∧has M r c=false)):=by
   intro i0 hi0
   refine bx (I:=fun s=>s.2.2.1=M∧s.2.2.2.1=(r:Int)∧Wid N C M r s.2.2.2.2∧(s.2.1=false→∀ c,aw s.2.2.2.2 c=has M r c)∧(s.2.1=true→∃ c,aw s.2.2.2.2 c=true∧has M r c=false) ∧
     ∃ f:Nat,((s.1 = -1∧∀ c:Nat,(f:Int)≤(c:Int)→aw s.2.2.2.2 c=false)∨∃ k:Nat,s.1=(k:Int)∧(f:Int)≤(k:Int)∧aw s.2.2.2.2 k=true∧∀ c:Nat,(f:Int)≤(c:Int)→c < k→aw s.2.2.2.2 c=false) ∧
       (s.2.1=false→∀ k c,k < f→has M r k=true→has M k c=true→has M r c=true)) (fun s=>if s.1 < 0 then 0 else C + 1 - s.1.toNat) ?_ ?_
   . rintro ⟨i,t,l,j,x⟩ ⟨rfl,rfl,hw,ht,ht2,f,hi,hp⟩
     dsimp only at *
     rcases hi with ⟨rfl,hi⟩ | ⟨k,rfl,hfk,hk,hlt⟩
     . right
       refine ⟨(t,l,(r:Int),x),by unfold gU; rfl,rfl,rfl,hw,fun h0=>⟨ht h0,fun k c h1 h2=>?_⟩,ht2⟩
       refine hp h0 k c ?_ h1 h2
       rcases Nat.lt_or_ge k f with h3 | h3
       . exact h3
       . have:=hi k (by omega)
         rw [hw.sup k h1] at this; cases this
     . left
       have hkC:k < C:=hw.ok.lt hk
       obtain ⟨b,x',q1,q2,q3,q4,q5⟩:=vV h hr (k:Int) hw.ok hw.sup
       have hd:decide ((0:Int)≤(k:Int))=true:=by simp
       simp only [hd,Bool.true_and,Int.toNat_natCast] at q3 q4
       have hxn:x≠none:=fun e=>by rw [e] at hk; cases hk
       have eO:ep (r:Int) (k:Int) (C:Int) l (r:Int) x=some (b,l,(r:Int),x'):=by
         unfold ep
         rw [if_pos rfl]
         cases x with
         | none=>exact absurd rfl hxn
         | some e=>simp only [Int.toNat_natCast,q1,Option.bind_some]
       obtain ⟨i',n1,n2⟩:=ow q2 (((k + 1:Nat):Int))
       have hw':Wid N C l r x':=⟨q2,fun c hc=>by rw [q3,hw.sup c hc]; rfl,fun S s1 s2 c hc=>by
         rw [q3,Bool.or_eq_true] at hc
         rcases hc with hc | hc
         . exact hw.snd S s1 s2 c hc
         . exact s2 k c (hw.snd S s1 s2 k hk) hc⟩
       have hmu:(if i' < 0 then 0 else C + 1 - i'.toNat) < (if ((k:Nat):Int) < 0 then 0 else C + 1 - ((k:Nat):Int).toNat):=by
         rw [if_neg (by omega:¬ ((k:Nat):Int) < 0),Int.toNat_natCast]
         rcases n2 with ⟨rfl,_⟩ | ⟨k',rfl,k1,k2,_⟩
         . simp; omega
         . rw [if_neg (by omega),Int.toNat_natCast]
           have:=q2.lt k2
           omega
       refine ⟨(i',(t||b),l,(r:Int),x'),?_,⟨rfl,rfl,hw',?_,?_,k + 1,n2,?_⟩,hmu⟩
       . unfold gU
         simp only [hd,cond_true,eO,Option.bind_some,aZ (show k < 65536 by omega) (by omega),n1]
         cases b <;> cases t <;> rfl
       . intro h0 c
         simp only [Bool.or_eq_false_iff] at h0
         rw [q3,ht h0.1]
         cases hc:has l k c with
         | false=>simp
         | true =>
           have:¬ ∃ c,has l k c=true∧aw x c=false:=fun e=>by rw [q4.2 e] at h0; cases h0.2
           have h5:aw x c=true:=by
             cases h6:aw x c with
             | true=>rfl
             | false=>exact absurd ⟨c,hc,h6⟩ this
           rw [ht h0.1] at h5
           rw [h5]; rfl
       . intro h0
         simp only [Bool.or_eq_true] at h0
         rcases h0 with h0 | h0
         . obtain ⟨c,c1,c2⟩:=ht2 h0
           exact ⟨c,by rw [q3,c1]; rfl,c2⟩
         . obtain ⟨c,c1,c2⟩:=q4.1 h0
           refine ⟨c,by rw [q3,c1]; simp,?_⟩
           cases h6:has l r c with
           | false=>rfl
           | true=>rw [hw.sup c h6] at c2; cases c2
       . intro h0 k' c hk' h1 h2
         simp only [Bool.or_eq_false_iff] at h0
         rcases Nat.lt_or_ge k' f with h3 | h3
         . exact hp h0.1 k' c h3 h1 h2
         . have h4:=hw.sup k' h1
           rcases Nat.lt_or_ge k' k with h5 | h5
           . rw [hlt k' (by omega) h5] at h4; cases h4
           . obtain rfl:k'=k:=by omega
             have:¬ ∃ c,has l k' c=true∧aw x c=false:=fun e=>by rw [q4.2 e] at h0; cases h0.2
             have h5:aw x c=true:=by
               cases h6:aw x c with
               | true=>rfl
               | false=>exact absurd ⟨c,h2,h6⟩ this
             rw [ht h0.1] at h5; exact h5
   . exact ⟨rfl,rfl,⟨h.ok r,fun c hc=>hc,fun S s1 s2 c hc=>s1 c hc⟩,fun _ c=>rfl,(fun h0=>by cases h0),0,hi0,fun _ k c h0=>by omega⟩
 obtain ⟨i0,n1,n2⟩:=ow (h.ok r) 0
 obtain ⟨⟨t,l,j,x⟩,z1,z2,z3,z4,z5,z6⟩:=key i0 n2
 dsimp only at z2 z3 z4 z5 z6
 subst z2 z3
 have hx:∀ c,has (l.set r x) r c=aw x c:=fun c=>by rw [k9 hr2,if_pos rfl]
 refine ⟨t,l.set r x,?_,h.set hr z4.ok,fun a c ha=>by rw [k9 hr2,if_neg ha],fun c hc=>by rw [hx]; exact z4.sup c hc,fun S s1 s2 c hc=>by rw [hx] at hc; exact z4.snd S s1 s2 c hc,fun h0=>⟨fun c=>by rw [hx]; exact (z5 h0).1 c,(z5 h0).2⟩,fun h0=>?_⟩
 . unfold g8
   have eR:eo (r:Int) (C:Int) l (r:Int) l[r]?.join=some (l,(r:Int),l[r]?.join):=by unfold eo; rw [if_pos rfl]
   simp only [fx hr2,Option.bind_some,eR,n1,z1,Int.toNat_natCast]
 . obtain ⟨c,c1,c2⟩:=z6 h0
   exact ⟨c,by rw [hx]; exact c1,c2⟩
theorem uG {C:Nat} {f g:Nat→Bool} (hs:∀ c,f c=true→g c=true) {c:Nat} (hc:c < C) (h1:g c=true) (h2:f c=false):(ar C f).length < (ar C g).length:=by
 unfold ar
 induction C with
 | zero=>omega
 | succ C ih =>
   have le:∀ n,((List.range n).filter f).length≤((List.range n).filter g).length:=fun n=>by
     induction n with
     | zero=>simp
     | succ n ih =>
       rw [List.range_succ,List.filter_append,List.filter_append,List.length_append,List.length_append]
       have:(List.filter f [n]).length≤(List.filter g [n]).length:=by
         cases hf:f n with
         | false=>simp [List.filter_cons,hf]
         | true=>simp [List.filter_cons,hf,hs n hf]
       omega
   rw [List.range_succ,List.filter_append,List.filter_append,List.length_append,List.length_append]
   by_cases hcC:c=C
   . subst hcC
     have:=le c
     simp [List.filter_cons,h1,h2]
     omega
   . have:=ih (by omega)
     have:(List.filter f [C]).length≤(List.filter g [C]).length:=by
       cases hf:f C with
       | false=>simp [List.filter_cons,hf]
       | true=>simp [List.filter_cons,hf,hs C hf]
     omega
theorem th {N C:Nat} {M:MX} (h:Mx N C M) {r:Nat} (hr:r < N):∃ M',loop (gW (C:Int) (r:Int)) M=some M'∧(Mx N C M'∧(∀ a c,a≠r→has M' a c=has M a c)∧(∀ c,has M r c=true→has M' r c=true) ∧
   (∀ S:Nat→Prop,(∀ c,has M r c=true→S c)→(∀ k c,S k→has M k c=true→S c)→∀ c,has M' r c=true→S c)∧∀ k c,has M' r k=true→has M' k c=true→has M' r c=true):=by
 refine bx (I:=fun M1=>Mx N C M1∧(∀ a c,a≠r→has M1 a c=has M a c)∧(∀ c,has M r c=true→has M1 r c=true)∧(∀ S:Nat→Prop,(∀ c,has M r c=true→S c)→(∀ k c,S k→has M k c=true→S c)→∀ c,has M1 r c=true→S c))
   (fun M1=>C - (ar C (has M1 r)).length) ?_ ⟨h,fun _ _ _=>rfl,fun _ hc=>hc,fun S s1 s2 c hc=>s1 c hc⟩
 rintro M1 ⟨g1,g2,g3,g4⟩
 obtain ⟨b,M2,q1,q2,q3,q4,q5,q6,q7⟩:=tF g1 hr
 have e:gW (C:Int) (r:Int) M1=cond b (some (.inl M2)) (some (.inr M2)):=by
   unfold gW
   rw [q1]; rfl
 have snd2:∀ S:Nat→Prop,(∀ c,has M r c=true→S c)→(∀ k c,S k→has M k c=true→S c)→∀ c,has M2 r c=true→S c:=fun S s1 s2 c0 hc0=>by
   refine q5 S (fun c hc=>g4 S s1 s2 c hc) (fun k c hk hc=>?_) c0 hc0
   clear hc0
   by_cases hkr:k=r
   . subst hkr; exact g4 S s1 s2 c hc
   . rw [g2 k c hkr] at hc; exact s2 k c hk hc
 have I2:Mx N C M2∧(∀ a c,a≠r→has M2 a c=has M a c)∧(∀ c,has M r c=true→has M2 r c=true):=⟨q2,fun a c ha=>(q3 a c ha).trans (g2 a c ha),fun c hc=>q4 c (g3 c hc)⟩
 cases b with
 | true =>
   left
   obtain ⟨c,c1,c2⟩:=q7 rfl
   refine ⟨M2,e,⟨I2.1,I2.2.1,I2.2.2,snd2⟩,?_⟩
   have h1:=uG (f:=has M1 r) (g:=has M2 r) q4 (q2.lt c1).2 c1 c2
   have h2:=eW C (has M2 r)
   show C - (ar C (has M2 r)).length < C - (ar C (has M1 r)).length
   omega
 | false =>
   right
   obtain ⟨h1,h2⟩:=q6 rfl
   refine ⟨M2,e,I2.1,I2.2.1,I2.2.2,snd2,fun k c hk hc=>?_⟩
   rw [h1] at hk ⊢
   have hc':has M1 k c=true:=by
     by_cases hkr:k=r
     . subst hkr; rw [h1] at hc; exact hc
     . rw [q3 k c hkr] at hc; exact hc
   exact h2 k c hk hc'
inductive TC (R:Nat→Nat→Bool):Nat→Nat→Prop where
 | base {a b:Nat}:R a b=true→TC R a b
 | step {a b c:Nat}:TC R a b→R b c=true→TC R a c
theorem TC.trans {R:Nat→Nat→Bool} {a b c:Nat} (h:TC R a b) (k:TC R b c):TC R a c:=by
 induction k with
 | base h1=>exact .step h h1
 | step _ h1 ih=>exact .step ih h1
theorem TC.least {R:Nat→Nat→Bool} {T:Nat→Nat→Prop} (h1:∀ a b,R a b=true→T a b) (h2:∀ a b c,T a b→T b c→T a c) {a b:Nat} (h:TC R a b):T a b:=by
 induction h with
 | base h=>exact h1 _ _ h
 | step _ h ih=>exact h2 _ _ _ ih (h1 _ _ h)
theorem sY {N:Nat} {M:MX} (h:Mx N N M):∃ M',hG (N:Int) M=some (((bX N N (has M'):Nat):Int) - ((bX N N (has M):Nat):Int),M')∧Mx N N M'∧∀ a c,has M' a c=true↔TC (has M) a c:=by
 have hN:=h.hN
 have hlen:=h.len
 have key:=bx (body:=gY (N:Int) (N:Int)) (fun s=>∃ k:Nat,s.1=(k:Int)∧k≤N∧Mx N N s.2∧(∀ a c,has M a c=true→has s.2 a c=true)∧(∀ a c,has s.2 a c=true→TC (has M) a c)∧∀ a c,a < k→TC (has M) a c→has s.2 a c=true) (fun s=>N - s.1.toNat)
   (Q:=fun M'=>Mx N N M'∧∀ a c,has M' a c=true↔TC (has M) a c) ?_ (s:=((0:Int),M)) ⟨0,rfl,Nat.zero_le _,h,fun _ _ hc=>hc,fun a c hc => .base hc,fun a c h0=>by omega⟩
 . obtain ⟨M',k1,k2,k3⟩:=key
   refine ⟨M',?_,k2,k3⟩
   unfold hG
   have er:∀ M1:MX,Mx N N M1→cN (N:Int) M1=some ((N:Int),M1):=fun M1 h1=>by
     show some (((M1.length:Nat):Int),M1)=_
     rw [h1.len]
   have ec:∀ M1:MX,jZ (N:Int) M1=some ((N:Int),M1):=fun M1=>rfl
   have e0:(!decide ((N:Int)=(N:Int)))=false:=by simp
   have b1:=lr N N (has M')
   have b2:=lr N N (has M)
   have b3:N * N≤65536 * 65536:=Nat.mul_le_mul hN hN
   simp only [er M h,ec,Option.bind_some,e0,cond_false,nO h,k1,nO k2]
   rw [w64 (by omega) (by omega)]
   rfl
 . rintro ⟨i,M1⟩ ⟨k,rfl,hk,g1,g2,g3,g4⟩
   dsimp only at *
   by_cases hkN:k < N
   . left
     obtain ⟨M2,q1,q2,q3,q4,q5,q6⟩:=th g1 hkN
     refine ⟨(((k + 1:Nat):Int),M2),?_,⟨k + 1,rfl,hkN,q2,fun a c hc=>?_,fun a c hc=>?_,fun a c ha hc=>?_⟩,?_⟩
     . unfold gY
       simp only [dlt hkN,cond_true,q1,Option.bind_some,aZ hkN (by omega)]
     . by_cases hak:a=k
       . subst hak; exact q4 c (g2 _ c hc)
       . rw [q3 a c hak]; exact g2 a c hc
     . by_cases hak:a=k
       . subst hak
         exact q5 (fun c=>TC (has M) a c) (fun c hc=>g3 _ c hc) (fun k' c hk' hc=>hk'.trans (g3 _ c hc)) c hc
       . rw [q3 a c hak] at hc; exact g3 a c hc
     . by_cases hak:a=k
       . have up:∀ b c,has M b c=true→has M2 b c=true:=fun b d hd=>by
           by_cases hb:b=k
           . rw [hb] at hd ⊢; exact q4 d (g2 _ d hd)
           . rw [q3 b d hb]; exact g2 b d hd
         subst hak
         have all:∀ {c},TC (has M) a c→has M2 a c=true:=fun {c} hc=>by
           induction hc with
           | base h1=>exact up _ _ h1
           | step _ h1 ih=>exact q6 _ _ ih (up _ _ h1)
         exact all hc
       . rw [q3 a c hak]; exact g4 a c (by omega) hc
     . show N - ((k + 1:Nat):Int).toNat < N - ((k:Nat):Int).toNat
       rw [Int.toNat_natCast,Int.toNat_natCast]; omega
   . right
     obtain rfl:k=N:=by omega
     refine ⟨M1,?_,g1,fun a c=>⟨g3 a c,fun hc=>?_⟩⟩
     . unfold gY
       simp only [dge (Nat.lt_irrefl _),cond_false]
     . refine g4 a c ?_ hc
       have:∀ {a c},TC (has M) a c→a < k:=fun {a c} hc=>by
         induction hc with
         | base h1=>exact (h.lt h1).1
         | step _ _ ih=>exact ih
       exact this hc
def zr (M:List (List Int)):Nat:=(M.map fun r=>r.count 0).sum
theorem sF (i:Int):bC i i=some ():=by unfold bC; simp
theorem count_set {r:List Int} {c:Nat} (h:c < r.length) (h0:r[c]=0):(r.set c 1).count 0 + 1=r.count 0:=by
 rw [List.count_set h]
 have:0 < r.count 0:=List.count_pos_iff.2 (h0 ▸ List.getElem_mem h)
 simp [h0]
 omega
theorem o9:∀ {l:List Nat} {a:Nat} (h:a < l.length) {n:Nat},n + 1=l[a]→(l.set a n).sum + 1=l.sum
 | [],a,h,n,e=>by cases h
 | x :: l,0,h,n,e=>by simp at e ⊢; omega
 | x :: l,a + 1,h,n,e=>by
   have:=o9 (l:=l) (a:=a) (by simpa using h) (n:=n) (by simpa using e)
   simp only [List.set_cons_succ,List.sum_cons]; omega
theorem wa {M:List (List Int)} {a c:Nat} (h:a < M.length) (hc:c < M[a].length) (h0:M[a][c]=0):zr (M.set a (M[a].set c 1)) + 1=zr M:=by
 unfold zr
 rw [List.map_set]
 refine o9 (by simpa using h) ?_
 rw [List.getElem_map]
 exact count_set hc h0
def at2 (M:List (List Int)) (a b:Nat):Int:=((M[a]?.getD [])[b]?).getD 0
structure Rl (U:Nat) (M:List (List Int)):Prop where
 len:M.length=U
 row:∀ a (h:a < M.length),M[a].length=U
 bit:∀ a b,at2 M a b=0∨at2 M a b=1
theorem fa {M:List (List Int)} {a b:Nat} (ha:a < M.length) (hb:b < M[a].length):M[a][b]=at2 M a b:=by
 unfold at2; rw [List.getElem?_eq_getElem ha,Option.getD_some,List.getElem?_eq_getElem hb,Option.getD_some]
theorem Rl.lt {U:Nat} {M:List (List Int)} (h:Rl U M) {a b:Nat} (h1:at2 M a b=1):a < U∧b < U:=by
 rcases Nat.lt_or_ge a M.length with h2 | h2
 . rcases Nat.lt_or_ge b M[a].length with h3 | h3
   . exact ⟨h.len ▸ h2,h.row a h2 ▸ h3⟩
   . unfold at2 at h1; rw [List.getElem?_eq_getElem h2,Option.getD_some,List.getElem?_eq_none h3] at h1; cases h1
 . unfold at2 at h1; rw [List.getElem?_eq_none h2] at h1; cases h1
theorem kW {M:List (List Int)} {a c:Nat} (h:a < M.length) (hc:c < M[a].length) (p q:Nat):at2 (M.set a (M[a].set c 1)) p q=if p=a∧q=c then 1 else at2 M p q:=by
 unfold at2
 rw [List.getElem?_set]
 by_cases hp:a=p
 . subst hp
   rw [if_pos rfl,if_pos h,Option.getD_some,List.getElem?_set]
   by_cases hq:c=q
   . subst hq; rw [if_pos rfl,if_pos hc]; simp
   . rw [if_neg hq,if_neg (fun e=>hq e.2.symm),List.getElem?_eq_getElem h]; rfl
 . rw [if_neg hp,if_neg (fun e=>hp e.1.symm)]
theorem Rl.set {U:Nat} {M:List (List Int)} (h:Rl U M) {a c:Nat} (ha:a < M.length) (hc:c < M[a].length):Rl U (M.set a (M[a].set c 1)):=by
 refine ⟨by rw [List.length_set]; exact h.len,fun q hq=>?_,fun p q=>?_⟩
 . rw [List.length_set] at hq
   by_cases e:a=q
   . subst e; rw [List.getElem_set_self,List.length_set]; exact h.row a hq
   . rw [List.getElem_set_ne e]; exact h.row q hq
 . rw [kW ha hc]
   split
   . exact .inr rfl
   . exact h.bit p q
def Snd (M0 M:List (List Int)):Prop:=∀ T:Nat→Nat→Prop,(∀ p q r,T p q→T q r→T p r)→(∀ p q,at2 M0 p q=1→T p q)→∀ p q,at2 M p q=1→T p q
structure St (U:Nat) (t0:Bool) (M0:List (List Int)) (r:Bool×List (List Int)) (P:List (List Int)→Prop):Prop where
 rl:Rl U r.2
 up:∀ p q,at2 M0 p q=1→at2 r.2 p q=1
 snd:Snd M0 r.2
 le:zr r.2≤zr M0
 lt:r.1=true→t0=true∨zr r.2 < zr M0
 no:r.1=false→r.2=M0∧t0=false∧P M0
theorem St.refl {U:Nat} {t:Bool} {M:List (List Int)} (h:Rl U M) {P:List (List Int)→Prop} (hp:P M):St U t M (t,M) P :=
 ⟨h,fun _ _ k=>k,fun _ _ k=>k,Nat.le_refl _,fun k => .inl k,fun k=>⟨rfl,k,hp⟩⟩
theorem St.trans {U:Nat} {t0 t1:Bool} {M0 M1:List (List Int)} {r:Bool×List (List Int)} {P Q:List (List Int)→Prop} (h:St U t0 M0 (t1,M1) P) (k:St U t1 M1 r Q):St U t0 M0 r (fun M=>P M∧Q M) where
 rl:=k.rl
 up:=fun p q e=>k.up p q (h.up p q e)
 snd:=fun T t1 t2=>k.snd T t1 (h.snd T t1 t2)
 le:=Nat.le_trans k.le h.le
 lt:=fun e=>by
   rcases k.lt e with e1 | e1
   . rcases h.lt e1 with e2 | e2
     . exact .inl e2
     . exact .inr (Nat.lt_of_le_of_lt k.le e2)
   . exact .inr (Nat.lt_of_lt_of_le e1 h.le)
 no:=fun e=>by
   obtain ⟨k1,k2,k3⟩:=k.no e
   obtain ⟨h1,h2,h3⟩:=h.no k2
   dsimp only at h1
   subst h1
   exact ⟨k1,h2,h3,k3⟩
theorem St.imp {U:Nat} {t0:Bool} {M0:List (List Int)} {r:Bool×List (List Int)} {P Q:List (List Int)→Prop} (h:St U t0 M0 r P) (i:P M0→Q M0):St U t0 M0 r Q :=
 ⟨h.rl,h.up,h.snd,h.le,h.lt,fun e=>let ⟨a,b,c⟩:=h.no e; ⟨a,b,i c⟩⟩
theorem rl4 {U:Nat} (hU:U≤65536) {a b:Nat} (ha:a < U) (hb:b < U) {t0:Bool} {M0:List (List Int)} (h0:Rl U M0) :
   ∃ r,loop (ii (U:Int) (a:Int) (b:Int)) (t0,0,M0)=some r∧St U t0 M0 r (fun M=>∀ d,d < U→at2 M a b=1→at2 M b d=1→at2 M a d=1):=by
 refine bx (body:=ii (U:Int) (a:Int) (b:Int)) (fun s=>∃ c:Nat,s.2.1=(c:Int)∧c≤U∧St U t0 M0 (s.1,s.2.2) (fun M=>∀ d,d < c→at2 M a b=1→at2 M b d=1→at2 M a d=1)) (fun s=>U - s.2.1.toNat) ?_ ⟨0,rfl,Nat.zero_le _,.refl h0 (fun d h=>absurd h (Nat.not_lt_zero d))⟩
 rintro ⟨t,i,M⟩ ⟨c,rfl,hc,hs⟩
 dsimp only at hs ⊢
 have hM:Rl U M:=hs.rl
 unfold ii
 dsimp only
 by_cases hcU:c < U
 . left
   have la:a < M.length:=by rw [hM.len]; exact ha
   have lb:b < M.length:=by rw [hM.len]; exact hb
   have lc:c < M[a].length:=by rw [hM.row a la]; exact hcU
   have lab:b < M[a].length:=by rw [hM.row a la]; exact hb
   have lbc:c < M[b].length:=by rw [hM.row b lb]; exact hcU
   have sa:M.set a M[a]=M:=List.set_getElem_self la
   have sb:M.set b M[b]=M:=List.set_getElem_self lb
   have dn:∀ k:Nat,k=c + 1→U - k < U - c:=fun k e=>by omega
   have ext:∀ r:Bool×List (List Int),St U t M r (fun M=>at2 M a b=1→at2 M b c=1→at2 M a c=1)→St U t0 M0 (r.1,r.2) (fun M=>∀ d,d < c + 1→at2 M a b=1→at2 M b d=1→at2 M a d=1):=fun r hr=>(hs.trans hr).imp (fun ⟨k1,k2⟩ d hd=>by
     by_cases e:d=c
     . subst e; exact k2
     . exact k1 d (by omega))
   rw [dlt hcU,cond_true,be la]
   simp only [Option.bind_some,sF,Int.toNat_natCast,be lab,be lc,be lb,be lbc,sa,sb,be la,aZ hcU (by omega:U≤9223372036854775807),fa la lab,fa lb lbc,fa la lc]
   by_cases g1:at2 M a b=1
   . rw [decide_eq_true g1,cond_true]
     by_cases g2:at2 M b c=1
     . rw [decide_eq_true g2,cond_true]
       by_cases g3:at2 M a c=0
       . rw [decide_eq_true g3,cond_true]
         have hzz:=wa la lc (by rw [fa la lc]; exact g3)
         refine ⟨_,rfl,⟨c + 1,rfl,by omega,ext (true,M.set a (M[a].set c 1)) ?_⟩,by dsimp only; omega⟩
         refine ⟨hM.set la lc,fun p q e=>?_,fun T t1 t2 p q e=>?_,?_,fun _ => .inr ?_,fun e=>by cases e⟩
         . dsimp only; rw [kW la lc]; split
           . rfl
           . exact e
         . dsimp only at e; rw [kW la lc] at e
           split at e
           . rename_i k; obtain ⟨rfl,rfl⟩:=k
             exact t1 _ _ _ (t2 _ _ g1) (t2 _ _ g2)
           . exact t2 p q e
         . dsimp only; omega
         . dsimp only; omega
       . rw [decide_eq_false g3,cond_false]
         exact ⟨_,rfl,⟨c + 1,rfl,by omega,ext (t,M) (.refl hM (fun _ _=>(hM.bit a c).resolve_left g3))⟩,by dsimp only; omega⟩
     . rw [decide_eq_false g2,cond_false]
       exact ⟨_,rfl,⟨c + 1,rfl,by omega,ext (t,M) (.refl hM (fun _ k=>absurd k g2))⟩,by dsimp only; omega⟩
   . rw [decide_eq_false g1,cond_false]
     exact ⟨_,rfl,⟨c + 1,rfl,by omega,ext (t,M) (.refl hM (fun k=>absurd k g1))⟩,by dsimp only; omega⟩
 . right
   obtain rfl:c=U:=by omega
   rw [dge hcU,cond_false]
   exact ⟨_,rfl,hs⟩
theorem rl5 {U:Nat} (hU:U≤65536) {a:Nat} (ha:a < U) {t0:Bool} {M0:List (List Int)} (h0:Rl U M0) :
   ∃ r,loop (ie (U:Int) (a:Int)) (t0,0,M0)=some r∧St U t0 M0 r (fun M=>∀ b,b < U→∀ d,d < U→at2 M a b=1→at2 M b d=1→at2 M a d=1):=by
 refine bx (body:=ie (U:Int) (a:Int)) (fun s=>∃ c:Nat,s.2.1=(c:Int)∧c≤U∧St U t0 M0 (s.1,s.2.2) (fun M=>∀ b,b < c→∀ d,d < U→at2 M a b=1→at2 M b d=1→at2 M a d=1)) (fun s=>U - s.2.1.toNat) ?_ ⟨0,rfl,Nat.zero_le _,.refl h0 (fun d h=>absurd h (Nat.not_lt_zero d))⟩
 rintro ⟨t,i,M⟩ ⟨c,rfl,hc,hs⟩
 dsimp only at hs ⊢
 have hM:Rl U M:=hs.rl
 unfold ie
 dsimp only
 by_cases hcU:c < U
 . left
   obtain ⟨⟨t1,M1⟩,e,hr⟩:=rl4 hU ha hcU (t0:=t) hM
   rw [dlt hcU,cond_true,e]
   simp only [Option.bind_some,aZ hcU (by omega:U≤9223372036854775807)]
   refine ⟨_,rfl,⟨c + 1,rfl,by omega,(hs.trans hr).imp (fun ⟨k1,k2⟩ d hd=>?_)⟩,by dsimp only; rw [Int.toNat_natCast,Int.toNat_natCast]; omega⟩
   by_cases e:d=c
   . subst e; exact k2
   . exact k1 d (by omega)
 . right
   obtain rfl:c=U:=by omega
   rw [dge hcU,cond_false]
   exact ⟨_,rfl,hs⟩
theorem rl6 {U:Nat} (hU:U≤65536) {M0:List (List Int)} (h0:Rl U M0) :
   ∃ r,loop (ij (U:Int)) (false,0,M0)=some r∧St U false M0 r (fun M=>∀ a,a < U→∀ b,b < U→∀ d,d < U→at2 M a b=1→at2 M b d=1→at2 M a d=1):=by
 refine bx (body:=ij (U:Int)) (fun s=>∃ c:Nat,s.2.1=(c:Int)∧c≤U∧St U false M0 (s.1,s.2.2) (fun M=>∀ a,a < c→∀ b,b < U→∀ d,d < U→at2 M a b=1→at2 M b d=1→at2 M a d=1)) (fun s=>U - s.2.1.toNat) ?_ ⟨0,rfl,Nat.zero_le _,.refl h0 (fun d h=>absurd h (Nat.not_lt_zero d))⟩
 rintro ⟨t,i,M⟩ ⟨c,rfl,hc,hs⟩
 dsimp only at hs ⊢
 have hM:Rl U M:=hs.rl
 unfold ij
 dsimp only
 by_cases hcU:c < U
 . left
   obtain ⟨⟨t1,M1⟩,e,hr⟩:=rl5 hU hcU (t0:=t) hM
   rw [dlt hcU,cond_true,e]
   simp only [Option.bind_some,aZ hcU (by omega:U≤9223372036854775807)]
   refine ⟨_,rfl,⟨c + 1,rfl,by omega,(hs.trans hr).imp (fun ⟨k1,k2⟩ d hd=>?_)⟩,by dsimp only; rw [Int.toNat_natCast,Int.toNat_natCast]; omega⟩
   by_cases e:d=c
   . subst e; exact k2
   . exact k1 d (by omega)
 . right
   obtain rfl:c=U:=by omega
   rw [dge hcU,cond_false]
   exact ⟨_,rfl,hs⟩
theorem rl7 {U:Nat} (hU:U≤65536) {M0:List (List Int)} (h0:Rl U M0):∃ M,loop (ig (U:Int)) (true,M0)=some M∧Rl U M∧(∀ p q,at2 M0 p q=1→at2 M p q=1)∧Snd M0 M∧∀ a b d,at2 M a b=1→at2 M b d=1→at2 M a d=1:=by
 refine bx (body:=ig (U:Int)) (fun s=>Rl U s.2∧(∀ p q,at2 M0 p q=1→at2 s.2 p q=1)∧Snd M0 s.2∧(s.1=false→∀ a b d,at2 s.2 a b=1→at2 s.2 b d=1→at2 s.2 a d=1)) (fun s=>2 * zr s.2 + (if s.1=true then 1 else 0)) ?_ ⟨h0,fun _ _ k=>k,fun _ _ k=>k,fun e=>by cases e⟩
 rintro ⟨t,M⟩ ⟨hM,m1,m2,m3⟩
 dsimp only at hM m1 m2 m3 ⊢
 unfold ig
 dsimp only
 cases t with
 | true =>
   left
   obtain ⟨⟨t1,M1⟩,e,hr⟩:=rl6 hU hM
   rw [cond_true,e]
   refine ⟨_,rfl,⟨hr.rl,fun p q k=>hr.up p q (m1 p q k),fun T a b=>hr.snd T a (m2 T a b),fun ht=>?_⟩,?_⟩
   . obtain ⟨k1,_,k2⟩:=hr.no ht
     dsimp only at k1
     subst k1
     exact fun a b d g1 g2=>k2 a (hM.lt g1).1 b (hM.lt g1).2 d (hM.lt g2).2 g1 g2
   . dsimp only
     have h2:zr M1≤zr M:=hr.le
     cases t1 with
     | true =>
       rcases hr.lt rfl with k | k
       . cases k
       . have k:zr M1 < zr M:=k
         simp; omega
     | false=>simp; omega
 | false=>right; exact ⟨_,rfl,hM,m1,m2,m3 rfl⟩
def dJ (xb:List (Int×Int)) (a b:Nat):Prop:=a=b∨a=0∨((a:Int),(b:Int))∈xb
theorem rl1 (xb:List (Int×Int)) (hb:xb.length≤1000000) (a c:Nat) (v0:Int) (h0:v0=0∨v0=1):∃ v,loop (im xb (a:Int) (c:Int)) (v0,0)=some v∧(v=0∨v=1)∧(v=1↔v0=1∨((a:Int),(c:Int))∈xb):=by
 refine bx (body:=im xb (a:Int) (c:Int)) (fun s=>∃ k:Nat,s.2=(k:Int)∧k≤xb.length∧(s.1=0∨s.1=1)∧(s.1=1↔v0=1∨((a:Int),(c:Int))∈xb.take k)) (fun s=>xb.length - s.2.toNat) ?_ ⟨0,rfl,Nat.zero_le _,h0,by simp⟩
 rintro ⟨v,i⟩ ⟨k,rfl,hk,hv,hw⟩
 dsimp only at hv hw ⊢
 unfold im
 dsimp only
 by_cases hkl:k < xb.length
 . left
   rw [dlt hkl,cond_true,be hkl]
   simp only [Option.bind_some,aZ hkl (by omega:xb.length≤9223372036854775807)]
   have dn:xb.length - ((k + 1:Nat):Int).toNat < xb.length - ((k:Nat):Int).toNat:=by rw [Int.toNat_natCast,Int.toNat_natCast]; omega
   have tk:xb.take (k + 1)=xb.take k++[xb[k]]:=by rw [List.take_succ_eq_append_getElem hkl]
   have no:¬ (((a:Int),(c:Int))=xb[k])→(v=1↔v0=1∨((a:Int),(c:Int))∈xb.take (k + 1)):=fun hn=>by
     rw [hw,tk,List.mem_append,List.mem_singleton]
     simp [hn]
   by_cases q1:xb[k].1=(a:Int)
   . by_cases q2:xb[k].2=(c:Int)
     . simp only [decide_eq_true q1,decide_eq_true q2,cond_true,Option.bind_some]
       refine ⟨_,rfl,⟨k + 1,rfl,by omega,.inr rfl,?_⟩,dn⟩
       rw [tk,List.mem_append,List.mem_singleton]
       simp [← q1,← q2]
     . simp only [decide_eq_true q1,decide_eq_false q2,cond_true,cond_false,Option.bind_some]
       exact ⟨_,rfl,⟨k + 1,rfl,by omega,hv,no (fun e=>q2 (by rw [← e]))⟩,dn⟩
   . simp only [decide_eq_false q1,cond_false,Option.bind_some]
     exact ⟨_,rfl,⟨k + 1,rfl,by omega,hv,no (fun e=>q1 (by rw [← e]))⟩,dn⟩
 . right
   rw [dge hkl,cond_false]
   rw [List.take_of_length_le (by omega)] at hw
   exact ⟨_,rfl,hv,hw⟩
theorem rl2 {U:Nat} (hU:U≤65536) (xb:List (Int×Int)) (hb:xb.length≤1000000) (a:Nat):∃ r,loop (ik (U:Int) xb (a:Int)) ([],0)=some r∧r.length=U∧∀ b (h:b < r.length),(r[b]=0∨r[b]=1)∧(r[b]=1↔dJ xb a b):=by
 refine bx (body:=ik (U:Int) xb (a:Int)) (fun s=>∃ k:Nat,s.2=(k:Int)∧k≤U∧s.1.length=k∧∀ b (h:b < s.1.length),(s.1[b]=0∨s.1[b]=1)∧(s.1[b]=1↔dJ xb a b)) (fun s=>U - s.2.toNat) ?_ ⟨0,rfl,Nat.zero_le _,rfl,fun b h=>absurd h (Nat.not_lt_zero _)⟩
 rintro ⟨r,i⟩ ⟨k,rfl,hk,hl,hr⟩
 dsimp only at hl hr ⊢
 unfold ik
 dsimp only
 by_cases hkU:k < U
 . left
   rw [dlt hkU,cond_true]
   have hs : ∃ s0 : Int, (cond ((decide ((a : Int) = (k : Int))) || (decide ((a : Int) = 0))) (some (1)) (some (0)) : Option Int) = some s0 ∧ (s0 = 0 ∨ s0 = 1) ∧ (s0 = 1 ↔ a = k ∨ a = 0) := by
     by_cases e:a=k
     . exact ⟨1,by simp [e],.inr rfl,by simp [e]⟩
     . by_cases e0:a=0
       . exact ⟨1,by simp [e0],.inr rfl,by simp [e0]⟩
       . exact ⟨0,by
           have h1:¬ ((a:Int)=(k:Int)):=by omega
           have h2:¬ ((a:Int)=0):=by omega
           rw [decide_eq_false h1,decide_eq_false h2]; rfl,.inl rfl,by simp [e,e0]⟩
   obtain ⟨s0,e0,e1,e2⟩:=hs
   obtain ⟨v,g1,g2,g3⟩:=rl1 xb hb a k s0 e1
   rw [e0]
   simp only [Option.bind_some,g1]
   rw [dB (by simp; omega)]
   simp only [Option.bind_some,aZ hkU (by omega:U≤9223372036854775807)]
   refine ⟨_,rfl,⟨k + 1,rfl,by omega,by simp [hl],fun b h=>?_⟩,by dsimp only; rw [Int.toNat_natCast,Int.toNat_natCast]; omega⟩
   dsimp only at h ⊢
   rw [List.length_append,List.length_singleton] at h
   by_cases e:b=k
   . subst e
     have e4:(r++[v])[b]=v:=by rw [List.getElem_append_right (by omega)]; simp [hl]
     rw [e4]
     refine ⟨g2,?_⟩
     rw [g3,e2]; unfold dJ; rw [or_assoc]
   . rw [List.getElem_append_left (by omega)]
     exact hr b (by omega)
 . right
   have e:k=U:=by omega
   subst e
   rw [dge hkU,cond_false]
   exact ⟨_,rfl,hl,hr⟩
theorem rl3 {U:Nat} (hU:U≤65536) (xb:List (Int×Int)) (hb:xb.length≤1000000):∃ M,loop (fW (U:Int) xb) ([],0)=some M∧Rl U M∧∀ a b,at2 M a b=1↔(a < U∧b < U)∧dJ xb a b:=by
 have key:∃ M,loop (fW (U:Int) xb) ([],0)=some M∧M.length=U∧∀ q (h:q < M.length),M[q].length=U∧∀ b (h2:b < M[q].length),(M[q][b]=0∨M[q][b]=1)∧(M[q][b]=1↔dJ xb q b):=by
   refine bx (body:=fW (U:Int) xb) (fun s=>∃ k:Nat,s.2=(k:Int)∧k≤U∧s.1.length=k∧∀ q (h:q < s.1.length),s.1[q].length=U∧∀ b (h2:b < s.1[q].length),(s.1[q][b]=0∨s.1[q][b]=1)∧(s.1[q][b]=1↔dJ xb q b)) (fun s=>U - s.2.toNat) ?_ ⟨0,rfl,Nat.zero_le _,rfl,fun q h=>absurd h (Nat.not_lt_zero _)⟩
   rintro ⟨M,i⟩ ⟨k,rfl,hk,hl,hr⟩
   dsimp only at hl hr ⊢
   unfold fW
   dsimp only
   by_cases hkU:k < U
   . left
     obtain ⟨r,e,r1,r2⟩:=rl2 hU xb hb k
     rw [dlt hkU,cond_true,e]
     simp only [Option.bind_some]
     rw [dB (by simp; omega)]
     simp only [Option.bind_some,aZ hkU (by omega:U≤9223372036854775807)]
     refine ⟨_,rfl,⟨k + 1,rfl,by omega,by simp [hl],fun q h=>?_⟩,by dsimp only; rw [Int.toNat_natCast,Int.toNat_natCast]; omega⟩
     dsimp only at h ⊢
     rw [List.length_append,List.length_singleton] at h
     by_cases e2:q=k
     . subst e2
       have e4:(M++[r])[q]=r:=by rw [List.getElem_append_right (by omega)]; simp [hl]
       simp only [e4]
       exact ⟨r1,r2⟩
     . have e4:(M++[r])[q]=M[q]:=by rw [List.getElem_append_left (by omega)]
       simp only [e4]
       exact hr q (by omega)
   . right
     have e:k=U:=by omega
     subst e
     rw [dge hkU,cond_false]
     exact ⟨_,rfl,hl,hr⟩
 obtain ⟨M,e,h1,h2⟩:=key
 refine ⟨M,e,⟨h1,fun a h=>(h2 a h).1,fun a b=>?_⟩,fun a b=>?_⟩
 . rcases Nat.lt_or_ge a M.length with ha | ha
   . rcases Nat.lt_or_ge b M[a].length with hb | hb
     . rw [← fa ha hb]; exact ((h2 a ha).2 b hb).1
     . left; unfold at2; rw [List.getElem?_eq_getElem ha,Option.getD_some,List.getElem?_eq_none hb]; rfl
   . left; unfold at2; rw [List.getElem?_eq_none ha]; rfl
 . rcases Nat.lt_or_ge a M.length with ha | ha
   . rcases Nat.lt_or_ge b M[a].length with hb | hb
     . rw [← fa ha hb,((h2 a ha).2 b hb).2]
       have:=(h2 a ha).1
       exact ⟨fun k=>⟨⟨by omega,by omega⟩,k⟩,fun k=>k.2⟩
     . have:=(h2 a ha).1
       have e0:at2 M a b=0:=by unfold at2; rw [List.getElem?_eq_getElem ha,Option.getD_some,List.getElem?_eq_none hb]; rfl
       rw [e0]
       constructor
       . intro k; cases k
       . rintro ⟨k,_⟩; omega
   . have e0:at2 M a b=0:=by unfold at2; rw [List.getElem?_eq_none ha]; rfl
     rw [e0]
     constructor
     . intro k; cases k
     . rintro ⟨k,_⟩; omega
structure Ff (U:Nat) (xb:List (Int×Int)) (f:Nat→Nat→Bool):Prop where
 lt:∀ {a b},f a b=true→a < U∧b < U
 ini:∀ {a b},a < U→b < U→dJ xb a b→f a b=true
 cl:∀ {a b c},f a b=true→f b c=true→f a c=true
 least:∀ T:Nat→Nat→Prop,(∀ p q r,T p q→T q r→T p r)→(∀ a b,a < U→b < U→dJ xb a b→T a b)→∀ {a b},f a b=true→T a b
def f31 (M:List (List Int)) (a b:Nat):Bool:=decide (at2 M a b=1)
theorem pW {U:Nat} (hU:U≤65536) (xb:List (Int×Int)) (hb:xb.length≤1000000):∃ M,m6 (U:Int) xb=some M∧Rl U M∧Ff U xb (f31 M):=by
 obtain ⟨M0,e0,h0,h2⟩:=rl3 hU xb hb
 obtain ⟨M,e1,h1,k1,k2,k3⟩:=rl7 hU h0
 refine ⟨M,?_,h1,?_⟩
 . unfold m6
   have n1:¬ ((U:Int) < 0):=by omega
   have n2:¬ (65536 < (U:Int)):=by omega
   rw [decide_eq_false n1,decide_eq_false n2,Bool.or_self,cond_false,e0]
   simp only [Option.bind_some,e1]
 . refine ⟨fun h=>h1.lt (of_decide_eq_true h),fun ha hb hi=>decide_eq_true (k1 _ _ ((h2 _ _).2 ⟨⟨ha,hb⟩,hi⟩)),fun g1 g2=>decide_eq_true (k3 _ _ _ (of_decide_eq_true g1) (of_decide_eq_true g2)),fun T t1 t2 a b h=>?_⟩
   exact k2 T t1 (fun p q h=>by
     obtain ⟨⟨a1,a2⟩,a3⟩:=(h2 p q).1 h
     exact t2 p q a1 a2 a3) a b (of_decide_eq_true h)
def aq (f:Nat→Nat→Bool) (a b:Int):Bool:=(decide (0≤a)&&decide (0≤b))&&f a.toNat b.toNat
section
theorem mfS {α:Type} [DecidableEq α] (k:α):∀ (l:List (α×Int)) (i:Nat),(aF k l i).isSome=decide (k∈l.map (·.1))
 | [],i=>rfl
 | p :: l,i=>by
   unfold aF
   by_cases h:p.1=k
   . simp [h]
   . rw [if_neg h,mfS k l (i + 1)]
     have h2:¬ k=p.1:=fun e=>h e.symm
     simp [h2]
def inE (U:Nat) (e:Int×Int):Prop:=(0≤e.1∧e.1 < (U:Int))∧0≤e.2∧e.2 < (U:Int)
theorem gt (r:Int) (U:Nat) (l:List Int) (m:Option (List (Int×Int))) (x:Option (Int×MX)):cx r (U:Int) l m x=some (decide (0≤r∧r < (U:Int)),l,m,x):=by
 unfold cx
 by_cases h:0≤r
 . rw [decide_eq_true h,cond_true]
   show some _=_
   simp [h]
 . rw [decide_eq_false h,cond_false]
   simp [h]
theorem pC (r:Int) (U:Int) {l:List Int} (m:List (Int×Int)) (x:Option (Int×MX)) (hm:∀ q,q∈m.map (·.1)↔q∈l) (hl:l.length≤1000000000) :
   ∃ m',fM r U l (some m) x=some (if r∈l then l else l++[r],some m',x)∧∀ q,q∈m'.map (·.1)↔q∈(if r∈l then l else l++[r]):=by
 unfold fM
 simp only [Option.bind_some,mfS]
 by_cases h:r∈l
 . have h1:r∈m.map (·.1):=(hm r).2 h
   refine ⟨m,?_,?_⟩
   . rw [decide_eq_true h1,Bool.not_true,cond_false,if_pos h]
   . rw [if_pos h]; exact hm
 . have h1:¬ r∈m.map (·.1):=fun k=>h ((hm r).1 k)
   refine ⟨bT r 0 m,?_,?_⟩
   . rw [decide_eq_false h1,Bool.not_false,cond_true,dB (by simp; omega),if_neg h]; rfl
   . intro q
     rw [if_neg h,kY,hm,List.mem_append,List.mem_singleton]
structure Nms (U:Nat) (es:List (Int×Int)) (l:List Int) (m:List (Int×Int)):Prop where
 nd:l.Nodup
 len:l.length≤2 * es.length
 key:∀ q,q∈m.map (·.1)↔q∈l
 mem:∀ q,q∈l↔∃ e∈es,inE U e∧(q=e.1∨q=e.2)
theorem qk {l:List Int} (h:l.Nodup) (r:Int):(if r∈l then l else l++[r]).Nodup∧(if r∈l then l else l++[r]).length≤l.length + 1∧∀ q,q∈(if r∈l then l else l++[r])↔q∈l∨q=r:=by
 by_cases hr:r∈l
 . rw [if_pos hr]
   refine ⟨h,by omega,fun q=>⟨.inl,?_⟩⟩
   rintro (k | rfl)
   . exact k
   . exact hr
 . rw [if_neg hr]
   refine ⟨?_,by simp,fun q=>by simp⟩
   rw [List.nodup_append]
   exact ⟨h,by simp,fun a ha b hb e=>hr (by rw [List.mem_singleton] at hb; rw [← hb,← e]; exact ha)⟩
theorem wu {U:Nat} (xb:List (Int×Int)) (hb:xb.length≤1000000):∃ r,loop (iq (U:Int) xb) (0,[],some [],none)=some r∧∃ l m,r=(l,some m,none)∧Nms U xb l m:=by
 refine bx (body:=iq (U:Int) xb) (fun s=>∃ k:Nat,k≤xb.length∧∃ l m,s=((k:Int),l,some m,none)∧Nms U (xb.take k) l m) (fun s=>xb.length - s.1.toNat) ?_ ⟨0,Nat.zero_le _,[],[],rfl,⟨List.nodup_nil,by simp,by simp,by simp⟩⟩
 rintro s ⟨k,hk,l,m,rfl,hn⟩
 unfold iq
 dsimp only
 by_cases hkl:k < xb.length
 . left
   rw [dlt hkl,cond_true,be hkl]
   simp only [Option.bind_some,aZ hkl (by omega:xb.length≤9223372036854775807),gt]
   have tk:xb.take (k + 1)=xb.take k++[xb[k]]:=by rw [List.take_succ_eq_append_getElem hkl]
   have tl:(xb.take (k + 1)).length=(xb.take k).length + 1:=by rw [tk,List.length_append,List.length_singleton]
   have tl2:(xb.take k).length≤xb.length:=by rw [List.length_take]; omega
   have hlen:=hn.len
   have dn:∀ z:Nat,z=k + 1→xb.length - z < xb.length - k:=fun z e=>by omega
   have no:¬ inE U xb[k]→Nms U (xb.take (k + 1)) l m:=fun hi=>⟨hn.nd,by omega,hn.key,fun q=>by
     rw [hn.mem,tk]
     constructor
     . rintro ⟨e,e1,e2⟩; exact ⟨e,List.mem_append_left _ e1,e2⟩
     . rintro ⟨e,e1,e2⟩
       rw [List.mem_append,List.mem_singleton] at e1
       rcases e1 with e1 | rfl
       . exact ⟨e,e1,e2⟩
       . exact absurd e2.1 hi⟩
   by_cases h1:0≤xb[k].1∧xb[k].1 < (U:Int)
   . by_cases h2:0≤xb[k].2∧xb[k].2 < (U:Int)
     . rw [decide_eq_true h1,decide_eq_true h2,cond_true,cond_true]
       obtain ⟨m1,p1,p2⟩:=pC xb[k].1 (U:Int) m none hn.key (by omega)
       obtain ⟨n1,n2,n3⟩:=qk hn.nd xb[k].1
       rw [p1]
       simp only [Option.bind_some]
       generalize hl1:(if xb[k].1∈l then l else l++[xb[k].1])=l1 at p2 n1 n2 n3
       obtain ⟨m2,q1,q2⟩:=pC xb[k].2 (U:Int) m1 none p2 (by omega)
       obtain ⟨o1,o2,o3⟩:=qk n1 xb[k].2
       rw [q1]
       simp only [Option.bind_some]
       refine ⟨_,rfl,⟨k + 1,hkl,_,m2,rfl,⟨o1,by omega,q2,fun q=>?_⟩⟩,by dsimp only; rw [Int.toNat_natCast,Int.toNat_natCast]; omega⟩
       rw [o3,n3,hn.mem,tk]
       constructor
       . rintro ((⟨e,e1,e2⟩ | h) | h)
         . exact ⟨e,List.mem_append_left _ e1,e2⟩
         . exact ⟨xb[k],List.mem_append_right _ (List.mem_singleton.2 rfl),⟨h1,h2⟩,.inl h⟩
         . exact ⟨xb[k],List.mem_append_right _ (List.mem_singleton.2 rfl),⟨h1,h2⟩,.inr h⟩
       . rintro ⟨e,e1,e2,e3⟩
         rw [List.mem_append,List.mem_singleton] at e1
         rcases e1 with e1 | rfl
         . exact .inl (.inl ⟨e,e1,e2,e3⟩)
         . rcases e3 with e3 | e3
           . exact .inl (.inr e3)
           . exact .inr e3
     . rw [decide_eq_true h1,decide_eq_false h2,cond_true,cond_false]
       exact ⟨_,rfl,⟨k + 1,hkl,l,m,rfl,no (fun h=>h2 h.2)⟩,by dsimp only; rw [Int.toNat_natCast,Int.toNat_natCast]; omega⟩
   . rw [decide_eq_false h1,cond_false]
     exact ⟨_,rfl,⟨k + 1,hkl,l,m,rfl,no (fun h=>h1 h.1)⟩,by dsimp only; rw [Int.toNat_natCast,Int.toNat_natCast]; omega⟩
 . right
   rw [dge hkl,cond_false]
   rw [List.take_of_length_le (by omega)] at hn
   exact ⟨_,rfl,l,m,rfl,hn⟩
theorem pM {L:List Int} (h:L.length≤1073741824):∃ S,srt L=some S∧S.Pairwise (·≤·)∧S.Perm L:=by
 refine ⟨_,by unfold srt; rw [if_pos h],?_,List.mergeSort_perm _ _⟩
 have hs:=List.pairwise_mergeSort (le:=fun x y:Int=>decide (x≤y)) (fun a b c h1 h2=>by simp at *; omega) (fun a b=>by simp; omega) L
 exact hs.imp (fun h=>by simpa using h)
theorem wA {S:List Int} (hn:S.Nodup) (hl:S.length≤9000000) {m:List (Int×Int)} (hm:∀ q,q∈m.map (·.1)↔q∈S):∃ r,loop (ip S) (0,some m)=some r∧∃ m',r=some m'∧(∀ q,q∈m'.map (·.1)↔q∈S)∧∀ j (h:j < S.length),aM S[j] m'=(j:Int):=by
 refine bx (body:=ip S) (fun s=>∃ k:Nat,k≤S.length∧∃ m',s=((k:Int),some m')∧(∀ q,q∈m'.map (·.1)↔q∈S)∧∀ j (h:j < S.length),j < k→aM S[j] m'=(j:Int)) (fun s=>S.length - s.1.toNat) ?_ ⟨0,Nat.zero_le _,m,rfl,hm,fun j _ h=>absurd h (Nat.not_lt_zero _)⟩
 rintro s ⟨k,hk,m',rfl,h1,h2⟩
 unfold ip
 dsimp only
 by_cases hkl:k < S.length
 . left
   rw [dlt hkl,cond_true,be hkl]
   simp only [Option.bind_some,aZ hkl (by omega:S.length≤9223372036854775807)]
   refine ⟨_,rfl,⟨k + 1,hkl,_,rfl,fun q=>?_,fun j hj hjk=>?_⟩,by dsimp only; rw [Int.toNat_natCast,Int.toNat_natCast]; omega⟩
   . rw [kY,h1]
     constructor
     . rintro (h | rfl)
       . exact h
       . exact List.getElem_mem hkl
     . exact .inl
   . rw [oL]
     by_cases e:j=k
     . subst e; rw [if_pos rfl]
     . rw [if_neg (fun h=>e ((List.getElem_inj hn).1 h)),h2 j hj (by omega)]
 . right
   rw [dge hkl,cond_false]
   exact ⟨_,rfl,m',rfl,h1,fun j hj=>h2 j hj (by omega)⟩
theorem wz {U:Nat} {xb:List (Int×Int)} (hb:xb.length≤1000000) {S:List Int} (hn:S.Nodup) {m:List (Int×Int)} (hg:∀ j (h:j < S.length),aM S[j] m=(j:Int)) (hS:∀ q,q∈S↔∃ e∈xb,inE U e∧(q=e.1∨q=e.2)) (hN:S.length≤65536) :
   ∃ r,loop (io (U:Int) xb) (0,S,some m,some ((S.length:Int),List.replicate S.length none))=some r∧∃ M,r=(S,some m,some ((S.length:Int),M))∧Mx S.length S.length M∧∀ a b,has M a b=true↔∃ e∈xb,inE U e∧S[a]? = some e.1∧S[b]? = some e.2:=by
 refine bx (body:=io (U:Int) xb) (fun s=>∃ k:Nat,k≤xb.length∧∃ M,s=((k:Int),S,some m,some ((S.length:Int),M))∧Mx S.length S.length M∧∀ a b,has M a b=true↔∃ e∈xb.take k,inE U e∧S[a]? = some e.1∧S[b]? = some e.2) (fun s=>xb.length - s.1.toNat) ?_ ⟨0,Nat.zero_le _,_,rfl,wh hN hN,fun a b=>by rw [vb]; simp⟩
 rintro s ⟨k,hk,M,rfl,hM,hh⟩
 unfold io
 dsimp only
 by_cases hkl:k < xb.length
 . left
   rw [dlt hkl,cond_true,be hkl]
   simp only [Option.bind_some,aZ hkl (by omega:xb.length≤9223372036854775807),gt]
   have tk:xb.take (k + 1)=xb.take k++[xb[k]]:=by rw [List.take_succ_eq_append_getElem hkl]
   have no:¬ inE U xb[k]→∀ a b,has M a b=true↔∃ e∈xb.take (k + 1),inE U e∧S[a]? = some e.1∧S[b]? = some e.2:=fun hi a b=>by
     rw [hh,tk]
     constructor
     . rintro ⟨e,e1,e2⟩; exact ⟨e,List.mem_append_left _ e1,e2⟩
     . rintro ⟨e,e1,e2⟩
       rw [List.mem_append,List.mem_singleton] at e1
       rcases e1 with e1 | rfl
       . exact ⟨e,e1,e2⟩
       . exact absurd e2.1 hi
   by_cases h1:0≤xb[k].1∧xb[k].1 < (U:Int)
   . by_cases h2:0≤xb[k].2∧xb[k].2 < (U:Int)
     . rw [decide_eq_true h1,decide_eq_true h2,cond_true,cond_true]
       have m1:xb[k].1∈S:=(hS _).2 ⟨xb[k],List.getElem_mem hkl,⟨h1,h2⟩,.inl rfl⟩
       have m2:xb[k].2∈S:=(hS _).2 ⟨xb[k],List.getElem_mem hkl,⟨h1,h2⟩,.inr rfl⟩
       obtain ⟨i,hi,e1⟩:=List.getElem_of_mem m1
       obtain ⟨j,hj,e2⟩:=List.getElem_of_mem m2
       have g1:aM xb[k].1 m=(i:Int):=by rw [← e1]; exact hg i hi
       have g2:aM xb[k].2 m=(j:Int):=by rw [← e2]; exact hg j hj
       obtain ⟨M',p1,p2,p3⟩:=vo hM (i:Int) (j:Int)
       rw [g1,g2,p1]
       simp only [Option.bind_some]
       refine ⟨_,rfl,⟨k + 1,hkl,M',rfl,p2,fun a b=>?_⟩,by dsimp only; rw [Int.toNat_natCast,Int.toNat_natCast]; omega⟩
       rw [p3,Bool.or_eq_true,hh,decide_eq_true_eq,tk,Int.toNat_natCast,Int.toNat_natCast]
       constructor
       . rintro (⟨e,q1,q2⟩ | ⟨_,rfl,rfl⟩)
         . exact ⟨e,List.mem_append_left _ q1,q2⟩
         . exact ⟨xb[k],List.mem_append_right _ (List.mem_singleton.2 rfl),⟨h1,h2⟩,by rw [List.getElem?_eq_getElem hi,e1],by rw [List.getElem?_eq_getElem hj,e2]⟩
       . rintro ⟨e,q1,q2,q3,q4⟩
         rw [List.mem_append,List.mem_singleton] at q1
         rcases q1 with q1 | rfl
         . exact .inl ⟨e,q1,q2,q3,q4⟩
         . right
           obtain ⟨ha,q3⟩:=List.getElem?_eq_some_iff.1 q3
           obtain ⟨hb',q4⟩:=List.getElem?_eq_some_iff.1 q4
           have r1:i=a:=(List.getElem_inj hn).1 (e1.trans q3.symm)
           have r2:j=b:=(List.getElem_inj hn).1 (e2.trans q4.symm)
           exact ⟨by omega,r1,r2⟩
     . rw [decide_eq_true h1,decide_eq_false h2,cond_true,cond_false]
       exact ⟨_,rfl,⟨k + 1,hkl,M,rfl,hM,no (fun h=>h2 h.2)⟩,by dsimp only; rw [Int.toNat_natCast,Int.toNat_natCast]; omega⟩
   . rw [decide_eq_false h1,cond_false]
     exact ⟨_,rfl,⟨k + 1,hkl,M,rfl,hM,no (fun h=>h1 h.1)⟩,by dsimp only; rw [Int.toNat_natCast,Int.toNat_natCast]; omega⟩
 . right
   rw [dge hkl,cond_false]
   rw [List.take_of_length_le (by omega)] at hh
   exact ⟨_,rfl,M,rfl,hM,hh⟩
theorem oI:∀ {S:List Int} {a:Int} {n:Nat},S.Pairwise (· < ·)→(∀ q∈S,a≤q∧q < a + n)→S.length≤n
 | [],a,n,_,_=>Nat.zero_le _
 | x :: S,a,n,hp,hb=>by
   have hx:=hb x (List.mem_cons_self ..)
   cases n with
   | zero=>omega
   | succ n =>
     rw [List.pairwise_cons] at hp
     have:=oI (S:=S) (a:=a + 1) (n:=n) hp.2 (fun q hq=>by
       have h1:=hp.1 q hq
       have h2:=hb q (List.mem_cons_of_mem _ hq)
       omega)
     simp only [List.length_cons]; omega
theorem vi {S:List Int} (h:S.Pairwise (·≤·)) (hn:S.Nodup):S.Pairwise (· < ·):=by
 have:=List.Pairwise.and h hn
 exact this.imp (fun ⟨h1,h2⟩=>by omega)
structure Kr (U:Nat) (xb:List (Int×Int)) (S:List Int) (m:List (Int×Int)) (M:MX):Prop where
 rise:S.Pairwise (· < ·)
 key:∀ q,q∈m.map (·.1)↔q∈S
 place:∀ j (h:j < S.length),aM S[j] m=(j:Int)
 mem:∀ q,q∈S↔∃ e∈xb,inE U e∧(q=e.1∨q=e.2)
 mx:Mx S.length S.length M
 tc:∃ R,(∀ a b,R a b=true↔∃ e∈xb,inE U e∧S[a]? = some e.1∧S[b]? = some e.2)∧∀ a b,has M a b=true↔TC R a b
theorem wI {U:Nat} (hU:U≤65536) {xb:List (Int×Int)} (hb:xb.length≤1000000):∃ S m M,dP (U:Int) xb=some ((U:Int),S,some m,some ((S.length:Int),M))∧Kr U xb S m M:=by
 obtain ⟨_,a1,l,m0,rfl,hn⟩:=wu (U:=U) xb hb
 have hlen:=hn.len
 obtain ⟨S,s1,s2,s3⟩:=pM (L:=l) (by omega)
 have snd:S.Nodup:=s3.nodup_iff.2 hn.nd
 have sm:∀ q,q∈S↔q∈l:=fun q=>s3.mem_iff
 have rise:=vi s2 snd
 have hS:∀ q,q∈S↔∃ e∈xb,inE U e∧(q=e.1∨q=e.2):=fun q=>(sm q).trans (hn.mem q)
 have hN:S.length≤U:=oI (a:=0) rise (fun q hq=>by
   obtain ⟨e,_,⟨⟨e1,e2⟩,e3,e4⟩,rfl | rfl⟩:=(hS q).1 hq <;> omega)
 obtain ⟨_,b1,m,rfl,b2,b3⟩:=wA snd (by omega) (m:=m0) (fun q=>(hn.key q).trans (sm q).symm)
 obtain ⟨_,c1,M,rfl,c2,c3⟩:=wz (U:=U) hb snd b3 hS (by omega)
 obtain ⟨M',d1,d2,d3⟩:=sY c2
 refine ⟨S,m,M',?_,⟨rise,b2,b3,hS,d2,has M,c3,d3⟩⟩
 unfold dP
 have n1:¬ ((U:Int) < 0):=by omega
 have n2:¬ (65536 < (U:Int)):=by omega
 have n3:¬ ((S.length:Int) < 0∨(S.length:Int) < 0):=by omega
 have n4:¬ (65536 < (S.length:Int)∨65536 < (S.length:Int)):=by omega
 rw [decide_eq_false n1,decide_eq_false n2,Bool.or_self,cond_false,a1]
 simp only [Option.bind_some,s1,b1,vy,if_neg n3,if_neg n4,agr,Int.toNat_natCast]
 simp only [Option.bind_some,c1,d1,if_true]
def ldP (S:List Int) (M:MX) (a b:Int):Prop:=∃ i j:Nat,S[i]? = some a∧S[j]? = some b∧has M i j=true
section
variable {U:Nat} {xb:List (Int×Int)} {S:List Int} {m:List (Int×Int)} {M:MX}
theorem Kr.nd (h:Kr U xb S m M):S.Nodup:=h.rise.imp (fun h=>by omega)
theorem Kr.idx (h:Kr U xb S m M) {a:Int} (ha:a∈S):∃ i:Nat,S[i]? = some a∧aM a m=(i:Int):=by
 obtain ⟨i,hi,e⟩:=List.getElem_of_mem ha
 exact ⟨i,by rw [List.getElem?_eq_getElem hi,e],by rw [← e]; exact h.place i hi⟩
theorem Kr.uniq (h:Kr U xb S m M) {a:Int} {i j:Nat} (hi:S[i]? = some a) (hj:S[j]? = some a):i=j:=by
 obtain ⟨h1,e1⟩:=List.getElem?_eq_some_iff.1 hi
 obtain ⟨h2,e2⟩:=List.getElem?_eq_some_iff.1 hj
 exact (List.getElem_inj h.nd).1 (e1.trans e2.symm)
theorem Kr.inR (h:Kr U xb S m M) {a:Int} (ha:a∈S):0≤a∧a < (U:Int):=by
 obtain ⟨e,_,⟨h1,h2⟩,rfl | rfl⟩:=(h.mem a).1 ha
 . exact h1
 . exact h2
theorem Kr.ld_in (h:Kr U xb S m M) {a b:Int} (hl:ldP S M a b):(0≤a∧a < (U:Int))∧0≤b∧b < (U:Int):=by
 obtain ⟨i,j,h1,h2,_⟩:=hl
 exact ⟨h.inR (List.mem_of_getElem? h1),h.inR (List.mem_of_getElem? h2)⟩
theorem Kr.ld_trans (h:Kr U xb S m M) {a b c:Int} (h1:ldP S M a b) (h2:ldP S M b c):ldP S M a c:=by
 obtain ⟨i,j,a1,a2,a3⟩:=h1
 obtain ⟨j',k,b1,b2,b3⟩:=h2
 obtain rfl:=h.uniq a2 b1
 obtain ⟨R,_,t⟩:=h.tc
 exact ⟨i,k,a1,b2,(t _ _).2 (((t _ _).1 a3).trans ((t _ _).1 b3))⟩
theorem Kr.ld_base (h:Kr U xb S m M) {e:Int×Int} (he:e∈xb) (hi:inE U e):ldP S M e.1 e.2:=by
 obtain ⟨i,i1,_⟩:=h.idx ((h.mem e.1).2 ⟨e,he,hi,.inl rfl⟩)
 obtain ⟨j,j1,_⟩:=h.idx ((h.mem e.2).2 ⟨e,he,hi,.inr rfl⟩)
 obtain ⟨R,r,t⟩:=h.tc
 exact ⟨i,j,i1,j1,(t _ _).2 (.base ((r _ _).2 ⟨e,he,hi,i1,j1⟩))⟩
theorem Kr.ld_f (h:Kr U xb S m M) {f:Nat→Nat→Bool} (hf:Ff U xb f) {a b:Int} (hl:ldP S M a b):f a.toNat b.toNat=true:=by
 obtain ⟨i,j,h1,h2,h3⟩:=hl
 obtain ⟨R,r,t⟩:=h.tc
 have key:=TC.least (T:=fun i j:Nat=>∃ a b:Int,S[i]? = some a∧S[j]? = some b∧f a.toNat b.toNat=true) (R:=R) (fun i j hr=>by
   obtain ⟨e,e1,e2,e3,e4⟩:=(r i j).1 hr
   obtain ⟨⟨p1,p2⟩,p3,p4⟩:=e2
   refine ⟨e.1,e.2,e3,e4,hf.ini (by omega) (by omega) (.inr (.inr ?_))⟩
   rw [Int.toNat_of_nonneg p1,Int.toNat_of_nonneg p3]
   exact e1) (fun i j k hij hjk=>by
   obtain ⟨a,b,q1,q2,q3⟩:=hij
   obtain ⟨b',c,w1,w2,w3⟩:=hjk
   rw [q2] at w1; cases w1
   exact ⟨a,c,q1,w2,hf.cl q3 w3⟩) ((t i j).1 h3)
 obtain ⟨a',b',q1,q2,q3⟩:=key
 rw [h1] at q1; rw [h2] at q2; cases q1; cases q2
 exact q3
theorem Kr.leads_eq (h:Kr U xb S m M) (a b:Int):∃ t,fJ a b (U:Int) S (some m) (some ((S.length:Int),M))=some (t,S,some m,some ((S.length:Int),M))∧(t=true↔ldP S M a b):=by
 unfold fJ
 simp only [Option.bind_some,mfS]
 by_cases ha:a∈S
 . by_cases hb:b∈S
   . rw [decide_eq_true ((h.key a).2 ha),decide_eq_true ((h.key b).2 hb),Bool.and_self,cond_true]
     obtain ⟨i,i1,i2⟩:=h.idx ha
     obtain ⟨j,j1,j2⟩:=h.idx hb
     rw [i2,j2,uM h.mx]
     simp only [Option.bind_some,Int.toNat_natCast]
     refine ⟨_,rfl,?_⟩
     have e:(decide (0≤(i:Int))&&decide (0≤(j:Int))&&has M i j)=has M i j:=by simp
     rw [e]
     constructor
     . exact fun k=>⟨i,j,i1,j1,k⟩
     . rintro ⟨i',j',k1,k2,k3⟩
       rw [h.uniq i1 k1,h.uniq j1 k2]; exact k3
   . have:¬ b∈m.map (·.1):=fun k=>hb ((h.key b).1 k)
     rw [decide_eq_false this,Bool.and_false,cond_false]
     refine ⟨_,rfl,fun k=>(by cases k),fun ⟨i,j,k1,k2,_⟩=>absurd (List.mem_of_getElem? k2) hb⟩
 . have:¬ a∈m.map (·.1):=fun k=>ha ((h.key a).1 k)
   rw [decide_eq_false this,Bool.false_and,cond_false]
   refine ⟨_,rfl,fun k=>(by cases k),fun ⟨i,j,k1,k2,_⟩=>absurd (List.mem_of_getElem? k1) ha⟩
theorem Kr.all_eq (h:Kr U xb S m M) (a:Int):∃ t,fH a (U:Int) S (some m) (some ((S.length:Int),M))=some (t,S,some m,some ((S.length:Int),M))∧(t=true↔a=0∨ldP S M a 0):=by
 unfold fH
 by_cases h0:a=0
 . rw [decide_eq_true h0,cond_true]; exact ⟨_,rfl,fun _ => .inl h0,fun _=>rfl⟩
 . rw [decide_eq_false h0,cond_false]
   obtain ⟨t,e,k⟩:=h.leads_eq a 0
   rw [e]
   refine ⟨t,rfl,k.trans ⟨.inr,fun g=>g.resolve_left h0⟩⟩
theorem Kr.f_iff (h:Kr U xb S m M) {f:Nat→Nat→Bool} (hf:Ff U xb f) (a b:Int):aq f a b=true↔((0≤a∧a < (U:Int))∧0≤b∧b < (U:Int))∧(a=b∨a=0∨ldP S M a 0∨ldP S M a b):=by
 unfold aq
 simp only [Bool.and_eq_true,decide_eq_true_eq]
 constructor
 . rintro ⟨⟨ha,hb⟩,hab⟩
   obtain ⟨u1,u2⟩:=hf.lt hab
   refine ⟨⟨⟨ha,by omega⟩,hb,by omega⟩,?_⟩
   have key:=hf.least (fun p q=>(p:Int)=(q:Int)∨(p:Int)=0∨ldP S M (p:Int) 0∨ldP S M (p:Int) (q:Int)) (fun p q r g1 g2=>by
     rcases g1 with g1 | g1 | g1 | g1
     . rw [g1]; exact g2
     . exact .inr (.inl g1)
     . exact .inr (.inr (.inl g1))
     . rcases g2 with g2 | g2 | g2 | g2
       . rw [← g2]; exact .inr (.inr (.inr g1))
       . rw [g2] at g1; exact .inr (.inr (.inl g1))
       . exact .inr (.inr (.inl (h.ld_trans g1 g2)))
       . exact .inr (.inr (.inr (h.ld_trans g1 g2)))) (fun p q hp hq g=>by
     rcases g with g | g | g
     . exact .inl (by rw [g])
     . exact .inr (.inl (by rw [g]; rfl))
     . exact .inr (.inr (.inr (h.ld_base g ⟨⟨by omega,by omega⟩,by omega,by omega⟩)))) hab
   rw [Int.toNat_of_nonneg ha,Int.toNat_of_nonneg hb] at key
   exact key
 . rintro ⟨⟨⟨a1,a2⟩,b1,b2⟩,g⟩
   refine ⟨⟨a1,b1⟩,?_⟩
   rcases g with g | g | g | g
   . exact hf.ini (by omega) (by omega) (.inl (by rw [g]))
   . exact hf.ini (by omega) (by omega) (.inr (.inl (by omega)))
   . exact hf.cl (h.ld_f hf g) (hf.ini (by omega) (by omega) (.inr (.inl rfl)))
   . exact h.ld_f hf g
theorem Kr.has_eq (h:Kr U xb S m M) {f:Nat→Nat→Bool} (hf:Ff U xb f) (a b:Int):ai a b (U:Int) S (some m) (some ((S.length:Int),M))=some (aq f a b,S,some m,some ((S.length:Int),M)):=by
 have hi:=h.f_iff hf a b
 have no:¬ (((0≤a∧a < (U:Int))∧0≤b∧b < (U:Int))∧(a=b∨a=0∨ldP S M a 0∨ldP S M a b))→aq f a b=false:=fun k=>Bool.eq_false_iff.2 (fun e=>k (hi.1 e))
 unfold ai
 rw [gt]
 simp only [Option.bind_some]
 by_cases h1:0≤a∧a < (U:Int)
 . rw [decide_eq_true h1,cond_true,gt]
   simp only [Option.bind_some]
   by_cases h2:0≤b∧b < (U:Int)
   . rw [decide_eq_true h2,cond_true]
     by_cases h3:a=b
     . rw [decide_eq_true h3,cond_true,hi.2 ⟨⟨h1,h2⟩,.inl h3⟩]
     . rw [decide_eq_false h3,cond_false]
       obtain ⟨t,e,k⟩:=h.all_eq a
       rw [e]
       simp only [Option.bind_some]
       cases t with
       | true =>
         have k:=k.1 rfl
         rw [cond_true,hi.2 ⟨⟨h1,h2⟩,.inr (k.imp id .inl)⟩]
       | false =>
         obtain ⟨t2,e2,k2⟩:=h.leads_eq a b
         rw [cond_false,e2]
         simp only [Option.bind_some]
         cases t2 with
         | true=>rw [hi.2 ⟨⟨h1,h2⟩,.inr (.inr (.inr (k2.1 rfl)))⟩]
         | false =>
           rw [no]
           rintro ⟨_,g | g | g | g⟩
           . exact h3 g
           . exact absurd (k.2 (.inl g)) (by simp)
           . exact absurd (k.2 (.inr g)) (by simp)
           . exact absurd (k2.2 g) (by simp)
   . rw [decide_eq_false h2,cond_false,no (fun g=>h2 g.1.2)]
 . rw [decide_eq_false h1,cond_false,no (fun g=>h1 g.1.1)]
end
theorem ul {L:List Nat} {q:Int}:q∈liN L↔0≤q∧q.toNat∈L:=by
 unfold liN
 rw [List.mem_map]
 constructor
 . rintro ⟨k,hk,rfl⟩; exact ⟨Int.natCast_nonneg k,hk⟩
 . rintro ⟨h0,h⟩; exact ⟨q.toNat,h,Int.toNat_of_nonneg h0⟩
theorem ug (n:Nat) (f:Nat→Bool):(liN (ar n f)).Pairwise (· < ·):=by
 unfold liN ar
 rw [List.pairwise_map]
 exact (List.Pairwise.filter f (List.pairwise_lt_range (n:=n))).imp (fun h=>by show Int.ofNat _ < Int.ofNat _; simpa using h)
theorem ve (U:Nat) (hU:U≤65536):loop (gV (U:Int)) ([],0)=some (liN (List.range U)):=by
 refine cT (fun k=>(liN (List.range k),(k:Int))) U ?_ ?_
 . intro k hk
   unfold gV
   dsimp only
   rw [dlt hk,cond_true,dB (by unfold liN; simp; omega)]
   simp only [Option.bind_some,aZ hk (by omega:U≤9223372036854775807)]
   rw [List.range_succ]; unfold liN; simp
 . unfold gV
   dsimp only
   rw [dge (by omega),cond_false]
theorem vA {S:List Int} (hS:S.length≤65536) {L:List Nat} (hL:∀ j∈L,j < S.length) (hl:L.length≤65536):loop (ej S (liN L)) ([],0)=some (L.map fun j=>S.getD j 0):=by
 have:=cT (body:=ej S (liN L)) (b:=L.map fun j=>S.getD j 0) (fun k=>((L.take k).map (fun j=>S.getD j 0),(k:Int))) L.length ?_ ?_
 . simpa using this
 . intro k hk
   unfold ej
   dsimp only
   have e:(liN L).length=L.length:=by unfold liN; simp
   have e2:ah (liN L) (k:Int)=some ((L[k]:Nat):Int):=by
     rw [be (by rw [e]; exact hk)]; unfold liN; simp
   have hj:L[k] < S.length:=hL _ (List.getElem_mem hk)
   rw [e,dlt hk,cond_true,e2]
   simp only [Option.bind_some]
   rw [be hj]
   simp only [Option.bind_some]
   rw [dB (by simp; omega)]
   simp only [Option.bind_some,aZ hk (by omega:L.length≤9223372036854775807)]
   rw [List.take_succ_eq_append_getElem hk,List.map_append,List.map_cons,List.map_nil,List.getD_eq_getElem?_getD,List.getElem?_eq_getElem hj]; rfl
 . unfold ej
   dsimp only
   have e:(liN L).length=L.length:=by unfold liN; simp
   rw [e,dge (by omega),cond_false,List.take_length]
theorem Kr.subs_eq {U:Nat} {xb:List (Int×Int)} {S:List Int} {m:List (Int×Int)} {M:MX} (h:Kr U xb S m M) (hU:U≤65536) {f:Nat→Nat→Bool} (hf:Ff U xb f) (a:Int):bJ a (U:Int) S (some m) (some ((S.length:Int),M))=some (liN (ar U fun b=>aq f a b),S,some m,some ((S.length:Int),M)):=by
 have hi:=h.f_iff hf a
 unfold bJ
 rw [gt]
 simp only [Option.bind_some]
 have hN:=h.mx.hN
 by_cases h1:0≤a∧a < (U:Int)
 . rw [decide_eq_true h1,Bool.not_true,cond_false]
   obtain ⟨t,e,k⟩:=h.all_eq a
   rw [e]
   simp only [Option.bind_some]
   cases t with
   | true =>
     have k:=k.1 rfl
     rw [cond_true,ve U hU]
     simp only [Option.bind_some]
     have:ar U (fun b=>aq f a b)=List.range U:=by
       unfold ar
       rw [List.filter_eq_self]
       intro b hb
       rw [List.mem_range] at hb
       exact (hi _).2 ⟨⟨h1,by omega,by omega⟩,.inr (k.imp id .inl)⟩
     rw [this]
   | false =>
     rw [cond_false]
     have key:∃ L:List Int,(cond ((aF a m 0).isSome) ((fT (some ((S.length:Int),M)) (aM a m)).bind fun l1826=>(loop (ej S l1826) ([],0):Option (List Int)).bind fun l1999=>some (l1999)) (some ([])):Option (List Int))=some L∧L.length≤65536∧∀ q,q∈L↔ldP S M a q:=by
       rw [mfS]
       by_cases ha:a∈S
       . rw [decide_eq_true ((h.key a).2 ha),cond_true]
         obtain ⟨i,i1,i2⟩:=h.idx ha
         rw [i2,u9 h.mx]
         simp only [Option.bind_some,Int.toNat_natCast]
         have e0:decide (0≤(i:Int))=true:=by simp
         rw [e0]
         simp only [Bool.true_and]
         have le:=eW S.length (fun c=>has M i c)
         have lt:∀ j∈ar S.length (fun c=>has M i c),j < S.length:=fun j hj=>List.mem_range.1 (List.mem_filter.1 hj).1
         rw [vA hN lt (by omega)]
         refine ⟨_,rfl,by rw [List.length_map]; omega,fun q=>?_⟩
         rw [List.mem_map]
         constructor
         . rintro ⟨j,j1,rfl⟩
           refine ⟨i,j,i1,?_,(List.mem_filter.1 j1).2⟩
           rw [List.getD_eq_getElem?_getD,List.getElem?_eq_getElem (lt j j1)]; rfl
         . rintro ⟨i',j,k1,k2,k3⟩
           obtain rfl:=h.uniq i1 k1
           obtain ⟨hj,_⟩:=List.getElem?_eq_some_iff.1 k2
           refine ⟨j,List.mem_filter.2 ⟨List.mem_range.2 hj,k3⟩,?_⟩
           rw [List.getD_eq_getElem?_getD,k2]; rfl
       . have:¬ a∈m.map (·.1):=fun k=>ha ((h.key a).1 k)
         rw [decide_eq_false this,cond_false]
         exact ⟨[],rfl,by simp,fun q=>⟨fun k=>(by cases k),fun ⟨i,j,k1,k2,_⟩=>absurd (List.mem_of_getElem? k1) ha⟩⟩
     obtain ⟨L,l1,l2,l3⟩:=key
     rw [l1]
     simp only [Option.bind_some]
     rw [dB (by simp; omega)]
     obtain ⟨Z,z1,z2,z3⟩:=pM (L:=L++[a]) (by simp; omega)
     simp only [Option.bind_some,z1,jS]
     obtain ⟨c1,c2⟩:=rF z2
     have:Lib.compact Z=liN (ar U fun b=>aq f a b):=ko c1 (ug _ _) (fun q=>by
       rw [c2,z3.mem_iff,List.mem_append,List.mem_singleton,l3,ul]
       unfold ar
       rw [List.mem_filter,List.mem_range]
       constructor
       . rintro (g | rfl)
         . obtain ⟨_,g1,g2⟩:=h.ld_in g
           refine ⟨g1,by omega,(hi _).2 ⟨⟨h1,by omega,by omega⟩,?_⟩⟩
           rw [Int.toNat_of_nonneg g1]; exact .inr (.inr (.inr g))
         . refine ⟨h1.1,by omega,(hi _).2 ⟨⟨h1,by omega,by omega⟩,?_⟩⟩
           rw [Int.toNat_of_nonneg h1.1]; exact .inl rfl
       . rintro ⟨g1,g2,g3⟩
         have:=((hi _).1 g3).2
         rw [Int.toNat_of_nonneg g1] at this
         rcases this with g | g | g | g
         . exact .inr g.symm
         . exact absurd (k.2 (.inl g)) (by simp)
         . exact absurd (k.2 (.inr g)) (by simp)
         . exact .inl g)
     rw [this]
 . rw [decide_eq_false h1,Bool.not_false,cond_true]
   have:ar U (fun b=>aq f a b)=[]:=by
     unfold ar
     rw [List.filter_eq_nil_iff]
     intro b hb k
     exact h1 ((hi _).1 k).1.1
   rw [this]; rfl
end
section
structure KOK (U:Nat) (S:List Int) (m:Option (List (Int×Int))) (x:Option (Int×MX)) (f:Nat→Nat→Bool):Prop where
 hU:U≤65536
 has:∀ a b:Int,ai a b (U:Int) S m x=some (aq f a b,S,m,x)
 subs:∀ a:Int,bJ a (U:Int) S m x=some (liN (ar U fun b=>aq f a b),S,m,x)
 lt:∀ {a b},f a b=true→a < U∧b < U
theorem qU {U:Nat} (hU:U≤65536) {xb:List (Int×Int)} (hb:xb.length≤1000000) {f:Nat→Nat→Bool} (hf:Ff U xb f):∃ S m x,dP (U:Int) xb=some ((U:Int),S,m,x)∧KOK U S m x f:=by
 obtain ⟨S,m,M,e,h⟩:=wI hU hb
 exact ⟨S,some m,_,e,hU,h.has_eq hf,h.subs_eq hU hf,hf.lt⟩
theorem sU (k:Nat) (f:Nat→Bool):ar (k + 1) f=ar k f++if f k then [k] else []:=by
 unfold ar
 rw [List.range_succ,List.filter_append]
 cases h:f k <;> simp [h]
theorem tY (L:List Nat) (k:Nat):liN (L++[k])=liN L++[(k:Int)]:=by unfold liN; simp
theorem iY (L:List Nat):(liN L).length=L.length:=by unfold liN; simp
section
variable {U:Nat} {S:List Int} {m:Option (List (Int×Int))} {x:Option (Int×MX)} {f:Nat→Nat→Bool}
theorem KOK.hasN (f:Nat→Nat→Bool) (a b:Nat):aq f (a:Int) (b:Int)=f a b:=by unfold aq; simp
theorem KOK.ltI (h:KOK U S m x f) {a b:Int} (k:aq f a b=true):(0≤a∧a < (U:Int))∧0≤b∧b < (U:Int):=by
 unfold aq at k
 simp only [Bool.and_eq_true,decide_eq_true_eq] at k
 obtain ⟨⟨h1,h2⟩,h3⟩:=k
 have:=h.lt h3
 omega
theorem KOK.alike (h:KOK U S m x f) (a b:Int):di a b (U:Int) S m x=some (aq f a b&&aq f b a,S,m,x):=by
 unfold di
 rw [h.has]
 simp only [Option.bind_some,h.has]
 cases aq f a b <;> rfl
theorem KOK.sups (h:KOK U S m x f) (a:Int):aB a (U:Int) S m x=some (liN (ar U fun b=>aq f b a),S,m,x):=by
 unfold aB
 rw [show en (U:Int) S m x=some ((U:Int),S,m,x) from rfl]
 simp only [Option.bind_some]
 have hU:=h.hU
 have:=cT (body:=gX a (U:Int) (U:Int)) (b:=(liN (ar U fun b=>aq f b a),S,m,x)) (fun k=>(liN (ar k fun b=>aq f b a),(k:Int),S,m,x)) U ?_ ?_
 . rw [show ((([]:List Int),(0:Int),S,m,x):List Int×Int×List Int×Option (List (Int×Int))×Option (Int×MX))=(liN (ar 0 fun b=>aq f b a),((0:Nat):Int),S,m,x) from rfl,this]
   rfl
 . intro k hk
   unfold gX
   dsimp only
   have:=eW k (fun b=>aq f b a)
   rw [dlt hk,cond_true,h.has,sU]
   simp only [Option.bind_some,aZ hk (by omega:U≤9223372036854775807)]
   cases hk2:aq f (k:Int) a
   . simp
   . rw [cond_true,dB (by rw [iY]; simp; omega)]
     simp only [Option.bind_some,if_true,tY]
 . unfold gX
   dsimp only
   rw [dge (by omega),cond_false]
theorem KOK.all (h:KOK U S m x f) (l:List (Int×Int)) (hl:l.length≤1000000000):mI l (U:Int) S m x=some (l.all fun e=>aq f e.1 e.2,S,m,x):=by
 unfold mI mE mF
 have key:=bx (body:=jW l (U:Int)) (fun s=>∃ k:Nat,k≤l.length∧s=((k:Int),S,m,x)∧∀ e∈l.take k,aq f e.1 e.2=true) (fun s=>l.length - s.1.toNat)
   (Q:=fun r=>(r = .inl (S,m,x)∧(l.all fun e=>aq f e.1 e.2)=true)∨∃ k:Nat,r = .inr ((k:Int),S,m,x)∧(l.all fun e=>aq f e.1 e.2)=false) ?_ (s:=(0,S,m,x)) ⟨0,Nat.zero_le _,rfl,by simp⟩
 . obtain ⟨r,e,h1⟩:=key
   rw [e]
   rcases h1 with ⟨rfl,h1⟩ | ⟨k,rfl,h1⟩
   . rw [h1]; rfl
   . rw [h1]
     simp only [Option.bind_some]
     have:decide (0≤(k:Int))=true:=by simp
     rw [this]; rfl
 . rintro s ⟨k,hk,rfl,hs⟩
   unfold jW
   dsimp only
   by_cases hkl:k < l.length
   . rw [dlt hkl,cond_true,be hkl]
     simp only [Option.bind_some]
     unfold mG
     rw [h.has]
     simp only [Option.bind_some,aZ hkl (by omega:l.length≤9223372036854775807)]
     cases hc:aq f l[k].1 l[k].2 with
     | true =>
       left
       refine ⟨_,rfl,⟨k + 1,hkl,rfl,fun e he=>?_⟩,by dsimp only; rw [Int.toNat_natCast,Int.toNat_natCast]; omega⟩
       rw [kB hkl,List.mem_append,List.mem_singleton] at he
       rcases he with he | rfl
       . exact hs e he
       . exact hc
     | false =>
       right
       refine ⟨_,rfl,.inr ⟨k,rfl,?_⟩⟩
       rw [List.all_eq_false]
       exact ⟨l[k],List.getElem_mem hkl,by rw [hc]; simp⟩
   . right
     rw [dge hkl,cond_false]
     rw [List.take_of_length_le (by omega)] at hs
     exact ⟨_,rfl,.inl ⟨rfl,List.all_eq_true.2 hs⟩⟩
def bR (U:Nat) (f:Nat→Nat→Bool) (s:Nat):List (Int×Int):=((List.range U).filter fun b=>!decide (b=s)&&f s b).map fun b:Nat=>((s:Int),(b:Int))
def bL (U:Nat) (f:Nat→Nat→Bool) (k:Nat):List (Int×Int):=(List.range k).flatMap fun s=>if s=0 then [] else bR U f s
theorem wl (U:Nat) (f:Nat→Nat→Bool) (s:Nat):(bR U f s).length≤U:=by
 unfold bR; rw [List.length_map]; exact fZ _ _
theorem pj (U:Nat) (f:Nat→Nat→Bool) (k:Nat):bL U f (k + 1)=bL U f k++if k=0 then [] else bR U f k:=by
 unfold bL; rw [List.range_succ,List.flatMap_append]; simp
theorem pP (U:Nat) (f:Nat→Nat→Bool):∀ k,(bL U f k).length≤k * U
 | 0=>by simp [bL]
 | k + 1=>by
   rw [pj,List.length_append,Nat.succ_mul]
   have:=pP U f k
   have:=wl U f k
   split <;> simp <;> omega
theorem vM {U:Nat} (hU:U≤1000) (f:Nat→Nat→Bool) (s:Nat) (c0:List (Int×Int)) (hc:c0.length≤100000000):loop (fI (s:Int) (liN (ar U (f s)))) (c0,0)=some (c0++bR U f s):=by
 have hle:=eW U (f s)
 have e:=iY (ar U (f s))
 have:=cT (body:=fI (s:Int) (liN (ar U (f s)))) (b:=c0++bR U f s) (fun k=>(c0++(((ar U (f s)).take k).filter fun b=>!decide (b=s)).map fun b:Nat=>((s:Int),(b:Int)),(k:Int))) (ar U (f s)).length ?_ ?_
 . simpa using this
 . intro k hk
   unfold fI
   dsimp only
   have e2:ah (liN (ar U (f s))) (k:Int)=some (((ar U (f s))[k]:Nat):Int):=by
     rw [be (by rw [e]; exact hk)]; unfold liN; simp
   rw [e,dlt hk,cond_true,e2,kB hk,List.filter_append,List.map_append]
   simp only [Option.bind_some,aZ hk (by omega:(ar U (f s)).length≤9223372036854775807)]
   by_cases q:(ar U (f s))[k]=s
   . have q2:(((ar U (f s))[k]:Nat):Int)=(s:Int):=by rw [q]
     rw [decide_eq_true q2,Bool.not_true,cond_false]
     simp [q]
   . have q2:¬ (((ar U (f s))[k]:Nat):Int)=(s:Int):=by omega
     have l1:((((ar U (f s)).take k).filter fun b=>!decide (b=s)).map fun b:Nat=>((s:Int),(b:Int))).length≤U:=by
       rw [List.length_map]
       refine Nat.le_trans (List.length_filter_le _ _) ?_
       rw [List.length_take]; omega
     rw [decide_eq_false q2,Bool.not_false,cond_true,dB (by rw [List.length_append]; simp only [List.length_singleton]; omega)]
     simp [q]
 . unfold fI
   dsimp only
   rw [e,dge (by omega),cond_false,List.take_length]
   unfold bR ar
   rw [List.filter_filter]
theorem KOK.bounds (h:KOK U S m x f) (hU:U≤1000):g9 (U:Int) S m x=some (bL U f U,S,m,x):=by
 unfold g9
 have key:=bx (body:=jX (U:Int)) (fun s=>∃ k:Nat,1≤k∧k≤U + 1∧s=(bL U f k,(k:Int),S,m,x)∧(k=U + 1→U=0)) (fun s=>U + 1 - s.2.1.toNat) (Q:=fun r=>r=(bL U f U,S,m,x)) ?_ (s:=([],1,S,m,x)) ⟨1,Nat.le_refl _,by omega,rfl,fun e=>by omega⟩
 . obtain ⟨r,e,rfl⟩:=key
   rw [e]; rfl
 . rintro s ⟨k,k1,k2,rfl,k3⟩
   unfold jX
   dsimp only
   rw [show en (U:Int) S m x=some ((U:Int),S,m,x) from rfl]
   simp only [Option.bind_some]
   by_cases hk:k < U
   . left
     have b1:=pP U f k
     have b2:k * U≤1000 * 1000:=Nat.mul_le_mul (by omega) hU
     rw [dlt hk,cond_true,h.subs]
     simp only [Option.bind_some,aZ hk (by omega:U≤9223372036854775807),KOK.hasN]
     rw [vM hU f k _ (by omega)]
     simp only [Option.bind_some]
     refine ⟨_,rfl,⟨k + 1,by omega,by omega,?_,fun e=>by omega⟩,by dsimp only; rw [Int.toNat_natCast,Int.toNat_natCast]; omega⟩
     rw [pj,if_neg (by omega)]
   . right
     rw [dge hk,cond_false]
     refine ⟨_,rfl,?_⟩
     by_cases e:k=U
     . rw [e]
     . have e1:k=U + 1:=by omega
       have e2:=k3 e1
       subst e2; subst e1
       rfl
end
theorem rP (xa xb:List (Int×Int)) (hn:xa.length≤1073741824):ic xa xb=some (decide (xa=xb)):=by
 unfold ic
 by_cases hl:xa.length=xb.length
 . rw [xw hl,cond_false,sr (body:=hZ xa xb) xa xb (.inr false) (.inl ()) hl ?_ ?_]
   . by_cases h:xa=xb <;> simp [h]
   . intro k hk
     have h2:k < xb.length:=by omega
     unfold hZ
     simp only [dlt hk,cond_true,be hk,be h2,Option.bind_some,aZ hk (by omega:xa.length≤9223372036854775807)]
     generalize xa[k]=a
     generalize xb[k]=b
     obtain ⟨a1,a2⟩:=a
     obtain ⟨b1,b2⟩:=b
     by_cases q:a1=b1 <;> by_cases q2:a2=b2 <;> simp [q,q2]
   . simp [hZ]
 . rw [wD hl,cond_true]
   have:¬ xa=xb:=fun h=>hl (by rw [h])
   simp [this]
end
set_option maxRecDepth 20000
section
def fq (a b:Nat):Bool:=decide (a≤b∧b < 4)
theorem wm {f:Nat→Nat→Bool} (hf:Ff 4 [(1,2),(2,3)] f):f=fq:=by
 funext a b
 unfold fq
 rw [Bool.eq_iff_iff,decide_eq_true_eq]
 constructor
 . intro h
   refine ⟨?_,(hf.lt h).2⟩
   refine hf.least (fun p q=>p≤q) (fun p q r h1 h2=>Nat.le_trans h1 h2) (fun p q _ _ h=>?_) h
   rcases h with h | h | h
   . omega
   . omega
   . simp only [List.mem_cons,Prod.mk.injEq,List.not_mem_nil,or_false] at h
     omega
 . rintro ⟨h1,h2⟩
   have i12:f 1 2=true:=hf.ini (by omega) (by omega) (.inr (.inr (by simp)))
   have i23:f 2 3=true:=hf.ini (by omega) (by omega) (.inr (.inr (by simp)))
   have:a=0∨a=b∨(a=1∧b=2)∨(a=2∧b=3)∨(a=1∧b=3):=by omega
   rcases this with h | h | ⟨rfl,rfl⟩ | ⟨rfl,rfl⟩ | ⟨rfl,rfl⟩
   . exact hf.ini (by omega) h2 (.inr (.inl h))
   . exact hf.ini (by omega) h2 (.inl h)
   . exact i12
   . exact i23
   . exact hf.cl i12 i23
theorem nt:az=some true:=by
 unfold az
 obtain ⟨M,_,_,hf⟩:=pW (U:=4) (by omega) [(1,2),(2,3)] (by simp)
 rw [wm hf] at hf
 obtain ⟨S,m,x,e,h⟩:=qU (U:=4) (by omega) (xb:=[(1,2),(2,3)]) (by simp) hf
 have e:dP 4 [(1,2),(2,3)]=some (((4:Nat):Int),S,m,x):=e
 have v1:aq fq 1 3=true:=by decide
 have v2:aq fq 3 1=false:=by decide
 have v3:aq fq 0 3=true:=by decide
 have v4:bL 4 fq 4=[(1,2),(1,3),(2,3)]:=by decide
 rw [e]
 simp only [Option.bind_some,h.has,v1,v2,v3,cond_true,Bool.not_false,h.bounds (by omega:(4:Nat)≤1000),v4]
 rw [rP _ _ (by simp)]
 simp
theorem kX {U:Nat} {xb:List (Int×Int)} {f:Nat→Nat→Bool} (hf:Ff U xb f) {a b c:Int} (h1:aq f a b=true) (h2:aq f b c=true):aq f a c=true:=by
 unfold aq at *
 simp only [Bool.and_eq_true,decide_eq_true_eq] at *
 exact ⟨⟨h1.1.1,h2.1.2⟩,hf.cl h1.2 h2.2⟩
theorem kF {U:Nat} {xb:List (Int×Int)} {f:Nat→Nat→Bool} (hf:Ff U xb f) {a b:Int} (ha:0≤a∧a < (U:Int)) (hb:0≤b∧b < (U:Int)) (h:a=b∨a=0):aq f a b=true:=by
 unfold aq
 simp only [Bool.and_eq_true,decide_eq_true_eq]
 refine ⟨⟨ha.1,hb.1⟩,hf.ini (by omega) (by omega) ?_⟩
 rcases h with h | h
 . exact .inl (by rw [h])
 . exact .inr (.inl (by omega))
theorem rE (xa:Int) (xb:(List (Int×Int))) (xc:Int) (xd:Int) (xe:Int) (k0:Tp.Ok (.int .i64) xa) (k1:Tp.Ok (.sl (.cons (.int .i64) (.one (.int .i64)))) xb) (k2:Tp.Ok (.int .i64) xc) (k3:Tp.Ok (.int .i64) xd) (k4:Tp.Ok (.int .i64) xe):j5 xa xb xc xd xe=some true:=by
 unfold j5
 by_cases g:(((decide (30 < (((xb.length:Nat):Int))))||(decide (xa < 0)))||(decide (12 < xa)))=true
 . rw [g,cond_true,nt]; rfl
 . rw [Bool.eq_false_iff.2 g,cond_false]
   simp only [Bool.or_eq_true,Bool.and_eq_true,decide_eq_true_eq,not_or,not_and] at g
   obtain ⟨⟨g1,g2⟩,g3⟩:=g
   obtain ⟨U,rfl⟩:=Int.eq_ofNat_of_zero_le (a:=xa) (by omega)
   have hU:U≤12:=by omega
   obtain ⟨M,e1,hM,hf⟩:=pW (U:=U) (by omega) xb (by omega)
   obtain ⟨S,m,x,e2,h⟩:=qU (U:=U) (by omega) (xb:=xb) (by omega) hf
   generalize f31 M=f at hf h
   rw [e2]
   have t1:=fun p q=>kX (a:=xc) (b:=xd) (c:=xe) hf p q
   have t2:=fun p q=>kX (a:=xe) (b:=xd) (c:=xc) hf p q
   have haa:aq f xc xc=((decide (0≤xc))&&(decide (xc < (U:Int)))):=by
     rw [Bool.eq_iff_iff,Bool.and_eq_true,decide_eq_true_eq,decide_eq_true_eq]
     exact ⟨fun k=>(h.ltI k).1,fun k=>kF hf k k (.inl rfl)⟩
   have h0a:((decide (0≤xc))&&(decide (xc < (U:Int))))=true→aq f 0 xc=true:=fun k=>by
     rw [Bool.and_eq_true,decide_eq_true_eq,decide_eq_true_eq] at k
     exact kF hf ⟨by omega,by omega⟩ k (.inr rfl)
   have hs:aq f xc 0=true→(((liN (ar U fun b=>aq f xc b)).length:Nat):Int)=(U:Int):=fun k=>by
     have hr:ar U (fun b=>aq f xc b)=List.range U:=by
       unfold ar
       rw [List.filter_eq_self]
       intro b hb
       rw [List.mem_range] at hb
       have:=(h.ltI k).2
       exact kX hf k (kF hf ⟨by omega,by omega⟩ ⟨by omega,by omega⟩ (.inr rfl))
     rw [hr,iY,List.length_range]
   have hp:(((liN (ar U fun b=>aq f b xc)).length:Nat):Int)≤(U:Int):=by
     rw [iY]
     have:=eW U fun b=>aq f b xc
     omega
   simp only [Option.bind_some,h.alike,h.has,h.subs,h.sups,nt,decide_eq_true hp,cond_true]
   rw [haa]
   generalize ((decide (0≤xc))&&(decide (xc < (U:Int))))=inn at h0a
   generalize (((liN (ar U fun b=>aq f xc b)).length:Nat):Int)=ls at hs
   generalize aq f xc xd=ab at *
   generalize aq f xd xc=ba at *
   generalize aq f xd xe=bc at *
   generalize aq f xe xd=cb at *
   generalize aq f xc xe=ac at *
   generalize aq f xe xc=ca at *
   generalize aq f xc 0=a0 at *
   generalize aq f 0 xc=za at *
   clear e1 e2 hM hf h hp haa k0 k1 k2 k3 k4
   cases ab <;> cases ba <;> cases bc <;> cases cb <;> cases ac <;> cases ca <;> simp_all <;> cases a0 <;> cases inn <;> simp_all
section
variable {U:Nat} {S S2 S3:List Int} {m m2 m3:Option (List (Int×Int))} {x x2 x3:Option (Int×MX)} {f f3:Nat→Nat→Bool}
end
end
theorem rD {H:Type} (enc:TypeId×Value→H) (W:World) (base:Nat) {v0 v1 v2 v3 v4:Value} {d0 d1 d2 d3 d4:DataW H} {p0 p1 p2 p3 p4:List MemPlace}
   (h0:DataW.Trod enc Tryd.prog W 0 (fun _=>true) true 3 v0 d0 p0) (h1:DataW.Trod enc Tryd.prog W 0 (fun _=>true) true 22 v1 d1 p1) (h2:DataW.Trod enc Tryd.prog W 0 (fun _=>true) true 3 v2 d2 p2) (h3:DataW.Trod enc Tryd.prog W 0 (fun _=>true) true 3 v3 d3 p3) (h4:DataW.Trod enc Tryd.prog W 0 (fun _=>true) true 3 v4 d4 p4)
   (o0:Value.okWide Tryd.prog W .any base 3 v0) (o1:Value.okWide Tryd.prog W .any base 22 v1) (o2:Value.okWide Tryd.prog W .any base 3 v2) (o3:Value.okWide Tryd.prog W .any base 3 v3) (o4:Value.okWide Tryd.prog W .any base 3 v4)
   (hgk:tzGk (Hp.of W)) :
   Calls Tryd.prog 5 #[v0,v1,v2,v3,v4] W fun e W'=>e = .returned (.bool true)∧Below W.heap.size W W':=by
 obtain ⟨xa,i0,k0⟩:=Tp.arg (.int .i64) (by kernel_rfl) o0 h0
 obtain ⟨xb,i1,k1⟩:=Tp.arg (.sl (.cons (.int .i64) (.one (.int .i64)))) (by kernel_rfl) o1 h1
 obtain ⟨xc,i2,k2⟩:=Tp.arg (.int .i64) (by kernel_rfl) o2 h2
 obtain ⟨xd,i3,k3⟩:=Tp.arg (.int .i64) (by kernel_rfl) o3 h3
 obtain ⟨xe,i4,k4⟩:=Tp.arg (.int .i64) (by kernel_rfl) o4 h4
 exact wq (s:=mM) (x:=(xa,xb,xc,xd,xe)) (args:=[v0,v1,v2,v3,v4]) rk (rE xa xb xc xd xe k0 k1 k2 k3 k4) hgk rfl rfl ⟨_,_,rfl,fg _ i0,_,_,rfl,fg _ i1,_,_,rfl,fg _ i2,_,_,rfl,fg _ i3,_,_,rfl,fg _ i4,rfl⟩
theorem we:∀ j,j < 64→(Lib.deBruijn64tab.map Int.ofNat).getD j 0=((Lib.deBruijn64tab.getD j 0:Nat):Int):=by decide +kernel
theorem vn {W : World} {rest : List (String × DataW Unit)} (h : laidMet Tryd.prog (("math/bits.deBruijn64tab", Rows.laid_math_bits_deBruijn64tab) :: rest) W) : tzGk (Hp.of W) := by
 have hg : Tryd.prog.globalNamed "math/bits.deBruijn64tab" = some 0 := by kernel_rfl
 have hT : Lib.TabIs Tryd.prog W "math/bits.deBruijn64tab" .u8 (Lib.deBruijn64tab.map Int.ofNat) :=
   Lib.tabIs_of_head (t:=98) (e:=5) (n:=64) hg (by kernel_rfl) (by kernel_rfl) (by kernel_rfl) (by kernel_rfl) (by kernel_rfl) h
 intro j hj
 rw [← we j hj]
 exact oP (hT.cell hg j (by simpa [Lib.deBruijn64tab] using hj))
end
end Go.Proofs.YtdjcapgpjpadeaaDoor
namespace Go.Proofs.YtdjcapgpjpadeaaDoor.declAlikeFrame
set_option maxRecDepth 40000
open Go.ChangeShapes Go.WideShapes Go.ChangeAt Go.RowKit
theorem own:ownKnob Tryd.prog.godebug=none:=by kernel_rfl
theorem oB (H:Type) (enc:TypeId×Value→H) (W:World) (base:Nat) (args:Array Value) (ds gs:List (DataW H)) (before:List MemPlace)
    (hval:∀ (j:Nat) t v,Tryd.f5.params[j]? = some t→args[j]? = some v→Value.okWide Tryd.prog W .any base t v)
    (hW:DataW.Whole enc Tryd.prog Tryd.f5.params.toList Rows.declAlikeSpec.vars false W args.toList ds gs before) (hgk:tzGk (Hp.of W)) :
    Calls Tryd.prog 5 args W fun e W'=>∃ v,e = .returned v∧Rows.declAlikeSpec.post enc Tryd.prog Tryd.f5 false true false false W args v W':=by
  have hW':=hW
  obtain ⟨p,q,hA0,hV,rfl,hfz,hnd⟩:=hW
  have hA:DataW.TrodAll enc Tryd.prog W 0 (fun _=>true) true Tryd.f5.params.toList args.toList ds p:=hA0
  rw [Tryd.params5] at hA hval
  obtain ⟨v0,vs0,d0,ds0,p0,q0,hargs,rfl,rfl,h0,r0⟩:=trodAll_cons hA
  obtain ⟨v1,vs1,d1,ds1,p1,q1,rfl,rfl,rfl,h1,r1⟩:=trodAll_cons r0
  obtain ⟨v2,vs2,d2,ds2,p2,q2,rfl,rfl,rfl,h2,r2⟩:=trodAll_cons r1
  obtain ⟨v3,vs3,d3,ds3,p3,q3,rfl,rfl,rfl,h3,r3⟩:=trodAll_cons r2
  obtain ⟨v4,vs4,d4,ds4,p4,q4,rfl,rfl,rfl,h4,r4⟩:=trodAll_cons r3
  obtain ⟨rfl,rfl,rfl⟩:=trodAll_nil r4
  obtain rfl:args = #[v0,v1,v2,v3,v4]:=by cases args; simp_all
  refine (rD enc W base h0 h1 h2 h3 h4 (hval 0 _ v0 rfl rfl) (hval 1 _ v1 rfl rfl) (hval 2 _ v2 rfl rfl) (hval 3 _ v3 rfl rfl) (hval 4 _ v4 rfl rfl) hgk).mono fun e W' ⟨he,hb⟩=>?_
  subst he
  exact ⟨_,rfl,tJ (tb:=_) rfl hW' rfl rfl (by kernel_rfl) (by kernel_rfl) (of_decide_eq_true (by kernel_rfl)) hb⟩
noncomputable def qy (os:Os):World:=World.laidAll Tryd.prog os Rows.declAlikeRow.laid
theorem qt (os:Os) {H:Type} (enc:TypeId×Value→H):∃ x,DataW.whole enc Tryd.prog ((qy os).forCall (fun _ _=>0) ⟨#[],#[.int .i64 0,.slice none 0 0,.int .i64 0,.int .i64 0,.int .i64 0],[]⟩).memory Tryd.f5.params.toList Rows.declAlikeSpec.vars false (#[.int .i64 0,.slice none 0 0,.int .i64 0,.int .i64 0,.int .i64 0]:Array Value).toList 8=some x :=
  Option.isSome_iff_exists.1 (by kernel_rfl)
set_option maxRecDepth 100000 in
theorem wo (os:Os) (started:os.Started) (H:Type) (enc:TypeId×Value→H) (F:Stop.Interp) :
    ReturnsInHanded {} Tryd.checked os 5 .any ((OpenSpec.ofChange Rows.declAlikeSpec).preRow enc Tryd.prog Tryd.f5 Rows.declAlikeRow.domain false Rows.declAlikeRow.laid) (((OpenSpec.ofChange Rows.declAlikeSpec).at F).post enc Tryd.prog Tryd.f5 false true false false):=by
  obtain ⟨x,hx⟩:=qt os enc
  refine returnsInHanded_of_row (C:=Tryd.checked) (s:=OpenSpec.ofChange Rows.declAlikeSpec) own started (by kernel_rfl) Tryd.func5
    ⟨qy os,fun _ _=>0,⟨#[],#[.int .i64 0,.slice none 0 0,.int .i64 0,.int .i64 0,.int .i64 0],[]⟩,World.laidAll_os _ _ _,World.shaped_of_ZipB (by kernel_rfl) (by kernel_rfl),rfl,(Input.okWide_of_okWideB (by kernel_rfl)).2,
      OpenSpec.preRow_of_cond 8 hx (by kernel_rfl) (fun k hk=>by cases hk) (by kernel_rfl) (by rw [MakeChecks.laidMetH_plain _ _ _ (by kernel_rfl)]; exact laidMet_laidAll _ (by kernel_rfl) (by kernel_rfl)),
      by simp only [Assume.holds]; exact ⟨by simp,by simp,by simp,by simp,by simp⟩⟩ ?_
  intro W base args ds gs before hval hW _ _ _ hL _ _
  exact oB H enc W base args ds gs before hval hW (vn (rest:=[]) (by rw [MakeChecks.laidMetH_plain _ _ _ (by kernel_rfl)] at hL; exact hL))
theorem vK:Rows.DeclAlikeSaid :=
  OpenClaim.holds_of_cond 5 Tryd.f5 rfl rfl rfl rfl rfl rfl rfl ⟨rfl,rfl,rfl,rfl,rfl⟩ rfl rfl rfl rfl rfl (by kernel_rfl) Tryd.func5 (by kernel_rfl)
    (of_decide_eq_true (by kernel_rfl)) (by unfold Func.isWrapper; first | (rw [if_pos (by decide +kernel)]; kernel_rfl) | (rw [if_neg (by decide +kernel)]; exact ⟨rfl,rfl⟩))
    (fun os started H enc _ F=>by rw [OpenClaim.pre_eq_preRow]; exact wo os started H enc F)
theorem card:Rows.DeclAlikeCardSaid :=
  Claim7.holds_tied_plain_at .later [] [.data] true (true, "cff4440a208ff8a3b042a5945bde47ded1e6b5f250cae28a4c58b266efaa0e7b") false vK (fun _ h => by cases h) (by kernel_rfl) (fun _ h => by cases h) declAlike_row_tie rfl ⟨rfl, rfl⟩ (by kernel_rfl) rfl
    (fun f fn hf hfn=>by
      obtain rfl : f = 5 := Option.some.inj ((show Tryd.prog.funcNamed "easement/easementlaw31.DeclAlike" = some 5 by kernel_rfl).symm.trans hf) |>.symm
      obtain rfl:fn=Tryd.f5:=(Option.some.inj (Tryd.func5.symm.trans hfn)).symm
      exact ⟨by kernel_rfl,fun j t ht=>by
        rw [Tryd.params5] at ht
        have hm:t∈[3,22,3,3,3]:=by simpa using Array.mem_of_getElem? ht
        have hall:([3,22,3,3,3].all fun u=>!Tryd.prog.wantsStandIn u)=true:=by kernel_rfl
        exact (show Tryd.prog.wantsStandIn t=false by simpa using List.all_eq_true.1 hall t hm)⟩)
    (by kernel_rfl)
end Go.Proofs.YtdjcapgpjpadeaaDoor.declAlikeFrame
