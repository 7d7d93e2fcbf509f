/- 'easement/easementlaw31.DeclTells' returns true for every input, and each argument qQ afterwards as it read before: the row's frame round the walk. -/
import Derived.Test.YtdjcapgpjpadeaaDoorZ4
import Derived.Lib.RowBridge
import Derived.Test.YtdjcapgpjpadeaaDoorRows
import Derived.Lib.LaidTab
import Derived.Test.YtdjcapgpjpadeaaDoorCards
import Derived.Test.YtdjcapgpjpadeaaDoorTie
import Derived.Lay
import Derived.SevenTiedAt
namespace Go.Proofs.YtdjcapgpjpadeaaDoor
noncomputable section
set_option linter.unusedVariables false
section
theorem dlt {k n:Nat} (h:k < n):decide ((k:Int) < (n:Int))=true:=by simp; omega
theorem dge {k n:Nat} (h:¬ k < n):decide ((k:Int) < (n:Int))=false:=by simp; omega
section
variable {α β γ σ:Type}
theorem m8 {body:Int→Option (Int⊕β)} (xa:List α) (t:α→Bool) (hit:Nat→β) (e:β) (hb:∀ (k:Nat) (h:k < xa.length),body (k:Int)=some (if t xa[k] then .inr (hit k) else .inl ((k + 1:Nat):Int))) (he:body (xa.length:Int)=some (.inr e)) :
   loop body 0=some (match xa.findIdx? t with | some k=>hit k | none=>e):=by
 rcases tJ (fun k=>∃ h:k < xa.length,t xa[k]=true) (fun k:Nat=>(k:Int)) xa.length hit e (fun k hk hp=>by
     rw [hb k hk,if_neg (fun h=>hp ⟨hk,h⟩)]) (fun k hk ⟨_,hp⟩=>by rw [hb k hk,if_pos hp]) he with ⟨k,h1,⟨_,h2⟩,h3,h4⟩ | ⟨h1,h2⟩
 . rw [show ((0:Int))=((0:Nat):Int) from rfl,h4]
   have:xa.findIdx? t=some k:=by
     rw [List.findIdx?_eq_some_iff_getElem]
     exact ⟨h1,h2,fun j hj=>fun hc=>h3 j hj ⟨by omega,by simpa using hc⟩⟩
   rw [this]
 . rw [show ((0:Int))=((0:Nat):Int) from rfl,h2]
   have:xa.findIdx? t=none:=by
     rw [List.findIdx?_eq_none_iff]
     intro x hx
     obtain ⟨k,hk,rfl⟩:=List.getElem_of_mem hx
     cases hc:t xa[k] with
     | false=>rfl
     | true=>exact absurd ⟨hk,hc⟩ (h1 k hk)
   rw [this]
theorem tB {body:Int→Option (Int⊕β)} (xa:List α) (t:α→Bool) (hit e:β) (hb:∀ (k:Nat) (h:k < xa.length),body (k:Int)=some (if t xa[k] then .inr hit else .inl ((k + 1:Nat):Int))) (he:body (xa.length:Int)=some (.inr e)) :
   loop body 0=some (if xa.any t then hit else e):=by
 rw [m8 xa t (fun _=>hit) e hb he]
 cases h:xa.findIdx? t with
 | none =>
   have:xa.any t=false:=by
     rw [List.any_eq_false]; intro x hx; have:=List.findIdx?_eq_none_iff.1 h x hx; simp [this]
   rw [this]; rfl
 | some k =>
   obtain ⟨hk,h1,_⟩:=List.findIdx?_eq_some_iff_getElem.1 h
   have:xa.any t=true:=List.any_eq_true.2 ⟨_,List.getElem_mem hk,h1⟩
   rw [this]; rfl
theorem nF [DecidableEq α] {body:Int→Option (Int⊕β)} (xa xb:List α) (hit e:β) (hl:xa.length=xb.length) (hb:∀ (k:Nat) (h:k < xa.length),body (k:Int)=some (if xa[k]=(xb[k]'(by omega)) then .inl ((k + 1:Nat):Int) else .inr hit)) (he:body (xa.length:Int)=some (.inr e)) :
   loop body 0=some (if xa=xb then e else hit):=by
 rw [m8 (List.range xa.length) (fun k=>decide (xa[k]?≠xb[k]?)) (fun _=>hit) e (fun k h=>by
     simp at h
     rw [hb k h]
     have h2:k < xb.length:=by omega
     by_cases hq:xa[k]=xb[k] <;> simp [h,h2,hq]) (by simpa using he)]
 by_cases hq:xa=xb
 . subst hq
   have:(List.range xa.length).findIdx? (fun k=>decide (xa[k]?≠xa[k]?))=none:=by rw [List.findIdx?_eq_none_iff]; simp
   rw [this]; simp
 . cases h:(List.range xa.length).findIdx? (fun k=>decide (xa[k]?≠xb[k]?)) with
   | some k=>simp [hq]
   | none =>
     exfalso; apply hq
     rw [List.findIdx?_eq_none_iff] at h
     apply List.ext_getElem?
     intro k
     by_cases hk:k < xa.length
     . simpa using h k (List.mem_range.2 hk)
     . rw [List.getElem?_eq_none (by omega),List.getElem?_eq_none (by omega)]
theorem kF {l:List α} {k:Nat} (h:k < l.length):l.take (k + 1)=l.take k++[l[k]]:=List.take_succ_eq_append_getElem h
theorem ra {a b:Nat} (h:a=b):(!decide ((a:Int)=(b:Int)))=false:=by simp [h]
theorem qE {a b:Nat} (h:¬ a=b):(!decide ((a:Int)=(b:Int)))=true:=by simp; omega
end
end
set_option linter.unusedSimpArgs false
set_option linter.unnecessarySimpa false
open Go.RowKit
def pc:Nat→Nat→Nat
 | 0,_=>0
 | n + 1,x=>(x % 2) + pc n (x / 2)
theorem ga (a b y M:Nat) (ha:a < 256) (hb:b < 256):(a + 256 * y) &&& (b + 256 * M)=(a &&& b) + 256 * (y &&& M):=by
 have h1:a &&& b < 256:=Nat.and_lt_two_pow (n:=8) a hb
 apply Nat.eq_of_testBit_eq
 intro i
 have e:∀ (u v:Nat),u < 256→(u + 256 * v).testBit i=if i < 8 then u.testBit i else v.testBit (i - 8):=fun u v hu=>by
   rw [Nat.add_comm,show 256 * v=2 ^ 8 * v from rfl,Nat.testBit_two_pow_mul_add v (show u < 2 ^ 8 from hu)]
 rw [Nat.testBit_and,e a y ha,e b M hb,e _ _ h1]
 split <;> simp [Nat.testBit_and]
theorem iG (P:Nat→Bool) (h:(List.range 256).all P=true) {a:Nat} (ha:a < 256):P a=true:=List.all_eq_true.1 h a (List.mem_range.2 ha)
def s1 (M x:Nat):Nat:=((x / 2) &&& M) + (x &&& M)
def s2 (M x:Nat):Nat:=((x / 4) &&& M) + (x &&& M)
def s3 (M x:Nat):Nat:=(x / 16 + x) &&& M
theorem tN (a y M:Nat) (ha:a < 256):s1 (85 + 256 * M) (a + 256 * y)=s1 85 a + 256 * s1 M y:=by
 unfold s1
 have h2:(a + 256 * y) / 2=(a / 2 + 128 * (y % 2)) + 256 * (y / 2):=by omega
 have h3:(a / 2 + 128 * (y % 2)) &&& 85=(a / 2) &&& 85:=by
   have h4:y % 2=0∨y % 2=1:=by omega
   rcases h4 with h4 | h4
   . rw [h4]; rfl
   . rw [h4]
     have:=iG (fun a=>decide (((a / 2 + 128 * 1) &&& 85)=((a / 2) &&& 85))) (by decide +kernel) ha
     exact of_decide_eq_true this
 rw [ga a 85 y M ha (by decide),h2,ga _ 85 _ M (by omega) (by decide),h3]
 omega
theorem wm {a:Nat} (ha:a < 256):s1 85 a < 256:=by
 have:=iG (fun a=>decide (s1 85 a < 256)) (by decide +kernel) ha
 exact of_decide_eq_true this
theorem tR (a y M:Nat) (ha:a < 256):s2 (51 + 256 * M) (a + 256 * y)=s2 51 a + 256 * s2 M y:=by
 unfold s2
 have h2:(a + 256 * y) / 4=(a / 4 + 64 * (y % 4)) + 256 * (y / 4):=by omega
 have h3:(a / 4 + 64 * (y % 4)) &&& 51=(a / 4) &&& 51:=by
   have h4:y % 4=0∨y % 4=1∨y % 4=2∨y % 4=3:=by omega
   have:=iG (fun a=>decide (((a / 4 + 64 * 1) &&& 51)=((a / 4) &&& 51)∧((a / 4 + 64 * 2) &&& 51)=((a / 4) &&& 51)∧((a / 4 + 64 * 3) &&& 51)=((a / 4) &&& 51))) (by decide +kernel) ha
   have:=of_decide_eq_true this
   rcases h4 with h4 | h4 | h4 | h4 <;> rw [h4]
   . rfl
   . exact this.1
   . exact this.2.1
   . exact this.2.2
 rw [ga a 51 y M ha (by decide),h2,ga _ 51 _ M (by omega) (by decide),h3]
 omega
theorem pL {a:Nat} (ha:a < 256):((s2 51 (s1 85 a)) / 16 + (s2 51 (s1 85 a)) % 16)=pc 8 a∧(s2 51 (s1 85 a)) % 16≤4∧(s2 51 (s1 85 a)) / 16≤4∧s2 51 (s1 85 a) < 256∧pc 8 a≤8:=by
 have:=iG (fun a=>decide (((s2 51 (s1 85 a)) / 16 + (s2 51 (s1 85 a)) % 16)=pc 8 a∧(s2 51 (s1 85 a)) % 16≤4∧(s2 51 (s1 85 a)) / 16≤4∧s2 51 (s1 85 a) < 256∧pc 8 a≤8)) (by decide +kernel) ha
 exact of_decide_eq_true this
theorem ur (a y M:Nat) (ha:a < 256) (h1:a % 16≤4) (h2:a / 16≤4) (h3:y % 16≤4):s3 (15 + 256 * M) (a + 256 * y)=(a / 16 + a % 16) + 256 * s3 M y:=by
 unfold s3
 have e:(a + 256 * y) / 16 + (a + 256 * y)=(a / 16 + a % 16 + 16 * (a / 16 + y % 16)) + 256 * (y / 16 + y):=by omega
 rw [e,ga _ 15 _ M (by omega) (by decide)]
 have:(a / 16 + a % 16 + 16 * (a / 16 + y % 16)) &&& 15=a / 16 + a % 16:=by
   rw [show (15:Nat)=2 ^ 4 - 1 from rfl,Nat.and_two_pow_sub_one_eq_mod]
   omega
 rw [this]
theorem pU:∀ (n m x:Nat),pc (n + m) x=pc n x + pc m (x / 2 ^ n)
 | 0,m,x=>by simp [pc]
 | n + 1,m,x=>by
   rw [show n + 1 + m=(n + m) + 1 by omega,show pc ((n + m) + 1) x=x % 2 + pc (n + m) (x / 2) from rfl,show pc (n + 1) x=x % 2 + pc n (x / 2) from rfl]
   rw [pU n m,Nat.div_div_eq_div_mul,Nat.pow_succ,Nat.mul_comm 2]
   omega
theorem wy (a y:Nat) (ha:a < 256):pc 8 (a + 256 * y)=pc 8 a:=by
 unfold pc pc pc pc pc pc pc pc pc
 omega
def cS:Nat→Nat→Nat
 | _,0=>0
 | b,n + 1=>b + 256 * cS b n
def pcs:Nat→Nat→Nat
 | 0,_=>0
 | n + 1,x=>pc 8 (x % 256) + 256 * pcs n (x / 256)
theorem wX (n:Nat):∀ x,x < 256 ^ n→s3 (cS 15 n) (s2 (cS 51 n) (s1 (cS 85 n) x))=pcs n x∧(s2 (cS 51 n) (s1 (cS 85 n) x)) % 16≤4:=by
 induction n with
 | zero => intro x hx; have : x = 0 := by simp at hx; omega
           subst this; decide
 | succ n ih =>
   intro x hx
   have hx2:x / 256 < 256 ^ n:=by
     rw [Nat.pow_succ] at hx
     exact Nat.div_lt_of_lt_mul (by rw [Nat.mul_comm]; exact hx)
   obtain ⟨i1,i2⟩:=ih _ hx2
   have ha:x % 256 < 256:=Nat.mod_lt _ (by decide)
   obtain ⟨b1,b2,b3,b4,b5⟩:=pL ha
   have e:x=x % 256 + 256 * (x / 256):=by omega
   unfold cS
   have e1:s1 (85 + 256 * cS 85 n) x=s1 85 (x % 256) + 256 * s1 (cS 85 n) (x / 256):=by
     conv=>lhs; rw [e]
     exact tN _ _ _ ha
   rw [e1,tR _ _ _ (wm ha),ur _ _ _ b4 b2 b3 i2,i1,b1]
   refine ⟨rfl,?_⟩
   omega
theorem u9 (x:Nat) (hx:x < 18446744073709551616):s3 1085102592571150095 (s2 3689348814741910323 (s1 6148914691236517205 x))=pcs 8 x :=
 (wX 8 x hx).1
theorem w8 (x:Nat):∃ p0 p1 p2 p3 p4 p5 p6 p7:Nat,pcs 8 x=p0 + 256 * (p1 + 256 * (p2 + 256 * (p3 + 256 * (p4 + 256 * (p5 + 256 * (p6 + 256 * (p7 + 256 * 0)))))))∧pc 64 x=p0 + p1 + p2 + p3 + p4 + p5 + p6 + p7∧p0≤8∧p1≤8∧p2≤8∧p3≤8∧p4≤8∧p5≤8∧p6≤8∧p7≤8:=by
 have h:∀ y,pc 8 (y % 256)≤8:=fun y=>(pL (Nat.mod_lt y (by decide))).2.2.2.2
 have g:∀ m y,pc (8 + m) y=pc 8 (y % 256) + pc m (y / 256):=fun m y=>by
   rw [pU 8 m]
   congr 1
   conv=>lhs; rw [show y=y % 256 + 256 * (y / 256) by omega]
   exact wy _ _ (Nat.mod_lt _ (by decide))
 refine ⟨_,_,_,_,_,_,_,_,rfl,?_,h _,h _,h _,h _,h _,h _,h _,h _⟩
 rw [show (64:Nat)=8 + (8 + (8 + (8 + (8 + (8 + (8 + (8 + 0))))))) from rfl,g,g,g,g,g,g,g,g]
 simp only [pc]
 omega
theorem dv {k L R x:Nat} (hk:0 < k) (h:x=L + k * R) (hL:L < k):x / k=R:=by
 rw [h,Nat.add_mul_div_left _ _ hk,Nat.div_eq_of_lt hL,Nat.zero_add]
theorem xI {y z u v s:Nat} {p0 p1 p2 p3 p4 p5 p6 p7:Nat} (hy:y=p0 + 256 * (p1 + 256 * (p2 + 256 * (p3 + 256 * (p4 + 256 * (p5 + 256 * (p6 + 256 * (p7 + 256 * 0)))))))) (hs:s=p0 + p1 + p2 + p3 + p4 + p5 + p6 + p7) (h0:p0≤8) (h1:p1≤8) (h2:p2≤8) (h3:p3≤8) (h4:p4≤8) (h5:p5≤8) (h6:p6≤8) (h7:p7≤8)
   (hz:z=y + y / 256) (hu:u=z + z / 65536) (hv:v=u + u / 4294967296):v % 128=s∧v < 9223372036854775808:=by
 have e1:y / 256=p1 + 256 * (p2 + 256 * (p3 + 256 * (p4 + 256 * (p5 + 256 * (p6 + 256 * p7))))):=dv (L:=p0) (by decide) (by rw [hy]; rfl) (by omega)
 rw [e1,hy] at hz
 have e2:z / 65536=(p2 + p3) + 256 * ((p3 + p4) + 256 * ((p4 + p5) + 256 * ((p5 + p6) + 256 * ((p6 + p7) + 256 * p7)))):=dv (L:=(p0 + p1) + 256 * (p1 + p2)) (by decide) (by rw [hz]; clear hz hu hv hy e1; omega) (by clear hz hu hv hy e1; omega)
 rw [e2,hz] at hu
 clear e1 e2 hz hy
 have e3:u / 4294967296=(p4 + p5 + p6 + p7) + 256 * ((p5 + p6 + p7) + 256 * ((p6 + p7) + 256 * p7)):=dv (L:=(p0 + p1 + p2 + p3) + 256 * ((p1 + p2 + p3 + p4) + 256 * ((p2 + p3 + p4 + p5) + 256 * (p3 + p4 + p5 + p6)))) (by decide) (by rw [hu]; clear hu hv; omega) (by clear hu hv; omega)
 rw [e3,hu] at hv
 clear e3 hu
 refine ⟨?_,by omega⟩
 have:v=s + 128 * (2 * ((p1+p2+p3+p4 + (p5+p6+p7)) + 256 * ((p2+p3+p4+p5 + (p6+p7)) + 256 * ((p3+p4+p5+p6 + p7) + 256 * ((p4+p5+p6+p7) + 256 * ((p5+p6+p7) + 256 * ((p6+p7) + 256 * p7))))))):=by rw [hv,hs]; clear hv hs; omega
 rw [this,Nat.add_mul_mod_self_left]
 exact Nat.mod_eq_of_lt (by omega)

def ocA (x m:Int):Int:=IntKind.wrap .u64 ((BitVec.ofInt (IntKind.bits .u64) x &&& BitVec.ofInt (IntKind.bits .u64) m).toNat:Int)
def ocS (x:Int) (k:Nat):Int:=Int.fdiv x (2 ^ (min k (IntKind.bits .u64)))
def oc1 (x:Int):Int:=IntKind.wrap .u64 (ocA (ocS x 1) 6148914691236517205 + ocA x 6148914691236517205)
def oc2 (x:Int):Int:=IntKind.wrap .u64 (ocA (ocS x 2) 3689348814741910323 + ocA x 3689348814741910323)
def oc3 (x:Int):Int:=ocA (IntKind.wrap .u64 (ocS x 4 + x)) 1085102592571150095
def oc4 (x:Int):Int:=IntKind.wrap .u64 (x + ocS x 8)
def oc5 (x:Int):Int:=IntKind.wrap .u64 (x + ocS x 16)
def oc6 (x:Int):Int:=IntKind.wrap .u64 (x + ocS x 32)
theorem tj (x:Int):hZ x=some (IntKind.wrap .i64 ((BitVec.ofInt (IntKind.bits .i64) (IntKind.wrap .i64 (oc6 (oc5 (oc4 (oc3 (oc2 (oc1 x))))))) &&& BitVec.ofInt (IntKind.bits .i64) 127).toNat:Int)):=rfl
theorem gE (x m:Nat) (M:Int) (hM:M=(m:Int)) (hx:x < 18446744073709551616) (hm:m < 18446744073709551616):ocA (x:Int) M=((x &&& m:Nat):Int):=by
 rw [hM]
 exact ri x m hx hm
theorem eZ (x k:Nat) (hk:k < 64):ocS (x:Int) k=((x / 2 ^ k:Nat):Int):=by
 unfold ocS
 have h1:min k (IntKind.bits .u64)=k:=Nat.min_eq_left (Nat.le_of_lt hk)
 have hp:((2:Int) ^ k)=((2 ^ k:Nat):Int):=by simp
 rw [h1,hp,Int.fdiv_eq_ediv_of_nonneg _ (Int.natCast_nonneg _)]
 rfl
theorem du (x m:Nat):x &&& m≤m:=Nat.and_le_right
theorem wI (x:Nat) (hx:x < 18446744073709551616):oc1 (x:Int)=((s1 6148914691236517205 x:Nat):Int):=by
 unfold oc1 s1
 rw [eZ x 1 (by decide),gE (x / 2 ^ 1) 6148914691236517205 6148914691236517205 rfl (by omega) (by decide),gE x 6148914691236517205 6148914691236517205 rfl hx (by decide),← Int.natCast_add]
 have b1:=du (x / 2 ^ 1) 6148914691236517205
 have b2:=du x 6148914691236517205
 exact cg _ (by omega)
theorem wc (x:Nat) (hx:x < 18446744073709551616):oc2 (x:Int)=((s2 3689348814741910323 x:Nat):Int):=by
 unfold oc2 s2
 rw [eZ x 2 (by decide),gE (x / 2 ^ 2) 3689348814741910323 3689348814741910323 rfl (by omega) (by decide),gE x 3689348814741910323 3689348814741910323 rfl hx (by decide),← Int.natCast_add]
 have b1:=du (x / 2 ^ 2) 3689348814741910323
 have b2:=du x 3689348814741910323
 exact cg _ (by omega)
theorem wb (z:Nat) (hz:z≤7378697629483820646):oc3 (z:Int)=((s3 1085102592571150095 z:Nat):Int):=by
 unfold oc3 s3
 rw [eZ z 4 (by decide),← Int.natCast_add,cg _ (by omega),gE _ 1085102592571150095 1085102592571150095 rfl (by omega) (by decide)]
theorem wU (x:Nat):s1 6148914691236517205 x < 18446744073709551616:=by
 have b1:=du (x / 2) 6148914691236517205
 have b2:=du x 6148914691236517205
 unfold s1; omega
theorem wP (x:Nat):s2 3689348814741910323 x≤7378697629483820646:=by
 have b1:=du (x / 4) 3689348814741910323
 have b2:=du x 3689348814741910323
 unfold s2; omega
theorem wn (w:Nat) (h:w + w / 256 < 18446744073709551616):oc4 (w:Int)=((w + w / 256:Nat):Int):=by
 unfold oc4
 rw [eZ w 8 (by decide),← Int.natCast_add]
 exact cg _ h
theorem wh (w:Nat) (h:w + w / 65536 < 18446744073709551616):oc5 (w:Int)=((w + w / 65536:Nat):Int):=by
 unfold oc5
 rw [eZ w 16 (by decide),← Int.natCast_add]
 exact cg _ h
theorem wg (w:Nat) (h:w + w / 4294967296 < 18446744073709551616):oc6 (w:Int)=((w + w / 4294967296:Nat):Int):=by
 unfold oc6
 rw [eZ w 32 (by decide),← Int.natCast_add]
 exact cg _ h
theorem wu (v:Nat) (h:v < 9223372036854775808):IntKind.wrap .i64 ((BitVec.ofInt (IntKind.bits .i64) (IntKind.wrap .i64 (v:Int)) &&& BitVec.ofInt (IntKind.bits .i64) 127).toNat:Int)=((v % 128:Nat):Int):=by
 rw [w64 (x:=(v:Int)) (by omega) (by omega)]
 show IntKind.wrap .i64 ((BitVec.ofInt 64 (v:Int) &&& BitVec.ofInt 64 ((127:Nat):Int)).toNat:Int)=_
 rw [dd,dd,BitVec.toNat_and,BitVec.toNat_ofNat,BitVec.toNat_ofNat,Nat.mod_eq_of_lt (by omega),Nat.mod_eq_of_lt (by decide),show (127:Nat)=2 ^ 7 - 1 from rfl,Nat.and_two_pow_sub_one_eq_mod]
 exact w64 (by omega) (by omega)
theorem ub (w s:Nat) (h:∃ p0 p1 p2 p3 p4 p5 p6 p7:Nat,w=p0 + 256 * (p1 + 256 * (p2 + 256 * (p3 + 256 * (p4 + 256 * (p5 + 256 * (p6 + 256 * (p7 + 256 * 0)))))))∧s=p0 + p1 + p2 + p3 + p4 + p5 + p6 + p7∧p0≤8∧p1≤8∧p2≤8∧p3≤8∧p4≤8∧p5≤8∧p6≤8∧p7≤8) :
   IntKind.wrap .i64 ((BitVec.ofInt (IntKind.bits .i64) (IntKind.wrap .i64 (oc6 (oc5 (oc4 (w:Int))))) &&& BitVec.ofInt (IntKind.bits .i64) 127).toNat:Int)=((s:Nat):Int):=by
 obtain ⟨p0,p1,p2,p3,p4,p5,p6,p7,q,qs,c0,c1,c2,c3,c4,c5,c6,c7⟩:=h
 obtain ⟨r1,r2⟩:=xI q qs c0 c1 c2 c3 c4 c5 c6 c7 rfl rfl rfl
 clear q qs c0 c1 c2 c3 c4 c5 c6 c7
 generalize h1:w + w / 256=w1 at *
 generalize h2:w1 + w1 / 65536=w2 at *
 generalize h3:w2 + w2 / 4294967296=w3 at *
 rw [wn w (by omega),h1,wh w1 (by omega),h2,wg w2 (by omega),h3,wu w3 r2,r1]
theorem uU (x:Nat) (hx:x < 18446744073709551616):hZ (x:Int)=some ((pc 64 x:Nat):Int):=by
 rw [tj,wI x hx,wc _ (wU x),wb _ (wP _),u9 x hx]
 exact congrArg some (ub _ _ (w8 x))
theorem kC:∀ (n x:Nat),pc n x=((List.range n).filter (fun i=>x.testBit i)).length
 | 0,_=>rfl
 | n + 1,x=>by
   have e:(fun i=>x.testBit i) ∘ Nat.succ=fun i=>(x / 2).testBit i:=funext fun i=>by
     show x.testBit (i + 1)=_
     rw [Nat.testBit_succ]
   rw [show pc (n + 1) x=x % 2 + pc n (x / 2) from rfl,kC n (x / 2),List.range_succ_eq_map,List.filter_cons,List.filter_map,e]
   have h0:x.testBit 0=decide (x % 2=1):=Nat.testBit_zero x
   rw [h0]
   by_cases h:x % 2=1
   . rw [if_pos (decide_eq_true h),List.length_cons,List.length_map,h]
     omega
   . rw [if_neg (by simpa using h),List.length_map]
     omega
def bP (l:List Int):Nat:=(l.map fun w=>pc 64 w.toNat).sum
theorem mem_cons (w:Int) (l:List Int) (i:Nat):mem (w :: l) i=if i < 64 then w.toNat.testBit i else mem l (i - 64):=by
 unfold mem
 by_cases h:i < 64
 . rw [if_pos h,Nat.div_eq_of_lt h,Nat.mod_eq_of_lt h]
   rfl
 . rw [if_neg h,show i / 64=(i - 64) / 64 + 1 by omega,show i % 64=(i - 64) % 64 by omega]
   rfl
theorem pp:∀ l:List Int,((List.range (64 * l.length)).filter (mem l)).length=bP l
 | []=>rfl
 | w :: l=>by
   rw [show 64 * (w :: l).length=64 + 64 * l.length by simp; omega,List.range_add,List.filter_append,List.length_append,List.filter_map,List.length_map]
   have e1:(List.range 64).filter (mem (w :: l))=(List.range 64).filter (fun i=>w.toNat.testBit i):=List.filter_congr fun i hi=>by
     rw [mem_cons,if_pos (List.mem_range.1 hi)]
   have e2:(mem (w :: l)) ∘ (64 + ·)=mem l:=funext fun i=>by
     show mem (w :: l) (64 + i)=_
     rw [mem_cons,if_neg (by omega),Nat.add_sub_cancel_left]
   rw [e1,e2,pp l,← kC]
   simp [bP]
theorem uO {n:Nat} {l:List Int} (h:Ds n l):(bY n l).length=bP l:=by
 have hl:=h.len
 rw [← pp]
 have:=ix (p:=mem l) (c:=n) (64 * l.length - n) (fun j h1 _=>h.top j h1)
 rw [show n + (64 * l.length - n)=64 * l.length by omega] at this
 rw [this]
 rfl
theorem wT (n x:Nat):pc n x≤n:=by
 rw [kC]; exact eC _ _
theorem n5 {l:List Int} {k:Nat} (hk:k < l.length):bP (l.take (k + 1))=bP (l.take k) + pc 64 (l[k]).toNat:=by
 unfold bP
 rw [kF hk,List.map_append,List.sum_append]
 simp
theorem sK {n:Nat} {l:List Int} (h:Ds n l):ek (some ((n:Int),l))=some (((bY n l).length:Nat):Int):=by
 have hn:=h.hn
 have hl:=h.len
 have hb:∀ k,k≤l.length→bP (l.take k)≤64 * k:=fun k=>by
   induction k with
   | zero=>intro _; simp [bP]
   | succ k ih =>
     intro hk
     have:=ih (by omega)
     have h2:=wT 64 (l[k]).toNat
     rw [n5 (by omega:k < l.length)]
     omega
 unfold ek
 have hlp:loop (fT ((n:Int),l)) ((0:Int),(0:Int))=some ((bP l:Nat):Int):=by
   have:=ca (body:=fT ((n:Int),l)) (fun k:Nat=>(((bP (l.take k):Nat):Int),(k:Int))) l.length (b:=((bP l:Nat):Int)) ?_ ?_
   . exact this
   . intro k hk
     unfold fT
     have hw:=h.wd _ (List.getElem_mem hk)
     unfold Wd at hw
     obtain ⟨x,hx⟩:=Int.eq_ofNat_of_zero_le hw.1
     have ho:=uU x (by omega)
     rw [← hx] at ho
     have hp:l[k].toNat=x:=by omega
     have h1:=hb k (by omega)
     have h2:=hb (k + 1) (by omega)
     have e:bP (l.take (k + 1))=bP (l.take k) + pc 64 x:=by
       rw [n5 hk,hp]
     simp only [dlt hk,cond_true,aF hk,ho,Option.bind_some]
     rw [aG hk (by omega),e,w64 (by omega) (by omega),← Int.natCast_add]
   . unfold fT
     simp
 simp only [Option.isNone_some,cond_false,Option.bind_some]
 rw [hlp,uO h]
 rfl
theorem kH:∀ {xs ys:List Int},xs.Pairwise (· < ·)→ys.Pairwise (· < ·)→(∀ a,a∈xs↔a∈ys)→xs=ys
 | [],[],_,_,_=>rfl
 | [],y :: ys,_,_,h=>by have:=(h y).2 (by simp); simp at this
 | x :: xs,[],_,_,h=>by have:=(h x).1 (by simp); simp at this
 | x :: xs,y :: ys,hx,hy,h=>by
   obtain ⟨hx1,hx2⟩:=List.pairwise_cons.1 hx
   obtain ⟨hy1,hy2⟩:=List.pairwise_cons.1 hy
   have e:x=y:=by
     have h1:=(h x).1 (by simp)
     have h2:=(h y).2 (by simp)
     rcases List.mem_cons.1 h1 with h1 | h1
     . exact h1
     . rcases List.mem_cons.1 h2 with h2 | h2
       . exact h2.symm
       . have:=hy1 x h1; have:=hx1 y h2; omega
   subst e
   rw [kH hx2 hy2 (fun a=>?_)]
   constructor
   . intro ha
     rcases List.mem_cons.1 ((h a).1 (by simp [ha])) with e | e
     . subst e; have:=hx1 a ha; omega
     . exact e
   . intro ha
     rcases List.mem_cons.1 ((h a).2 (by simp [ha])) with e | e
     . subst e; have:=hy1 a ha; omega
     . exact e
theorem mQ {zs:List Int} (hs:zs.Pairwise (·≤·)):∀ m,m≤zs.length→(Lib.compactUpTo zs.toArray m).Pairwise (· < ·)∧∀ a,a∈Lib.compactUpTo zs.toArray m↔a∈zs.take m
 | 0,_=>by simp [Lib.compactUpTo]
 | m + 1,h=>by
   obtain ⟨h1,h2⟩:=mQ hs m (by omega)
   have hm:m < zs.length:=by omega
   have e:zs.toArray[m]! = zs[m]:=by simp [getElem!_pos,hm]
   rw [Lib.compactUpTo_succ,e]
   have htk:zs.take (m + 1)=zs.take m++[zs[m]]:=List.take_succ_eq_append_getElem hm
   have hle:∀ a∈zs.take m,a≤zs[m]:=by
     intro a ha
     have:=hs.sublist (List.take_sublist (m + 1) zs)
     rw [htk] at this
     exact (List.pairwise_append.1 this).2.2 a ha _ (by simp)
   rw [htk]
   cases hk:Lib.keeps zs.toArray m with
   | false =>
     simp only [Bool.false_eq_true,if_false,List.append_nil]
     refine ⟨h1,fun a=>?_⟩
     rw [h2,List.mem_append]
     have hm0:m≠0:=by rintro rfl; simp [Lib.keeps] at hk
     have he:zs.toArray[m]! = zs.toArray[m - 1]!:=by
       simp [Lib.keeps,hm0] at hk; simpa using hk
     have hp:m - 1 < zs.length:=by omega
     have e2:zs.toArray[m - 1]! = zs[m - 1]:=by simp [getElem!_pos,hp]
     rw [e,e2] at he
     constructor
     . exact .inl
     . rintro (h | h)
       . exact h
       . simp at h; rw [h,he]
         exact List.mem_take_iff_getElem.2 ⟨m - 1,by omega,rfl⟩
   | true =>
     simp only [if_true]
     refine ⟨List.pairwise_append.2 ⟨h1,by simp,fun a ha b hb=>?_⟩,fun a=>by rw [List.mem_append,List.mem_append,h2]⟩
     simp at hb; subst hb
     have ha':=(h2 a).1 ha
     have hle':=hle a ha'
     rcases Int.lt_or_eq_of_le hle' with h | h
     . exact h
     . exfalso
       obtain ⟨j,hj,rfl⟩:=List.mem_take_iff_getElem.1 ha'
       have hm0:m≠0:=by omega
       have hp:m - 1 < zs.length:=by omega
       have e2:zs.toArray[m - 1]! = zs[m - 1]:=by simp [getElem!_pos,hp]
       simp only [Lib.keeps,e,e2] at hk
       simp [hm0] at hk
       have a1:zs[j]≤zs[m - 1]:=by
         rcases Nat.lt_or_ge j (m - 1) with q | q
         . exact List.pairwise_iff_getElem.1 hs j (m - 1) _ _ q
         . have:j=m - 1:=by omega
           subst this; exact Int.le_refl _
       have a2:zs[m - 1]≤zs[m]:=List.pairwise_iff_getElem.1 hs (m - 1) m _ _ (by omega)
       omega
theorem rS {zs:List Int} (hs:zs.Pairwise (·≤·)):(Lib.compact zs).Pairwise (· < ·)∧∀ a,a∈Lib.compact zs↔a∈zs:=by
 have:=mQ hs zs.length (Nat.le_refl _)
 rw [List.take_length] at this
 exact this
def ins (i:Int):List Int→List Int
 | []=>[i]
 | x :: l=>if i < x then i :: x :: l else x :: ins i l
theorem ja (i a:Int):∀ l,a∈ins i l↔a=i∨a∈l
 | []=>by simp [ins]
 | x :: l=>by
   unfold ins
   split
   . simp
   . rw [List.mem_cons,ja i a l,List.mem_cons]
     constructor
     . rintro (h | h | h) <;> simp [h]
     . rintro (h | h | h) <;> simp [h]
theorem lC (i:Int):∀ l:List Int,l.Pairwise (· < ·)→i∉l→(ins i l).Pairwise (· < ·)
 | [],_,_=>by simp [ins]
 | x :: l,h,hi=>by
   obtain ⟨h1,h2⟩:=List.pairwise_cons.1 h
   have hx:i≠x:=fun e=>hi (by simp [e])
   unfold ins
   split
   . rename_i hlt
     refine List.pairwise_cons.2 ⟨fun a ha=>?_,h⟩
     rcases List.mem_cons.1 ha with rfl | ha
     . exact hlt
     . have:=h1 a ha; omega
   . refine List.pairwise_cons.2 ⟨fun a ha=>?_,lC i l h2 (fun hm=>hi (by simp [hm]))⟩
     rcases (ja i a l).1 ha with rfl | ha
     . omega
     . exact h1 a ha
def qT (L:List Int) (i:Int):Bool:=decide (i∈L)
def cT (s:Int) (L:List Int) (i:Int):List Int:=if (0≤i∧i < s)∧i∉L then ins i L else L
def gG (s:Int) (L:List Int) (i:Int):Bool:=decide ((0≤i∧i < s)∧i∉L)
def rOr (s:Int) (L:List Int):List Int→List Int×Bool
 | []=>(L,false)
 | x :: l=>((rOr s (cT s L x) l).1,gG s L x||(rOr s (cT s L x) l).2)
theorem uV {s:Int} {L:List Int} (h:L.Pairwise (· < ·)) (i:Int):(cT s L i).Pairwise (· < ·):=by
 unfold cT
 split
 . rename_i h4; exact lC _ _ h h4.2
 . exact h
theorem kV {s:Int} {L:List Int} (i x:Int):x∈cT s L i↔x∈L∨(x=i∧0≤i∧i < s):=by
 unfold cT
 split
 . rename_i h4
   rw [ja]
   constructor
   . rintro (h | h)
     . exact .inr ⟨h,h4.1⟩
     . exact .inl h
   . rintro (h | h)
     . exact .inr h
     . exact .inl h.1
 . rename_i h4
   constructor
   . exact .inl
   . rintro (h | ⟨rfl,h⟩)
     . exact h
     . refine Classical.byContradiction fun h5=>h4 ⟨h,h5⟩
theorem qi (s:Int):∀ (l L:List Int),L.Pairwise (· < ·)→(rOr s L l).1.Pairwise (· < ·)
 | [],_,h=>h
 | x :: l,L,h=>qi s l _ (uV h x)
theorem pJ (s:Int) (x:Int):∀ (l L:List Int),x∈(rOr s L l).1↔x∈L∨(x∈l∧0≤x∧x < s)
 | [],L=>by simp [rOr]
 | y :: l,L=>by
   unfold rOr
   dsimp only
   rw [pJ s x l,kV,List.mem_cons]
   constructor
   . rintro ((h | ⟨h,h2⟩) | ⟨h,h2⟩)
     . exact .inl h
     . subst h; exact .inr ⟨.inl rfl,h2⟩
     . exact .inr ⟨.inr h,h2⟩
   . rintro (h | ⟨h | h,h2⟩)
     . exact .inl (.inl h)
     . subst h; exact .inl (.inr ⟨rfl,h2⟩)
     . exact .inr ⟨h,h2⟩
theorem qh (s:Int):∀ (l L:List Int),(rOr s L l).2=true↔∃ x∈l,(0≤x∧x < s)∧x∉L
 | [],L=>by simp [rOr]
 | y :: l,L=>by
   unfold rOr
   dsimp only
   rw [Bool.or_eq_true,qh s l]
   unfold gG
   rw [decide_eq_true_eq]
   constructor
   . rintro (h | ⟨x,h1,h2,h3⟩)
     . exact ⟨y,by simp,h⟩
     . exact ⟨x,by simp [h1],h2,fun h=>h3 ((kV _ _).2 (.inl h))⟩
   . rintro ⟨x,h1,h2,h3⟩
     by_cases hy:(0≤y∧y < s)∧y∉L
     . exact .inl hy
     . rcases List.mem_cons.1 h1 with rfl | h1
       . exact absurd ⟨h2,h3⟩ hy
       . refine .inr ⟨x,h1,h2,fun h=>?_⟩
         rcases (kV _ _).1 h with h | ⟨rfl,h⟩
         . exact h3 h
         . exact hy ⟨h,h3⟩
theorem qk {A B:List Int} (hA:A.length≤9000000):dI A B=some (decide (A=B)):=by
 unfold dI
 by_cases hl:A.length=B.length
 . rw [nF A B (.inr false) (.inl ()) hl (fun k hk=>?_) ?_]
   . rw [ra hl]
     by_cases h:A=B <;> simp [h]
   . unfold kc
     simp
   . unfold kc
     have hk2:k < B.length:=by omega
     simp only [dlt hk,cond_true,aF hk,aF hk2,Option.bind_some,aG hk (by omega)]
     by_cases h:A[k]=B[k] <;> simp [h]
 . rw [qE hl]
   have:A≠B:=fun e=>hl (by rw [e])
   simp [this]
structure Rp (n:Nat) (l:List Int) (L:List Int):Prop where
 ds:Ds n l
 rs:L.Pairwise (· < ·)
 mm:∀ x:Int,x∈L↔0≤x∧mem l x.toNat=true
theorem vR (M:List Nat) (x:Int):x∈liN M↔0≤x∧x.toNat∈M:=by
 unfold liN
 rw [List.mem_map]
 constructor
 . rintro ⟨a,ha,rfl⟩
   exact ⟨Int.natCast_nonneg _,by simpa using ha⟩
 . rintro ⟨h1,h2⟩
   exact ⟨x.toNat,h2,Int.toNat_of_nonneg h1⟩
theorem de {n:Nat} {l:List Int} (h:Ds n l) {k:Nat} (hk:mem l k=true):k < n:=by
 rcases Nat.lt_or_ge k n with h1 | h1
 . exact h1
 . rw [h.top k h1] at hk; cases hk
theorem tS {n:Nat} {l:List Int} (h:Ds n l) (k:Nat):k∈bY n l↔mem l k=true:=by
 unfold bY
 rw [List.mem_filter,List.mem_range]
 exact ⟨fun h=>h.2,fun hk=>⟨de h hk,hk⟩⟩
theorem vV (n:Nat) (l:List Int):(liN (bY n l)).Pairwise (· < ·):=by
 unfold liN bY
 rw [List.pairwise_map]
 refine List.Pairwise.imp (fun h=>?_) (List.Pairwise.filter (mem l) (List.pairwise_lt_range (n:=n)))
 exact Int.ofNat_lt.2 h
theorem Rp.eq {n:Nat} {l L:List Int} (h:Rp n l L):liN (bY n l)=L :=
 kH (vV n l) h.rs (fun x=>by rw [vR,tS h.ds,h.mm])
theorem Rp.len {n:Nat} {l L:List Int} (h:Rp n l L):(bY n l).length=L.length:=by
 rw [← h.eq]; simp [liN]
theorem Rp.le {n:Nat} {l L:List Int} (h:Rp n l L):L.length≤n:=by
 rw [← h.len]; exact eC _ _
theorem Rp.has {n:Nat} {l L:List Int} (h:Rp n l L) (i:Int):cF (some ((n:Int),l)) i=some (qT L i):=by
 rw [kN h.ds]
 congr 1
 unfold qT
 rw [Bool.eq_iff_iff,Bool.and_eq_true,decide_eq_true_eq,decide_eq_true_eq,h.mm]
 constructor
 . exact fun h=>⟨h.1.1,h.2⟩
 . intro h2
   have:=de h.ds h2.2
   exact ⟨⟨h2.1,by omega⟩,h2.2⟩
theorem Rp.add {n:Nat} {l L:List Int} (h:Rp n l L) (i:Int):∃ l',da i n l=some (gG n L i,l')∧Rp n l' (cT n L i):=by
 obtain ⟨l',h1,h2,h3⟩:=ou h.ds i
 have hm:=h.mm i
 have e:(decide (0≤i∧i < n)&&!mem l i.toNat)=gG n L i:=by
   unfold gG
   rw [Bool.eq_iff_iff,Bool.and_eq_true,decide_eq_true_eq,decide_eq_true_eq,hm]
   constructor
   . rintro ⟨h5,h6⟩
     exact ⟨h5,fun h7=>by rw [h7.2] at h6; cases h6⟩
   . rintro ⟨h5,h6⟩
     refine ⟨h5,?_⟩
     cases h7:mem l i.toNat with
     | false=>rfl
     | true=>exact absurd ⟨h5.1,h7⟩ h6
 refine ⟨l',by rw [h1,e],h2,?_,fun x=>?_⟩
 . unfold cT
   split
   . rename_i h4
     exact lC _ _ h.rs h4.2
   . exact h.rs
 . rw [h3]
   unfold cT
   split
   . rename_i h4
     rw [ja,h.mm,Bool.or_eq_true,decide_eq_true_eq]
     constructor
     . rintro (rfl | h5)
       . exact ⟨h4.1.1,.inr ⟨h4.1,rfl⟩⟩
       . exact ⟨h5.1,.inl h5.2⟩
     . rintro ⟨h5,h6 | h6⟩
       . exact .inr ⟨h5,h6⟩
       . exact .inl (by omega)
   . rename_i h4
     rw [h.mm,Bool.or_eq_true,decide_eq_true_eq]
     constructor
     . exact fun h5=>⟨h5.1,.inl h5.2⟩
     . rintro ⟨h5,h6 | h6⟩
       . exact ⟨h5,h6⟩
       . have hx:x=i:=by omega
         subst hx
         refine ⟨h5,?_⟩
         cases h7:mem l x.toNat with
         | true=>rfl
         | false=>exact absurd ⟨h6.1,fun h8=>by rw [(hm.1 h8).2] at h7; cases h7⟩ h4
theorem n8 (x y:Nat) (hx:x < 18446744073709551616) (hy:y < 18446744073709551616):IntKind.wrap .u64 ((BitVec.ofInt (IntKind.bits .u64) (x:Int) &&& ~~~BitVec.ofInt (IntKind.bits .u64) (y:Int)).toNat:Int)=0↔∀ i,x.testBit i=true→y.testBit i=true:=by
 have e:IntKind.wrap .u64 ((BitVec.ofInt (IntKind.bits .u64) (x:Int) &&& ~~~BitVec.ofInt (IntKind.bits .u64) (y:Int)).toNat:Int)=(((BitVec.ofNat 64 x &&& ~~~BitVec.ofNat 64 y).toNat:Nat):Int):=by
   show IntKind.wrap .u64 ((BitVec.ofInt 64 (x:Int) &&& ~~~BitVec.ofInt 64 (y:Int)).toNat:Int)=_
   rw [dd,dd]
   exact cg _ (BitVec.isLt _)
 have hb:∀ i,(BitVec.ofNat 64 x &&& ~~~BitVec.ofNat 64 y).toNat.testBit i=(x.testBit i&&!y.testBit i):=fun i=>by
   rw [BitVec.testBit_toNat,BitVec.getLsbD_and,BitVec.getLsbD_not,BitVec.getLsbD_ofNat,BitVec.getLsbD_ofNat]
   by_cases hj:i < 64
   . simp [hj]
   . have:x.testBit i=false:=Nat.testBit_lt_two_pow (Nat.lt_of_lt_of_le hx (show 2 ^ 64≤2 ^ i from Nat.pow_le_pow_right (by decide) (by omega)))
     simp [hj,this]
 rw [e]
 constructor
 . intro h i hi
   have h0:(BitVec.ofNat 64 x &&& ~~~BitVec.ofNat 64 y).toNat=0:=by omega
   have:=hb i
   rw [h0,Nat.zero_testBit,hi] at this
   cases hy:y.testBit i with
   | true=>rfl
   | false=>rw [hy] at this; cases this
 . intro h
   have h0:(BitVec.ofNat 64 x &&& ~~~BitVec.ofNat 64 y).toNat=0:=Nat.eq_of_testBit_eq fun i=>by
     rw [hb,Nat.zero_testBit]
     cases hx:x.testBit i with
     | false=>rfl
     | true=>rw [h i hx]; rfl
   rw [h0]
   rfl
theorem ph {n:Nat} {l l':List Int} (h:Ds n l) (h':Ds n l'):∃ c q,bB n l n l'=some (c,q,l')∧Ds n q∧(∀ j,mem q j=(mem l j||mem l' j))∧(c=true↔∃ j,mem l' j=true∧mem l j=false):=by
 have hn:=h.hn
 have hl:=h.len
 have hl':=h'.len
 have wordOf:∀ {n:Nat} {l:List Int},(∀ w∈l,Wd w)→∀ (k:Nat) (hk:k < l.length),∃ x:Nat,l[k]=(x:Int)∧x < 18446744073709551616:=fun hw k hk=>by
   have:=hw _ (List.getElem_mem hk)
   unfold Wd at this
   exact ⟨_,(Int.toNat_of_nonneg this.1).symm,by omega⟩
 have key:=bc (body:=j6 l') (fun s=>∃ k:Nat,k≤l'.length∧s.2.1=(k:Int)∧s.2.2.length=l.length∧(∀ w∈s.2.2,Wd w)∧(∀ j,mem s.2.2 j=if j / 64 < k then mem l j||mem l' j else mem l j)∧(s.1=true↔∃ j,j / 64 < k∧mem l' j=true∧mem l j=false)) (fun s=>l'.length - s.2.1.toNat)
   (Q:=fun r=>r.2.length=l.length∧(∀ w∈r.2,Wd w)∧(∀ j,mem r.2 j=(mem l j||mem l' j))∧(r.1=true↔∃ j,mem l' j=true∧mem l j=false)) ?_ (s:=(false,(0:Int),l)) ⟨0,Nat.zero_le _,rfl,rfl,h.wd,fun j=>by simp,by simp⟩
 . obtain ⟨⟨c,q⟩,hlp,q1,q2,q3,q4⟩:=key
   refine ⟨c,q,?_,⟨hn,by rw [q1]; exact hl,q2,fun j hj=>?_⟩,q3,q4⟩
   . unfold bB
     rw [hlp]
     simp
   . rw [q3,h.top j hj,h'.top j hj]; rfl
 . rintro ⟨c,i,q⟩ ⟨k,hk,rfl,g1,g2,g3,g4⟩
   dsimp only at g1 g2 g3 g4 ⊢
   unfold j6
   by_cases hkl:k < l'.length
   . left
     have hkq:k < q.length:=by omega
     obtain ⟨x,hx,hx2⟩:=wordOf (n:=n) h'.wd k hkl
     obtain ⟨y,hy,hy2⟩:=wordOf (n:=n) g2 k hkq
     have hxs:l'[k]? = some (x:Int):=by rw [List.getElem?_eq_getElem hkl,hx]
     have hys:q[k]? = some (y:Int):=by rw [List.getElem?_eq_getElem hkq,hy]
     have hmy:∀ j,j / 64=k→mem l j=y.testBit (j % 64):=fun j hj=>by
       have:=g3 j
       rw [if_neg (by omega),co (by rw [hj]; exact hys)] at this
       exact this.symm
     have hmx:∀ j,j / 64=k→mem l' j=x.testBit (j % 64):=fun j hj=>co (by rw [hj]; exact hxs)
     have ha:=n8 x y hx2 hy2
     simp only [dlt hkl,cond_true,aF hkl,aF hkq,hx,hy,Option.bind_some,aG hkl (by omega),Int.toNat_natCast]
     by_cases hz:IntKind.wrap .u64 ((BitVec.ofInt (IntKind.bits .u64) (x:Int) &&& ~~~BitVec.ofInt (IntKind.bits .u64) (y:Int)).toNat:Int)=0
     . have hsub:=ha.1 hz
       have hsub2:∀ j,j / 64=k→mem l' j=true→mem l j=true:=fun j hj hm=>by
         rw [hmx j hj] at hm
         rw [hmy j hj]
         exact hsub _ hm
       refine ⟨(c,((k + 1:Nat):Int),q),by rw [decide_eq_true hz]; rfl,⟨k + 1,by omega,rfl,g1,g2,fun j=>?_,?_⟩,?_⟩
       . rw [g3]
         by_cases h1:j / 64 < k
         . rw [if_pos h1,if_pos (by omega)]
         . rw [if_neg h1]
           by_cases h2:j / 64=k
           . rw [if_pos (by omega)]
             cases hm:mem l' j with
             | false=>simp
             | true=>rw [hsub2 j h2 hm]; rfl
           . rw [if_neg (by omega)]
       . rw [g4]
         constructor
         . rintro ⟨j,h1,h2⟩; exact ⟨j,by omega,h2⟩
         . rintro ⟨j,h1,h2,h3⟩
           by_cases h4:j / 64=k
           . rw [hsub2 j h4 h2] at h3; cases h3
           . exact ⟨j,by omega,h2,h3⟩
       . show l'.length - ((k + 1:Nat):Int).toNat < l'.length - ((k:Nat):Int).toNat
         rw [Int.toNat_natCast,Int.toNat_natCast]; omega
     . have hw:IntKind.wrap .u64 ((BitVec.ofInt (IntKind.bits .u64) (y:Int) ||| BitVec.ofInt (IntKind.bits .u64) (x:Int)).toNat:Int)=((y ||| x:Nat):Int):=orU y x hy2 hx2
       have hex:∃ i,x.testBit i=true∧y.testBit i=false:=by
         refine Classical.byContradiction fun hc=>hz (ha.2 fun i hi=>?_)
         cases hyi:y.testBit i with
         | true=>rfl
         | false=>exact absurd ⟨i,hi,hyi⟩ hc
       obtain ⟨i,hi1,hi2⟩:=hex
       have hi64:i < 64:=by
         rcases Nat.lt_or_ge i 64 with h1 | h1
         . exact h1
         . rw [Nat.testBit_lt_two_pow (Nat.lt_of_lt_of_le hx2 (show 2 ^ 64≤2 ^ i from Nat.pow_le_pow_right (by decide) h1))] at hi1
           cases hi1
       refine ⟨(true,((k + 1:Nat):Int),q.set k ((y ||| x:Nat):Int)),by rw [decide_eq_false hz,hw]; rfl,⟨k + 1,by omega,rfl,by rw [List.length_set]; exact g1,fun w hw=>?_,fun j=>?_,?_⟩,?_⟩
       . rcases List.mem_or_eq_of_mem_set hw with hw | rfl
         . exact g2 w hw
         . have:=Nat.or_lt_two_pow (n:=64) hy2 hx2
           unfold Wd
           omega
       . dsimp only
         rw [pa hys]
         by_cases h2:j / 64=k
         . rw [if_pos h2,if_pos (by omega),Nat.testBit_or,hmy j h2,hmx j h2]
         . rw [if_neg h2,g3]
           by_cases h1:j / 64 < k
           . rw [if_pos h1,if_pos (by omega)]
           . rw [if_neg h1,if_neg (by omega)]
       . refine ⟨fun _=>⟨64 * k + i,by omega,?_,?_⟩,fun _=>rfl⟩
         . rw [hmx _ (by omega),show (64 * k + i) % 64=i by omega]; exact hi1
         . rw [hmy _ (by omega),show (64 * k + i) % 64=i by omega]; exact hi2
       . show l'.length - ((k + 1:Nat):Int).toNat < l'.length - ((k:Nat):Int).toNat
         rw [Int.toNat_natCast,Int.toNat_natCast]; omega
   . right
     have e:k=l'.length:=by omega
     subst e
     have hlt:∀ j,mem l' j=true→j / 64 < l'.length:=fun j hj=>by
       have:=de h' hj
       omega
     refine ⟨(c,q),by simp,g1,g2,fun j=>?_,?_⟩
     . rw [g3]
       by_cases h1:j / 64 < l'.length
       . rw [if_pos h1]
       . rw [if_neg h1]
         cases hm:mem l' j with
         | false=>simp
         | true=>exact absurd (hlt j hm) h1
     . rw [g4]
       constructor
       . rintro ⟨j,_,h2⟩; exact ⟨j,h2⟩
       . rintro ⟨j,h2⟩; exact ⟨j,hlt j h2.1,h2⟩
theorem tE {n m:Nat} (h:n≠m) (l l':List Int):bB n l m l'=some (false,l,l'):=by
 unfold bB
 have:¬ ((n:Int)=(m:Int)):=by omega
 simp [this]
theorem Rp.or {n m:Nat} {l l' L L':List Int} (h:Rp n l L) (h':Rp m l' L'):∃ q,bB n l m l'=some (decide ((n:Int)=(m:Int))&&(rOr n L L').2,q,l')∧Rp n q (if (n:Int)=(m:Int) then (rOr n L L').1 else L):=by
 by_cases e:n=m
 . subst e
   obtain ⟨c,q,h1,h2,h3,h4⟩:=ph h.ds h'.ds
   refine ⟨q,?_,?_⟩
   . rw [h1]
     have:c=(rOr n L L').2:=by
       rw [Bool.eq_iff_iff,h4,qh]
       constructor
       . rintro ⟨j,h5,h6⟩
         have:=de h'.ds h5
         refine ⟨(j:Int),(h'.mm _).2 ⟨Int.natCast_nonneg _,by simpa using h5⟩,⟨Int.natCast_nonneg _,by omega⟩,fun h7=>?_⟩
         have:=((h.mm _).1 h7).2
         rw [Int.toNat_natCast,h6] at this
         cases this
       . rintro ⟨x,h5,h6,h7⟩
         refine ⟨x.toNat,((h'.mm _).1 h5).2,?_⟩
         cases h8:mem l x.toNat with
         | false=>rfl
         | true=>exact absurd ((h.mm x).2 ⟨h6.1,h8⟩) h7
     rw [this]
     simp
   . rw [if_pos rfl]
     refine ⟨h2,qi _ _ _ h.rs,fun x=>?_⟩
     rw [pJ,h3,Bool.or_eq_true,h.mm,h'.mm]
     constructor
     . rintro (h5 | ⟨h5,h6⟩)
       . exact ⟨h5.1,.inl h5.2⟩
       . exact ⟨h5.1,.inr h5.2⟩
     . rintro ⟨h5,h6 | h6⟩
       . exact .inl ⟨h5,h6⟩
       . have:=de h'.ds h6
         exact .inr ⟨⟨h5,h6⟩,h5,by omega⟩
 . have e2:¬ ((n:Int)=(m:Int)):=by omega
   rw [tE e,if_neg e2,decide_eq_false e2]
   exact ⟨l,rfl,h⟩
abbrev MX:=List (Option (Int×List Int))
def au (x:Option (Int×List Int)) (c:Nat):Bool:=match x with | some e=>mem e.2 c | none=>false
def fG (M:MX) (r:Int):Option (Int×List Int):=if 0≤r then M[r.toNat]?.join else none
def has (M:MX) (r c:Nat):Bool:=au M[r]?.join c
def okR (C:Nat) (x:Option (Int×List Int)):Prop:=∀ e,x=some e→e.1=(C:Int)∧Ds C e.2
structure Mx (N C:Nat) (M:MX):Prop where
 hN:N≤65536
 hC:C≤65536
 len:M.length=N
 ok:∀ r:Nat,okR C M[r]?.join
theorem okR.lt {C:Nat} {x:Option (Int×List Int)} (h:okR C x) {c:Nat} (hc:au x c=true):c < C:=by
 cases x with
 | none=>cases hc
 | some e=>exact de (h e rfl).2 hc
theorem okR.none {C:Nat}:okR C none:=fun e h=>by cases h
theorem iU {M:MX} {r:Nat} (h:r < M.length):M[r]?.join=M[r]:=by rw [List.getElem?_eq_getElem h]; rfl
theorem nQ {M:MX} {r:Nat} (h:M.length≤r):M[r]?.join=none:=by rw [List.getElem?_eq_none h]; rfl
theorem Mx.lt {N C:Nat} {M:MX} (h:Mx N C M) {r c:Nat} (hm:has M r c=true):r < N∧c < C:=by
 refine ⟨?_,(h.ok r).lt hm⟩
 rcases Nat.lt_or_ge r N with h1 | h1
 . exact h1
 . unfold has at hm; rw [nQ (by rw [h.len]; exact h1)] at hm; cases hm
theorem kU {M:MX} {r:Nat} (hr:r < M.length) (x:Option (Int×List Int)) (a:Nat):(M.set r x)[a]?.join=if a=r then x else M[a]?.join:=by
 rw [List.getElem?_set]
 by_cases h:r=a
 . subst h; simp [hr]
 . rw [if_neg h,if_neg (fun e=>h e.symm)]
theorem ll {M:MX} {r:Nat} (hr:r < M.length) (x:Option (Int×List Int)) (a c:Nat):has (M.set r x) a c=if a=r then au x c else has M a c:=by
 unfold has
 rw [kU hr]
 split <;> rfl
theorem Mx.set {N C:Nat} {M:MX} (h:Mx N C M) {r:Nat} (hr:r < N) {x:Option (Int×List Int)} (hx:okR C x):Mx N C (M.set r x) :=
 ⟨h.hN,h.hC,by rw [List.length_set]; exact h.len,fun a=>by
   rw [kU (by rw [h.len]; exact hr)]
   split
   . exact hx
   . exact h.ok a⟩
theorem we {N C:Nat} (hN:N≤65536) (hC:C≤65536):Mx N C (List.replicate N none) :=
 ⟨hN,hC,List.length_replicate,fun r=>by
   rcases Nat.lt_or_ge r N with h | h
   . rw [List.getElem?_replicate,if_pos h]; exact okR.none
   . rw [List.getElem?_replicate,if_neg (by omega)]; exact okR.none⟩
theorem vA (N r c:Nat):has (List.replicate N none) r c=false:=by
 unfold has
 rw [List.getElem?_replicate]
 split <;> rfl
theorem vH (n c:Int):f8 n c=if n < 0∨c < 0 then some (.inl 2) else if 65536 < n∨65536 < c then some (.inl 5) else some (.inr (0,c,List.replicate n.toNat none)):=by
 unfold f8
 by_cases h1:n < 0∨c < 0
 . rw [if_pos h1]
   have:(decide (n < 0)||decide (c < 0))=true:=by simpa using h1
   rw [this]; rfl
 . rw [if_neg h1]
   have:(decide (n < 0)||decide (c < 0))=false:=by
     rw [Bool.eq_false_iff]; simpa using h1
   rw [this]
   by_cases h2:65536 < n∨65536 < c
   . rw [if_pos h2]
     have:(decide (65536 < n)||decide (65536 < c))=true:=by simpa using h2
     rw [this]; rfl
   . rw [if_neg h2]
     have:(decide (65536 < n)||decide (65536 < c))=false:=by
       rw [Bool.eq_false_iff]; simpa using h2
     rw [this]
     simp only [cond_false]
     unfold mk
     rw [if_pos (by omega)]
     rfl
theorem uF:ic none=some 0:=rfl
theorem m6 (i:Int):db none i=some false:=by
 unfold db
 rw [uF]
 by_cases h:0≤i
 . have h2:¬ i < 0:=by omega
   simp [h,h2]
 . simp [h]
theorem vx (i:Int):cF none i=some false:=by
 unfold cF
 rw [m6]
 rfl
theorem th:ek none=some 0:=rfl
theorem oY (i:Int):bK none i=some (-1):=by
 unfold bK
 rw [m6]
 rfl
theorem qm (c:Int) (M:MX) (r:Int):fX (some (c,M)) r=some (fG M r):=by
 unfold fX j8
 rw [show j9 (some (c,M))=some ((M.length:Nat):Int) from rfl]
 unfold fG
 by_cases h0:0≤r
 . rw [if_pos h0]
   by_cases h1:r < (M.length:Nat)
   . have hr:r.toNat < M.length:=by omega
     simp only [decide_eq_true h0,cond_true,Option.bind_some,decide_eq_true h1,Bool.not_true,cond_false]
     rw [show ae M r=some M[r.toNat] from py (by omega) hr,iU hr]
     rfl
   . simp only [decide_eq_true h0,cond_true,Option.bind_some,decide_eq_false h1,Bool.not_false]
     rw [nQ (by omega)]
 . rw [if_neg h0]
   simp [h0]
theorem okO {N C:Nat} {M:MX} (h:Mx N C M) (r:Int):okR C (fG M r):=by
 unfold fG
 split
 . exact h.ok _
 . exact okR.none
theorem hasO (M:MX) (r:Int) (c:Nat):au (fG M r) c=(decide (0≤r)&&has M r.toNat c):=by
 unfold fG has
 by_cases h:0≤r
 . simp [h]
 . simp [h,au]
theorem vT {C:Nat} {x:Option (Int×List Int)} (h:okR C x) (c:Int):cF x c=some (decide (0≤c)&&au x c.toNat):=by
 cases x with
 | none=>rw [vx]; simp [au]
 | some e =>
   obtain ⟨s,l⟩:=e
   obtain ⟨h1,h2⟩:=h _ rfl
   dsimp only at h1 h2
   subst h1
   rw [kN h2]
   congr 1
   rw [Bool.eq_iff_iff]
   simp only [Bool.and_eq_true,decide_eq_true_eq,au]
   constructor
   . exact fun h=>⟨h.1.1,h.2⟩
   . intro h3
     have:=de h2 h3.2
     exact ⟨⟨h3.1,by omega⟩,h3.2⟩
theorem vb {N C:Nat} {M:MX} (h:Mx N C M) (r c:Int):ia (some ((C:Int),M)) r c=some ((decide (0≤r)&&decide (0≤c))&&has M r.toNat c.toNat):=by
 unfold ia
 rw [qm]
 simp only [Option.bind_some,vT (okO h r),hasO]
 congr 1
 cases decide (0≤r) <;> cases decide (0≤c) <;> simp
theorem pe (i:Int):bh i i=some ():=by unfold bh; simp
theorem fC {M:MX} {r:Nat} (h:r < M.length):ae M (r:Int)=some M[r]?.join:=by rw [aF h,iU h]
theorem iL {M:MX} {r:Nat} (h:r < M.length):M.set r M[r]?.join=M:=by rw [iU h]; exact List.set_getElem_self h
theorem pK {C:Nat} (hC:C≤65536):cj (C:Int)=some (.inr (0,(C:Int),List.replicate ((C + 63) / 64) 0)):=by
 rw [tW,if_neg (by omega),if_neg (by omega)]
 simp
theorem vg {N C:Nat} {M:MX} (h:Mx N C M) (r c:Int):∃ M',fP r c (C:Int) M=some (decide ((0≤r∧r < N)∧0≤c∧c < C)&&!has M r.toNat c.toNat,M')∧Mx N C M' ∧
   ∀ a b,has M' a b=(has M a b||decide (((0≤r∧r < N)∧0≤c∧c < C)∧r.toNat=a∧c.toNat=b)):=by
 have hN:=h.hN
 have hC:=h.hC
 have hlen:=h.len
 by_cases hin:(0≤r∧r < N)∧0≤c∧c < C
 . obtain ⟨k,rfl⟩:∃ k:Nat,r=(k:Int):=⟨r.toNat,by omega⟩
   have hk:k < M.length:=by omega
   have hk2:(k:Int) < ((M.length:Nat):Int):=by omega
   have e1:d8 (k:Int) (C:Int) M=some (true,M):=by
     unfold d8
     rw [show cE (C:Int) M=some (((M.length:Nat):Int),M) from rfl]
     simp only [decide_eq_true hin.1.1,cond_true,Option.bind_some,decide_eq_true hk2]
   have e2:(((!true)||decide (c < 0))||decide ((C:Int)≤c))=false:=by simp; omega
   have main:∀ (s:Int) (l:List Int),s=(C:Int)→Ds C l→∃ l',da c s l=some (!mem l c.toNat,l')∧okR C (some (s,l'))∧∀ b,mem l' b=(mem l b||decide (c.toNat=b)):=by
     rintro s l rfl hl
     obtain ⟨l',q1,q2,q3⟩:=ou hl c
     refine ⟨l',?_,fun e he=>by cases he; exact ⟨rfl,q2⟩,fun b=>?_⟩
     . rw [q1]; simp [hin.2]
     . rw [q3]; simp [hin.2]
   unfold fP
   rw [e1]
   simp only [Option.bind_some,e2,cond_false,fC hk,pe,Int.toNat_natCast,iL hk]
   have hd:decide (((0:Int)≤(k:Int)∧(k:Int) < N)∧0≤c∧c < C)=true:=by simpa using hin
   have fin:∀ (x:Option (Int×List Int)) (l':List Int),M[k]?.join=x→(∀ b,mem l' b=(au x b||decide (c.toNat=b)))→∀ a b,has (M.set k (some ((C:Int),l'))) a b=(has M a b||decide ((((0:Int)≤(k:Int)∧(k:Int) < N)∧0≤c∧c < C)∧k=a∧c.toNat=b)):=fun x l' hx hl a b=>by
     rw [ll hk]
     by_cases hak:a=k
     . subst hak
       rw [if_pos rfl]
       show mem l' b=_
       rw [hl,← hx]
       simp [hin,has]
     . rw [if_neg hak]
       have:¬ k=a:=fun e=>hak e.symm
       simp [this]
   cases hx:M[k]?.join with
   | none =>
     have hk3:k < (M.set k (some ((C:Int),List.replicate ((C + 63) / 64) 0))).length:=by rw [List.length_set]; exact hk
     have e3:M.set k none=M:=by have:=iL hk; rw [hx] at this; exact this
     obtain ⟨l',q1,q2,q3⟩:=main (C:Int) _ rfl (pX (n:=C) (by omega))
     simp only [Option.isNone_none,cond_true,e3,hx,Option.bind_some,pK hC,fC hk3,kU hk,if_true,q1,List.set_set,fC hk]
     refine ⟨_,by rw [hd]; simp [hx,has,au,gt],h.set (by omega) q2,fin none l' hx (fun b=>by rw [q3,gt]; rfl)⟩
   | some e =>
     obtain ⟨s,l⟩:=e
     obtain ⟨p1,p2⟩:=h.ok k _ hx
     dsimp only at p1 p2
     subst p1
     have e3:M.set k (some ((C:Int),l))=M:=by have:=iL hk; rw [hx] at this; exact this
     obtain ⟨l',q1,q2,q3⟩:=main (C:Int) l rfl p2
     simp only [Option.isNone_some,cond_false,e3,hx,Option.bind_some,fC hk,q1]
     refine ⟨_,by rw [hd]; simp [hx,has,au],h.set (by omega) q2,fin _ l' hx (fun b=>by rw [q3]; rfl)⟩
 . have hout:∃ t,d8 r (C:Int) M=some (t,M)∧(((!t)||decide (c < 0))||decide ((C:Int)≤c))=true:=by
     unfold d8
     rw [show cE (C:Int) M=some (((M.length:Nat):Int),M) from rfl]
     by_cases h0:0≤r
     . refine ⟨decide (r < ((M.length:Nat):Int)),by simp [h0],?_⟩
       simp
       omega
     . refine ⟨false,by simp [h0],by simp⟩
   obtain ⟨t,q1,q2⟩:=hout
   have hf:decide ((0≤r∧r < N)∧0≤c∧c < C)=false:=by simpa using hin
   refine ⟨M,?_,h,fun a b=>?_⟩
   . unfold fP
     rw [q1,hf]
     simp only [Option.bind_some,q2,cond_true,Bool.false_and]
   . have:¬ (((0≤r∧r < N)∧0≤c∧c < C)∧r.toNat=a∧c.toNat=b):=fun e=>hin e.1
     simp [this]
def aq (C:Nat) (f:Nat→Bool):List Nat:=(List.range C).filter f
theorem cP (C:Nat) (f:Nat→Bool):(aq C f).length≤C:=eC f C
def bO (N C:Nat) (f:Nat→Nat→Bool):Nat:=((List.range N).map fun r=>(aq C (f r)).length).sum
theorem oq (N C:Nat) (f:Nat→Nat→Bool):bO (N + 1) C f=bO N C f + (aq C (f N)).length:=by
 unfold bO
 rw [List.range_succ,List.map_append,List.sum_append]
 simp
theorem lK (N C:Nat) (f:Nat→Nat→Bool):bO N C f≤N * C:=by
 induction N with
 | zero=>simp [bO]
 | succ N ih=>rw [oq,Nat.succ_mul]; have:=cP C (f N); omega
theorem tH {C:Nat} {x:Option (Int×List Int)} (h:okR C x):ek x=some (((aq C (au x)).length:Nat):Int):=by
 cases x with
 | none =>
   rw [th]
   have:aq C (au none)=[]:=List.filter_eq_nil_iff.2 (fun a _=>by simp [au])
   rw [this]; rfl
 | some e =>
   obtain ⟨s,l⟩:=e
   obtain ⟨h1,h2⟩:=h _ rfl
   dsimp only at h1 h2
   subst h1
   rw [sK h2]; rfl
theorem nZ {N C:Nat} {M:MX} (h:Mx N C M):fN (C:Int) M=some (((bO N C (has M):Nat):Int),M):=by
 have hN:=h.hN
 have hC:=h.hC
 have hlen:=h.len
 unfold fN
 rw [show cE (C:Int) M=some (((M.length:Nat):Int),M) from rfl]
 simp only [Option.bind_some]
 have key:=ca (body:=hG ((M.length:Nat):Int)) (fun k=>(((bO k C (has M):Nat):Int),(k:Int),M)) N (b:=(((bO N C (has M):Nat):Int),M)) (fun k hk=>by
   have hk2:k < M.length:=by omega
   unfold hG
   have hle:=lK (k + 1) C (has M)
   have h1:(k + 1) * C≤65536 * 65536:=Nat.mul_le_mul (by omega) hC
   simp only [dlt hk2,cond_true,fC hk2,Option.bind_some,pe,tH (h.ok k),aG hk2 (by omega),Int.toNat_natCast,iL hk2]
   have e:((bO k C (has M):Nat):Int) + (((aq C (au M[k]?.join)).length:Nat):Int)=((bO (k + 1) C (has M):Nat):Int):=by rw [oq]; rfl
   rw [e,w64 (by omega) (by omega)]) (by
   unfold hG
   simp only [dge (show ¬ N < M.length by omega),cond_false])
 have e0:((0:Int),(0:Int),M)=(((bO 0 C (has M):Nat):Int),((0:Nat):Int),M):=rfl
 rw [e0,key]
 rfl
theorem uB {C:Nat} {x:Option (Int×List Int)} (h:okR C x) (hC:C≤65536):fZ x=some (liN (aq C (au x))):=by
 cases x with
 | none =>
   have:aq C (au none)=[]:=List.filter_eq_nil_iff.2 (fun a _=>by simp [au])
   rw [this]
   unfold fZ
   rw [show ie none=some () from rfl,oY]
   simp only [Option.bind_some]
   rw [eG (b:=[]) (by unfold fV; rfl)]
   rfl
 | some e =>
   obtain ⟨s,l⟩:=e
   obtain ⟨h1,h2⟩:=h _ rfl
   dsimp only at h1 h2
   subst h1
   obtain ⟨r,q1,q2⟩:=vW h2 (body:=fV (some ((C:Int),l))) (fun c k hk=>by
     have:=de h2 hk
     unfold fV
     have e1:decide ((0:Int)≤(k:Int))=true:=by simp
     simp only [e1,cond_true]
     rw [w64 (by omega) (by omega)]) (fun c=>by unfold fV; rfl)
   unfold fZ
   rw [show ie (some ((C:Int),l))=some () from rfl]
   simp only [Option.bind_some,q1,q2]
   rfl
theorem vi {N C:Nat} {M:MX} (h:Mx N C M) (r:Int):fW (some ((C:Int),M)) r=some (liN (aq C fun c=>decide (0≤r)&&has M r.toNat c)):=by
 unfold fW
 rw [qm]
 simp only [Option.bind_some,uB (okO h r) h.hC]
 congr 3
 funext c
 exact hasO M r c
theorem vw {n:Nat} {l:List Int} (h:Ds n l):fR (n:Int) l=some (false,l):=by
 have hn:=h.hn
 have hl:=h.len
 unfold fR
 have e:(!decide ((n:Int)=(n:Int)))=false:=by simp
 rw [e]
 simp only [cond_false]
 have key:=ca (body:=hY l) (fun k=>(false,l,(k:Int))) l.length (b:=(false,l)) (fun k hk=>by
   unfold hY
   have hw:=h.wd l[k] (List.getElem_mem hk)
   obtain ⟨x,hx,hx2⟩:∃ x:Nat,l[k]=(x:Int)∧x < 18446744073709551616:=by
     unfold Wd at hw
     exact ⟨_,(Int.toNat_of_nonneg hw.1).symm,by omega⟩
   have ha:=(n8 x x hx2 hx2).2 (fun i h=>h)
   simp only [dlt hk,cond_true,aF hk,Option.bind_some,hx,ha,aG hk (by omega)]
   simp) (by
   unfold hY
   simp only [dge (Nat.lt_irrefl _),cond_false])
 have e0:(false,l,(0:Int))=(false,l,((0:Nat):Int)):=rfl
 rw [e0,key]
 rfl
theorem orR {C:Nat} {s l:List Int} (h:Ds C s) (h':Ds C l):∃ b q,bB (C:Int) s (C:Int) l=some (b,q,l)∧okR C (some ((C:Int),q))∧(∀ c,mem q c=(mem s c||mem l c))∧(b=true↔∃ c,mem l c=true∧mem s c=false):=by
 obtain ⟨b,q,h1,h2,h3,h4⟩:=ph h h'
 exact ⟨b,q,h1,fun e he=>by cases he; exact ⟨rfl,h2⟩,h3,h4⟩
theorem wL {N C:Nat} {M:MX} (h:Mx N C M) {j:Nat} (hj:j < N) (k:Int) {x:Option (Int×List Int)} (hx:okR C x) (hsub:∀ c,has M j c=true→au x c=true) :
   ∃ b x',orH k (C:Int) M j x=some (b,x')∧okR C x'∧(∀ c,au x' c=(au x c||(decide (0≤k)&&has M k.toNat c)))∧(b=true↔∃ c,(decide (0≤k)&&has M k.toNat c)=true∧au x c=false)∧(x≠none→x'≠none):=by
 have hC:=h.hC
 have hlen:=h.len
 have same:(∀ c,(decide (0≤k)&&has M k.toNat c)=true→au x c=true)→orH k (C:Int) M j x=some (false,x)→∃ b x',orH k (C:Int) M j x=some (b,x')∧okR C x'∧(∀ c,au x' c=(au x c||(decide (0≤k)&&has M k.toNat c)))∧(b=true↔∃ c,(decide (0≤k)&&has M k.toNat c)=true∧au x c=false)∧(x≠none→x'≠none):=fun hs he =>
   ⟨false,x,he,hx,fun c=>by
     cases hq:(decide (0≤k)&&has M k.toNat c) with
     | false=>simp
     | true=>rw [hs c hq]; rfl,Iff.intro (fun h=>(by cases h)) (fun ⟨c,h1,h2⟩=>(by rw [hs c h1] at h2; cases h2)),id⟩
 by_cases hk:0≤k∧k < (M.length:Int)
 . obtain ⟨k',rfl⟩:∃ k':Nat,k=(k':Int):=⟨k.toNat,by omega⟩
   have hk2:k' < M.length:=by omega
   by_cases hkj:k'=j
   . subst hkj
     refine same (fun c hc=>hsub c (by simpa using hc)) ?_
     unfold orH
     rw [if_pos hk,if_pos (Int.toNat_natCast _)]
     cases x with
     | none=>rfl
     | some e =>
       obtain ⟨s,l⟩:=e
       obtain ⟨p1,p2⟩:=hx _ rfl
       dsimp only at p1 p2
       subst p1
       simp only [vw p2,Option.bind_some]
   . have hd : decide ((0 : Int) ≤ (k' : Int)) = true := by simp
     simp only [hd,Bool.true_and,Int.toNat_natCast] at same ⊢
     have hun:orH (k':Int) (C:Int) M j x=(match (generalizing:=false) M[k']?.join with
         | some b=>(match (generalizing:=false) x with
           | some s=>(bB s.1 s.2 b.1 b.2).bind fun r=>some (r.1,some (s.1,r.2.1))
           | none=>(cj (C:Int)).bind fun o=>(match (generalizing:=false) o with
             | .inl _=>none
             | .inr q=>(bB q.2.1 q.2.2 b.1 b.2).bind fun r=>some (r.1,some (q.2.1,r.2.1))))
         | none=>some (false,x)):=by
       unfold orH
       rw [if_pos hk,if_neg (show ¬ ((k':Int)).toNat=j by rw [Int.toNat_natCast]; exact hkj)]
       rfl
     cases hy:M[k']?.join with
     | none =>
       have hM:M[k']? = some none:=by
         rw [iU hk2] at hy
         rw [List.getElem?_eq_getElem hk2,hy]
       refine same (fun c hc=>?_) (by rw [hun,hy])
       unfold has at hc
       rw [hy] at hc; cases hc
     | some b =>
       obtain ⟨bs,bl⟩:=b
       obtain ⟨p1,p2⟩:=h.ok k' _ hy
       dsimp only at p1 p2
       subst p1
       have hh:∀ c,has M k' c=mem bl c:=fun c=>by unfold has; rw [hy]; rfl
       cases x with
       | none =>
         obtain ⟨b,q,q1,q2,q3,q4⟩:=orR (pX (n:=C) (by omega)) p2
         refine ⟨b,some ((C:Int),q),?_,q2,fun c=>?_,?_,fun h=>absurd rfl h⟩
         . rw [hun,hy]
           simp only [pK hC,Option.bind_some,q1]
         . show mem q c=_
           rw [q3,gt,hh]; rfl
         . rw [q4]
           constructor
           . rintro ⟨c,h1,_⟩; exact ⟨c,by rw [hh]; exact h1,rfl⟩
           . rintro ⟨c,h1,_⟩; exact ⟨c,by rw [← hh]; exact h1,gt _ _⟩
       | some e =>
         obtain ⟨s,l⟩:=e
         obtain ⟨p3,p4⟩:=hx _ rfl
         dsimp only at p3 p4
         subst p3
         obtain ⟨b,q,q1,q2,q3,q4⟩:=orR p4 p2
         refine ⟨b,some ((C:Int),q),?_,q2,fun c=>?_,?_,fun _ h=>by cases h⟩
         . rw [hun,hy]
           simp only [Option.bind_some,q1]
         . show mem q c=_
           rw [q3,hh]; rfl
         . rw [q4]
           constructor
           . rintro ⟨c,h1,h2⟩; exact ⟨c,by rw [hh]; exact h1,h2⟩
           . rintro ⟨c,h1,h2⟩; exact ⟨c,by rw [← hh]; exact h1,h2⟩
 . refine same (fun c hc=>?_) ?_
   . simp only [Bool.and_eq_true,decide_eq_true_eq] at hc
     have:=h.lt hc.2
     exact absurd ⟨hc.1,by omega⟩ hk
   . unfold orH
     rw [if_neg hk]
theorem oL {C:Nat} {x:Option (Int×List Int)} (h:okR C x) (i:Int):∃ q,bK x i=some q∧((q = -1∧∀ c:Nat,i≤(c:Int)→au x c=false)∨∃ k:Nat,q=(k:Int)∧i≤(k:Int)∧au x k=true∧∀ c:Nat,i≤(c:Int)→c < k→au x c=false):=by
 cases x with
 | none=>exact ⟨-1,oY i,.inl ⟨rfl,fun c _=>rfl⟩⟩
 | some e =>
   obtain ⟨s,l⟩:=e
   obtain ⟨h1,h2⟩:=h _ rfl
   dsimp only at h1 h2
   subst h1
   exact kz h2 i
structure Wid (N C:Nat) (M:MX) (r:Nat) (x:Option (Int×List Int)):Prop where
 ok:okR C x
 sup:∀ c,has M r c=true→au x c=true
 snd:∀ S:Nat→Prop,(∀ c,has M r c=true→S c)→(∀ k c,S k→has M k c=true→S c)→∀ c,au x c=true→S c
theorem uL {N C:Nat} {M:MX} (h:Mx N C M) {r:Nat} (hr:r < N):∃ b M',hO (r:Int) (C:Int) M=some (b,M')∧Mx N C M'∧(∀ a c,a≠r→has M' a c=has M a c)∧(∀ c,has M r c=true→has M' r c=true) ∧
   (∀ S:Nat→Prop,(∀ c,has M r c=true→S c)→(∀ k c,S k→has M k c=true→S c)→∀ c,has M' r c=true→S c) ∧
   (b=false→(∀ c,has M' r c=has M r c)∧∀ k c,has M r k=true→has M k c=true→has M r c=true)∧(b=true→∃ c,has M' r c=true∧has M r c=false):=by
 have hN:=h.hN
 have hC:=h.hC
 have hlen:=h.len
 have hr2:r < M.length:=by omega
 have key:∀ (i0:Int),((i0 = -1∧∀ c:Nat,(0:Int)≤(c:Int)→au M[r]?.join c=false)∨∃ k:Nat,i0=(k:Int)∧(0:Int)≤(k:Int)∧au M[r]?.join k=true∧∀ c:Nat,(0:Int)≤(c:Int)→c < k→au M[r]?.join c=false) →
     ∃ z:Bool×MX×Int×Option (Int×List Int),loop (gX (r:Int) (C:Int)) (i0,false,M,(r:Int),M[r]?.join)=some z∧(z.2.1=M∧z.2.2.1=(r:Int)∧Wid N C M r z.2.2.2 ∧
       (z.1=false→(∀ c,au z.2.2.2 c=has M r c)∧∀ k c,has M r k=true→has M k c=true→has M r c=true)∧(z.1=true→∃ c,au z.2.2.2 c=true∧has M r c=false)):=by
   intro i0 hi0
   refine bc (I:=fun s=>s.2.2.1=M∧s.2.2.2.1=(r:Int)∧Wid N C M r s.2.2.2.2∧(s.2.1=false→∀ c,au s.2.2.2.2 c=has M r c)∧(s.2.1=true→∃ c,au s.2.2.2.2 c=true∧has M r c=false) ∧
     ∃ f:Nat,((s.1 = -1∧∀ c:Nat,(f:Int)≤(c:Int)→au s.2.2.2.2 c=false)∨∃ k:Nat,s.1=(k:Int)∧(f:Int)≤(k:Int)∧au s.2.2.2.2 k=true∧∀ c:Nat,(f:Int)≤(c:Int)→c < k→au s.2.2.2.2 c=false) ∧
       (s.2.1=false→∀ k c,k < f→has M r k=true→has M k c=true→has M r c=true)) (fun s=>if s.1 < 0 then 0 else C + 1 - s.1.toNat) ?_ ?_
   . rintro ⟨i,t,l,j,x⟩ ⟨rfl,rfl,hw,ht,ht2,f,hi,hp⟩
     dsimp only at *
     rcases hi with ⟨rfl,hi⟩ | ⟨k,rfl,hfk,hk,hlt⟩
     . right
       refine ⟨(t,l,(r:Int),x),by unfold gX; rfl,rfl,rfl,hw,fun h0=>⟨ht h0,fun k c h1 h2=>?_⟩,ht2⟩
       refine hp h0 k c ?_ h1 h2
       rcases Nat.lt_or_ge k f with h3 | h3
       . exact h3
       . have:=hi k (by omega)
         rw [hw.sup k h1] at this; cases this
     . left
       have hkC:k < C:=hw.ok.lt hk
       obtain ⟨b,x',q1,q2,q3,q4,q5⟩:=wL h hr (k:Int) hw.ok hw.sup
       have hd:decide ((0:Int)≤(k:Int))=true:=by simp
       simp only [hd,Bool.true_and,Int.toNat_natCast] at q3 q4
       have hxn:x≠none:=fun e=>by rw [e] at hk; cases hk
       have eO:eh (r:Int) (k:Int) (C:Int) l (r:Int) x=some (b,l,(r:Int),x'):=by
         unfold eh
         rw [if_pos rfl]
         cases x with
         | none=>exact absurd rfl hxn
         | some e=>simp only [Int.toNat_natCast,q1,Option.bind_some]
       obtain ⟨i',n1,n2⟩:=oL q2 (((k + 1:Nat):Int))
       have hw':Wid N C l r x':=⟨q2,fun c hc=>by rw [q3,hw.sup c hc]; rfl,fun S s1 s2 c hc=>by
         rw [q3,Bool.or_eq_true] at hc
         rcases hc with hc | hc
         . exact hw.snd S s1 s2 c hc
         . exact s2 k c (hw.snd S s1 s2 k hk) hc⟩
       have hmu:(if i' < 0 then 0 else C + 1 - i'.toNat) < (if ((k:Nat):Int) < 0 then 0 else C + 1 - ((k:Nat):Int).toNat):=by
         rw [if_neg (by omega:¬ ((k:Nat):Int) < 0),Int.toNat_natCast]
         rcases n2 with ⟨rfl,_⟩ | ⟨k',rfl,k1,k2,_⟩
         . simp; omega
         . rw [if_neg (by omega),Int.toNat_natCast]
           have:=q2.lt k2
           omega
       refine ⟨(i',(t||b),l,(r:Int),x'),?_,⟨rfl,rfl,hw',?_,?_,k + 1,n2,?_⟩,hmu⟩
       . unfold gX
         simp only [hd,cond_true,eO,Option.bind_some,aG (show k < 65536 by omega) (by omega),n1]
         cases b <;> cases t <;> rfl
       . intro h0 c
         simp only [Bool.or_eq_false_iff] at h0
         rw [q3,ht h0.1]
         cases hc:has l k c with
         | false=>simp
         | true =>
           have:¬ ∃ c,has l k c=true∧au x c=false:=fun e=>by rw [q4.2 e] at h0; cases h0.2
           have h5:au x c=true:=by
             cases h6:au x c with
             | true=>rfl
             | false=>exact absurd ⟨c,hc,h6⟩ this
           rw [ht h0.1] at h5
           rw [h5]; rfl
       . intro h0
         simp only [Bool.or_eq_true] at h0
         rcases h0 with h0 | h0
         . obtain ⟨c,c1,c2⟩:=ht2 h0
           exact ⟨c,by rw [q3,c1]; rfl,c2⟩
         . obtain ⟨c,c1,c2⟩:=q4.1 h0
           refine ⟨c,by rw [q3,c1]; simp,?_⟩
           cases h6:has l r c with
           | false=>rfl
           | true=>rw [hw.sup c h6] at c2; cases c2
       . intro h0 k' c hk' h1 h2
         simp only [Bool.or_eq_false_iff] at h0
         rcases Nat.lt_or_ge k' f with h3 | h3
         . exact hp h0.1 k' c h3 h1 h2
         . have h4:=hw.sup k' h1
           rcases Nat.lt_or_ge k' k with h5 | h5
           . rw [hlt k' (by omega) h5] at h4; cases h4
           . obtain rfl:k'=k:=by omega
             have:¬ ∃ c,has l k' c=true∧au x c=false:=fun e=>by rw [q4.2 e] at h0; cases h0.2
             have h5:au x c=true:=by
               cases h6:au x c with
               | true=>rfl
               | false=>exact absurd ⟨c,h2,h6⟩ this
             rw [ht h0.1] at h5; exact h5
   . exact ⟨rfl,rfl,⟨h.ok r,fun c hc=>hc,fun S s1 s2 c hc=>s1 c hc⟩,fun _ c=>rfl,(fun h0=>by cases h0),0,hi0,fun _ k c h0=>by omega⟩
 obtain ⟨i0,n1,n2⟩:=oL (h.ok r) 0
 obtain ⟨⟨t,l,j,x⟩,z1,z2,z3,z4,z5,z6⟩:=key i0 n2
 dsimp only at z2 z3 z4 z5 z6
 subst z2 z3
 have hx:∀ c,has (l.set r x) r c=au x c:=fun c=>by rw [ll hr2,if_pos rfl]
 refine ⟨t,l.set r x,?_,h.set hr z4.ok,fun a c ha=>by rw [ll hr2,if_neg ha],fun c hc=>by rw [hx]; exact z4.sup c hc,fun S s1 s2 c hc=>by rw [hx] at hc; exact z4.snd S s1 s2 c hc,fun h0=>⟨fun c=>by rw [hx]; exact (z5 h0).1 c,(z5 h0).2⟩,fun h0=>?_⟩
 . unfold hO
   have eR:ed (r:Int) (C:Int) l (r:Int) l[r]?.join=some (l,(r:Int),l[r]?.join):=by unfold ed; rw [if_pos rfl]
   simp only [fC hr2,Option.bind_some,eR,n1,z1,Int.toNat_natCast]
 . obtain ⟨c,c1,c2⟩:=z6 h0
   exact ⟨c,by rw [hx]; exact c1,c2⟩
theorem vm {C:Nat} {f g:Nat→Bool} (hs:∀ c,f c=true→g c=true) {c:Nat} (hc:c < C) (h1:g c=true) (h2:f c=false):(aq C f).length < (aq C g).length:=by
 unfold aq
 induction C with
 | zero=>omega
 | succ C ih =>
   have le:∀ n,((List.range n).filter f).length≤((List.range n).filter g).length:=fun n=>by
     induction n with
     | zero=>simp
     | succ n ih =>
       rw [List.range_succ,List.filter_append,List.filter_append,List.length_append,List.length_append]
       have:(List.filter f [n]).length≤(List.filter g [n]).length:=by
         cases hf:f n with
         | false=>simp [List.filter_cons,hf]
         | true=>simp [List.filter_cons,hf,hs n hf]
       omega
   rw [List.range_succ,List.filter_append,List.filter_append,List.length_append,List.length_append]
   by_cases hcC:c=C
   . subst hcC
     have:=le c
     simp [List.filter_cons,h1,h2]
     omega
   . have:=ih (by omega)
     have:(List.filter f [C]).length≤(List.filter g [C]).length:=by
       cases hf:f C with
       | false=>simp [List.filter_cons,hf]
       | true=>simp [List.filter_cons,hf,hs C hf]
     omega
theorem s8 {N C:Nat} {M:MX} (h:Mx N C M) {r:Nat} (hr:r < N):∃ M',loop (g9 (C:Int) (r:Int)) M=some M'∧(Mx N C M'∧(∀ a c,a≠r→has M' a c=has M a c)∧(∀ c,has M r c=true→has M' r c=true) ∧
   (∀ S:Nat→Prop,(∀ c,has M r c=true→S c)→(∀ k c,S k→has M k c=true→S c)→∀ c,has M' r c=true→S c)∧∀ k c,has M' r k=true→has M' k c=true→has M' r c=true):=by
 refine bc (I:=fun M1=>Mx N C M1∧(∀ a c,a≠r→has M1 a c=has M a c)∧(∀ c,has M r c=true→has M1 r c=true)∧(∀ S:Nat→Prop,(∀ c,has M r c=true→S c)→(∀ k c,S k→has M k c=true→S c)→∀ c,has M1 r c=true→S c))
   (fun M1=>C - (aq C (has M1 r)).length) ?_ ⟨h,fun _ _ _=>rfl,fun _ hc=>hc,fun S s1 s2 c hc=>s1 c hc⟩
 rintro M1 ⟨g1,g2,g3,g4⟩
 obtain ⟨b,M2,q1,q2,q3,q4,q5,q6,q7⟩:=uL g1 hr
 have e:g9 (C:Int) (r:Int) M1=cond b (some (.inl M2)) (some (.inr M2)):=by
   unfold g9
   rw [q1]; rfl
 have snd2:∀ S:Nat→Prop,(∀ c,has M r c=true→S c)→(∀ k c,S k→has M k c=true→S c)→∀ c,has M2 r c=true→S c:=fun S s1 s2 c0 hc0=>by
   refine q5 S (fun c hc=>g4 S s1 s2 c hc) (fun k c hk hc=>?_) c0 hc0
   clear hc0
   by_cases hkr:k=r
   . subst hkr; exact g4 S s1 s2 c hc
   . rw [g2 k c hkr] at hc; exact s2 k c hk hc
 have I2:Mx N C M2∧(∀ a c,a≠r→has M2 a c=has M a c)∧(∀ c,has M r c=true→has M2 r c=true):=⟨q2,fun a c ha=>(q3 a c ha).trans (g2 a c ha),fun c hc=>q4 c (g3 c hc)⟩
 cases b with
 | true =>
   left
   obtain ⟨c,c1,c2⟩:=q7 rfl
   refine ⟨M2,e,⟨I2.1,I2.2.1,I2.2.2,snd2⟩,?_⟩
   have h1:=vm (f:=has M1 r) (g:=has M2 r) q4 (q2.lt c1).2 c1 c2
   have h2:=cP C (has M2 r)
   show C - (aq C (has M2 r)).length < C - (aq C (has M1 r)).length
   omega
 | false =>
   right
   obtain ⟨h1,h2⟩:=q6 rfl
   refine ⟨M2,e,I2.1,I2.2.1,I2.2.2,snd2,fun k c hk hc=>?_⟩
   rw [h1] at hk ⊢
   have hc':has M1 k c=true:=by
     by_cases hkr:k=r
     . subst hkr; rw [h1] at hc; exact hc
     . rw [q3 k c hkr] at hc; exact hc
   exact h2 k c hk hc'
inductive TC (R:Nat→Nat→Bool):Nat→Nat→Prop where
 | base {a b:Nat}:R a b=true→TC R a b
 | step {a b c:Nat}:TC R a b→R b c=true→TC R a c
theorem TC.trans {R:Nat→Nat→Bool} {a b c:Nat} (h:TC R a b) (k:TC R b c):TC R a c:=by
 induction k with
 | base h1=>exact .step h h1
 | step _ h1 ih=>exact .step ih h1
theorem TC.least {R:Nat→Nat→Bool} {T:Nat→Nat→Prop} (h1:∀ a b,R a b=true→T a b) (h2:∀ a b c,T a b→T b c→T a c) {a b:Nat} (h:TC R a b):T a b:=by
 induction h with
 | base h=>exact h1 _ _ h
 | step _ h ih=>exact h2 _ _ _ ih (h1 _ _ h)
theorem tg {N:Nat} {M:MX} (h:Mx N N M):∃ M',hP (N:Int) M=some (((bO N N (has M'):Nat):Int) - ((bO N N (has M):Nat):Int),M')∧Mx N N M'∧∀ a c,has M' a c=true↔TC (has M) a c:=by
 have hN:=h.hN
 have hlen:=h.len
 have key:=bc (body:=gZ (N:Int) (N:Int)) (fun s=>∃ k:Nat,s.1=(k:Int)∧k≤N∧Mx N N s.2∧(∀ a c,has M a c=true→has s.2 a c=true)∧(∀ a c,has s.2 a c=true→TC (has M) a c)∧∀ a c,a < k→TC (has M) a c→has s.2 a c=true) (fun s=>N - s.1.toNat)
   (Q:=fun M'=>Mx N N M'∧∀ a c,has M' a c=true↔TC (has M) a c) ?_ (s:=((0:Int),M)) ⟨0,rfl,Nat.zero_le _,h,fun _ _ hc=>hc,fun a c hc => .base hc,fun a c h0=>by omega⟩
 . obtain ⟨M',k1,k2,k3⟩:=key
   refine ⟨M',?_,k2,k3⟩
   unfold hP
   have er:∀ M1:MX,Mx N N M1→cE (N:Int) M1=some ((N:Int),M1):=fun M1 h1=>by
     show some (((M1.length:Nat):Int),M1)=_
     rw [h1.len]
   have ec:∀ M1:MX,j7 (N:Int) M1=some ((N:Int),M1):=fun M1=>rfl
   have e0:(!decide ((N:Int)=(N:Int)))=false:=by simp
   have b1:=lK N N (has M')
   have b2:=lK N N (has M)
   have b3:N * N≤65536 * 65536:=Nat.mul_le_mul hN hN
   simp only [er M h,ec,Option.bind_some,e0,cond_false,nZ h,k1,nZ k2]
   rw [w64 (by omega) (by omega)]
   rfl
 . rintro ⟨i,M1⟩ ⟨k,rfl,hk,g1,g2,g3,g4⟩
   dsimp only at *
   by_cases hkN:k < N
   . left
     obtain ⟨M2,q1,q2,q3,q4,q5,q6⟩:=s8 g1 hkN
     refine ⟨(((k + 1:Nat):Int),M2),?_,⟨k + 1,rfl,hkN,q2,fun a c hc=>?_,fun a c hc=>?_,fun a c ha hc=>?_⟩,?_⟩
     . unfold gZ
       simp only [dlt hkN,cond_true,q1,Option.bind_some,aG hkN (by omega)]
     . by_cases hak:a=k
       . subst hak; exact q4 c (g2 _ c hc)
       . rw [q3 a c hak]; exact g2 a c hc
     . by_cases hak:a=k
       . subst hak
         exact q5 (fun c=>TC (has M) a c) (fun c hc=>g3 _ c hc) (fun k' c hk' hc=>hk'.trans (g3 _ c hc)) c hc
       . rw [q3 a c hak] at hc; exact g3 a c hc
     . by_cases hak:a=k
       . have up:∀ b c,has M b c=true→has M2 b c=true:=fun b d hd=>by
           by_cases hb:b=k
           . rw [hb] at hd ⊢; exact q4 d (g2 _ d hd)
           . rw [q3 b d hb]; exact g2 b d hd
         subst hak
         have all:∀ {c},TC (has M) a c→has M2 a c=true:=fun {c} hc=>by
           induction hc with
           | base h1=>exact up _ _ h1
           | step _ h1 ih=>exact q6 _ _ ih (up _ _ h1)
         exact all hc
       . rw [q3 a c hak]; exact g4 a c (by omega) hc
     . show N - ((k + 1:Nat):Int).toNat < N - ((k:Nat):Int).toNat
       rw [Int.toNat_natCast,Int.toNat_natCast]; omega
   . right
     obtain rfl:k=N:=by omega
     refine ⟨M1,?_,g1,fun a c=>⟨g3 a c,fun hc=>?_⟩⟩
     . unfold gZ
       simp only [dge (Nat.lt_irrefl _),cond_false]
     . refine g4 a c ?_ hc
       have:∀ {a c},TC (has M) a c→a < k:=fun {a c} hc=>by
         induction hc with
         | base h1=>exact (h.lt h1).1
         | step _ _ ih=>exact ih
       exact this hc
def zr (M:List (List Int)):Nat:=(M.map fun r=>r.count 0).sum
theorem tz (i:Int):bh i i=some ():=by unfold bh; simp
theorem count_set {r:List Int} {c:Nat} (h:c < r.length) (h0:r[c]=0):(r.set c 1).count 0 + 1=r.count 0:=by
 rw [List.count_set h]
 have:0 < r.count 0:=List.count_pos_iff.2 (h0 ▸ List.getElem_mem h)
 simp [h0]
 omega
theorem pt:∀ {l:List Nat} {a:Nat} (h:a < l.length) {n:Nat},n + 1=l[a]→(l.set a n).sum + 1=l.sum
 | [],a,h,n,e=>by cases h
 | x :: l,0,h,n,e=>by simp at e ⊢; omega
 | x :: l,a + 1,h,n,e=>by
   have:=pt (l:=l) (a:=a) (by simpa using h) (n:=n) (by simpa using e)
   simp only [List.set_cons_succ,List.sum_cons]; omega
theorem wv {M:List (List Int)} {a c:Nat} (h:a < M.length) (hc:c < M[a].length) (h0:M[a][c]=0):zr (M.set a (M[a].set c 1)) + 1=zr M:=by
 unfold zr
 rw [List.map_set]
 refine pt (by simpa using h) ?_
 rw [List.getElem_map]
 exact count_set hc h0
def at2 (M:List (List Int)) (a b:Nat):Int:=((M[a]?.getD [])[b]?).getD 0
structure Rl (U:Nat) (M:List (List Int)):Prop where
 len:M.length=U
 row:∀ a (h:a < M.length),M[a].length=U
 bit:∀ a b,at2 M a b=0∨at2 M a b=1
theorem dp {M:List (List Int)} {a b:Nat} (ha:a < M.length) (hb:b < M[a].length):M[a][b]=at2 M a b:=by
 unfold at2; rw [List.getElem?_eq_getElem ha,Option.getD_some,List.getElem?_eq_getElem hb,Option.getD_some]
theorem Rl.lt {U:Nat} {M:List (List Int)} (h:Rl U M) {a b:Nat} (h1:at2 M a b=1):a < U∧b < U:=by
 rcases Nat.lt_or_ge a M.length with h2 | h2
 . rcases Nat.lt_or_ge b M[a].length with h3 | h3
   . exact ⟨h.len ▸ h2,h.row a h2 ▸ h3⟩
   . unfold at2 at h1; rw [List.getElem?_eq_getElem h2,Option.getD_some,List.getElem?_eq_none h3] at h1; cases h1
 . unfold at2 at h1; rw [List.getElem?_eq_none h2] at h1; cases h1
theorem lx {M:List (List Int)} {a c:Nat} (h:a < M.length) (hc:c < M[a].length) (p q:Nat):at2 (M.set a (M[a].set c 1)) p q=if p=a∧q=c then 1 else at2 M p q:=by
 unfold at2
 rw [List.getElem?_set]
 by_cases hp:a=p
 . subst hp
   rw [if_pos rfl,if_pos h,Option.getD_some,List.getElem?_set]
   by_cases hq:c=q
   . subst hq; rw [if_pos rfl,if_pos hc]; simp
   . rw [if_neg hq,if_neg (fun e=>hq e.2.symm),List.getElem?_eq_getElem h]; rfl
 . rw [if_neg hp,if_neg (fun e=>hp e.1.symm)]
theorem Rl.set {U:Nat} {M:List (List Int)} (h:Rl U M) {a c:Nat} (ha:a < M.length) (hc:c < M[a].length):Rl U (M.set a (M[a].set c 1)):=by
 refine ⟨by rw [List.length_set]; exact h.len,fun q hq=>?_,fun p q=>?_⟩
 . rw [List.length_set] at hq
   by_cases e:a=q
   . subst e; rw [List.getElem_set_self,List.length_set]; exact h.row a hq
   . rw [List.getElem_set_ne e]; exact h.row q hq
 . rw [lx ha hc]
   split
   . exact .inr rfl
   . exact h.bit p q
def Snd (M0 M:List (List Int)):Prop:=∀ T:Nat→Nat→Prop,(∀ p q r,T p q→T q r→T p r)→(∀ p q,at2 M0 p q=1→T p q)→∀ p q,at2 M p q=1→T p q
structure St (U:Nat) (t0:Bool) (M0:List (List Int)) (r:Bool×List (List Int)) (P:List (List Int)→Prop):Prop where
 rl:Rl U r.2
 up:∀ p q,at2 M0 p q=1→at2 r.2 p q=1
 snd:Snd M0 r.2
 le:zr r.2≤zr M0
 lt:r.1=true→t0=true∨zr r.2 < zr M0
 no:r.1=false→r.2=M0∧t0=false∧P M0
theorem St.refl {U:Nat} {t:Bool} {M:List (List Int)} (h:Rl U M) {P:List (List Int)→Prop} (hp:P M):St U t M (t,M) P :=
 ⟨h,fun _ _ k=>k,fun _ _ k=>k,Nat.le_refl _,fun k => .inl k,fun k=>⟨rfl,k,hp⟩⟩
theorem St.trans {U:Nat} {t0 t1:Bool} {M0 M1:List (List Int)} {r:Bool×List (List Int)} {P Q:List (List Int)→Prop} (h:St U t0 M0 (t1,M1) P) (k:St U t1 M1 r Q):St U t0 M0 r (fun M=>P M∧Q M) where
 rl:=k.rl
 up:=fun p q e=>k.up p q (h.up p q e)
 snd:=fun T t1 t2=>k.snd T t1 (h.snd T t1 t2)
 le:=Nat.le_trans k.le h.le
 lt:=fun e=>by
   rcases k.lt e with e1 | e1
   . rcases h.lt e1 with e2 | e2
     . exact .inl e2
     . exact .inr (Nat.lt_of_le_of_lt k.le e2)
   . exact .inr (Nat.lt_of_lt_of_le e1 h.le)
 no:=fun e=>by
   obtain ⟨k1,k2,k3⟩:=k.no e
   obtain ⟨h1,h2,h3⟩:=h.no k2
   dsimp only at h1
   subst h1
   exact ⟨k1,h2,h3,k3⟩
theorem St.imp {U:Nat} {t0:Bool} {M0:List (List Int)} {r:Bool×List (List Int)} {P Q:List (List Int)→Prop} (h:St U t0 M0 r P) (i:P M0→Q M0):St U t0 M0 r Q :=
 ⟨h.rl,h.up,h.snd,h.le,h.lt,fun e=>let ⟨a,b,c⟩:=h.no e; ⟨a,b,i c⟩⟩
theorem rl4 {U:Nat} (hU:U≤65536) {a b:Nat} (ha:a < U) (hb:b < U) {t0:Bool} {M0:List (List Int)} (h0:Rl U M0) :
   ∃ r,loop (ii (U:Int) (a:Int) (b:Int)) (t0,0,M0)=some r∧St U t0 M0 r (fun M=>∀ d,d < U→at2 M a b=1→at2 M b d=1→at2 M a d=1):=by
 refine bc (body:=ii (U:Int) (a:Int) (b:Int)) (fun s=>∃ c:Nat,s.2.1=(c:Int)∧c≤U∧St U t0 M0 (s.1,s.2.2) (fun M=>∀ d,d < c→at2 M a b=1→at2 M b d=1→at2 M a d=1)) (fun s=>U - s.2.1.toNat) ?_ ⟨0,rfl,Nat.zero_le _,.refl h0 (fun d h=>absurd h (Nat.not_lt_zero d))⟩
 rintro ⟨t,i,M⟩ ⟨c,rfl,hc,hs⟩
 dsimp only at hs ⊢
 have hM:Rl U M:=hs.rl
 unfold ii
 dsimp only
 by_cases hcU:c < U
 . left
   have la:a < M.length:=by rw [hM.len]; exact ha
   have lb:b < M.length:=by rw [hM.len]; exact hb
   have lc:c < M[a].length:=by rw [hM.row a la]; exact hcU
   have lab:b < M[a].length:=by rw [hM.row a la]; exact hb
   have lbc:c < M[b].length:=by rw [hM.row b lb]; exact hcU
   have sa:M.set a M[a]=M:=List.set_getElem_self la
   have sb:M.set b M[b]=M:=List.set_getElem_self lb
   have dn:∀ k:Nat,k=c + 1→U - k < U - c:=fun k e=>by omega
   have ext:∀ r:Bool×List (List Int),St U t M r (fun M=>at2 M a b=1→at2 M b c=1→at2 M a c=1)→St U t0 M0 (r.1,r.2) (fun M=>∀ d,d < c + 1→at2 M a b=1→at2 M b d=1→at2 M a d=1):=fun r hr=>(hs.trans hr).imp (fun ⟨k1,k2⟩ d hd=>by
     by_cases e:d=c
     . subst e; exact k2
     . exact k1 d (by omega))
   rw [dlt hcU,cond_true,aF la]
   simp only [Option.bind_some,tz,Int.toNat_natCast,aF lab,aF lc,aF lb,aF lbc,sa,sb,aF la,aG hcU (by omega:U≤9223372036854775807),dp la lab,dp lb lbc,dp la lc]
   by_cases g1:at2 M a b=1
   . rw [decide_eq_true g1,cond_true]
     by_cases g2:at2 M b c=1
     . rw [decide_eq_true g2,cond_true]
       by_cases g3:at2 M a c=0
       . rw [decide_eq_true g3,cond_true]
         have hzz:=wv la lc (by rw [dp la lc]; exact g3)
         refine ⟨_,rfl,⟨c + 1,rfl,by omega,ext (true,M.set a (M[a].set c 1)) ?_⟩,by dsimp only; omega⟩
         refine ⟨hM.set la lc,fun p q e=>?_,fun T t1 t2 p q e=>?_,?_,fun _ => .inr ?_,fun e=>by cases e⟩
         . dsimp only; rw [lx la lc]; split
           . rfl
           . exact e
         . dsimp only at e; rw [lx la lc] at e
           split at e
           . rename_i k; obtain ⟨rfl,rfl⟩:=k
             exact t1 _ _ _ (t2 _ _ g1) (t2 _ _ g2)
           . exact t2 p q e
         . dsimp only; omega
         . dsimp only; omega
       . rw [decide_eq_false g3,cond_false]
         exact ⟨_,rfl,⟨c + 1,rfl,by omega,ext (t,M) (.refl hM (fun _ _=>(hM.bit a c).resolve_left g3))⟩,by dsimp only; omega⟩
     . rw [decide_eq_false g2,cond_false]
       exact ⟨_,rfl,⟨c + 1,rfl,by omega,ext (t,M) (.refl hM (fun _ k=>absurd k g2))⟩,by dsimp only; omega⟩
   . rw [decide_eq_false g1,cond_false]
     exact ⟨_,rfl,⟨c + 1,rfl,by omega,ext (t,M) (.refl hM (fun k=>absurd k g1))⟩,by dsimp only; omega⟩
 . right
   obtain rfl:c=U:=by omega
   rw [dge hcU,cond_false]
   exact ⟨_,rfl,hs⟩
theorem rl5 {U:Nat} (hU:U≤65536) {a:Nat} (ha:a < U) {t0:Bool} {M0:List (List Int)} (h0:Rl U M0) :
   ∃ r,loop (io (U:Int) (a:Int)) (t0,0,M0)=some r∧St U t0 M0 r (fun M=>∀ b,b < U→∀ d,d < U→at2 M a b=1→at2 M b d=1→at2 M a d=1):=by
 refine bc (body:=io (U:Int) (a:Int)) (fun s=>∃ c:Nat,s.2.1=(c:Int)∧c≤U∧St U t0 M0 (s.1,s.2.2) (fun M=>∀ b,b < c→∀ d,d < U→at2 M a b=1→at2 M b d=1→at2 M a d=1)) (fun s=>U - s.2.1.toNat) ?_ ⟨0,rfl,Nat.zero_le _,.refl h0 (fun d h=>absurd h (Nat.not_lt_zero d))⟩
 rintro ⟨t,i,M⟩ ⟨c,rfl,hc,hs⟩
 dsimp only at hs ⊢
 have hM:Rl U M:=hs.rl
 unfold io
 dsimp only
 by_cases hcU:c < U
 . left
   obtain ⟨⟨t1,M1⟩,e,hr⟩:=rl4 hU ha hcU (t0:=t) hM
   rw [dlt hcU,cond_true,e]
   simp only [Option.bind_some,aG hcU (by omega:U≤9223372036854775807)]
   refine ⟨_,rfl,⟨c + 1,rfl,by omega,(hs.trans hr).imp (fun ⟨k1,k2⟩ d hd=>?_)⟩,by dsimp only; rw [Int.toNat_natCast,Int.toNat_natCast]; omega⟩
   by_cases e:d=c
   . subst e; exact k2
   . exact k1 d (by omega)
 . right
   obtain rfl:c=U:=by omega
   rw [dge hcU,cond_false]
   exact ⟨_,rfl,hs⟩
theorem rl6 {U:Nat} (hU:U≤65536) {M0:List (List Int)} (h0:Rl U M0) :
   ∃ r,loop (ik (U:Int)) (false,0,M0)=some r∧St U false M0 r (fun M=>∀ a,a < U→∀ b,b < U→∀ d,d < U→at2 M a b=1→at2 M b d=1→at2 M a d=1):=by
 refine bc (body:=ik (U:Int)) (fun s=>∃ c:Nat,s.2.1=(c:Int)∧c≤U∧St U false M0 (s.1,s.2.2) (fun M=>∀ a,a < c→∀ b,b < U→∀ d,d < U→at2 M a b=1→at2 M b d=1→at2 M a d=1)) (fun s=>U - s.2.1.toNat) ?_ ⟨0,rfl,Nat.zero_le _,.refl h0 (fun d h=>absurd h (Nat.not_lt_zero d))⟩
 rintro ⟨t,i,M⟩ ⟨c,rfl,hc,hs⟩
 dsimp only at hs ⊢
 have hM:Rl U M:=hs.rl
 unfold ik
 dsimp only
 by_cases hcU:c < U
 . left
   obtain ⟨⟨t1,M1⟩,e,hr⟩:=rl5 hU hcU (t0:=t) hM
   rw [dlt hcU,cond_true,e]
   simp only [Option.bind_some,aG hcU (by omega:U≤9223372036854775807)]
   refine ⟨_,rfl,⟨c + 1,rfl,by omega,(hs.trans hr).imp (fun ⟨k1,k2⟩ d hd=>?_)⟩,by dsimp only; rw [Int.toNat_natCast,Int.toNat_natCast]; omega⟩
   by_cases e:d=c
   . subst e; exact k2
   . exact k1 d (by omega)
 . right
   obtain rfl:c=U:=by omega
   rw [dge hcU,cond_false]
   exact ⟨_,rfl,hs⟩
theorem rl7 {U:Nat} (hU:U≤65536) {M0:List (List Int)} (h0:Rl U M0):∃ M,loop (im (U:Int)) (true,M0)=some M∧Rl U M∧(∀ p q,at2 M0 p q=1→at2 M p q=1)∧Snd M0 M∧∀ a b d,at2 M a b=1→at2 M b d=1→at2 M a d=1:=by
 refine bc (body:=im (U:Int)) (fun s=>Rl U s.2∧(∀ p q,at2 M0 p q=1→at2 s.2 p q=1)∧Snd M0 s.2∧(s.1=false→∀ a b d,at2 s.2 a b=1→at2 s.2 b d=1→at2 s.2 a d=1)) (fun s=>2 * zr s.2 + (if s.1=true then 1 else 0)) ?_ ⟨h0,fun _ _ k=>k,fun _ _ k=>k,fun e=>by cases e⟩
 rintro ⟨t,M⟩ ⟨hM,m1,m2,m3⟩
 dsimp only at hM m1 m2 m3 ⊢
 unfold im
 dsimp only
 cases t with
 | true =>
   left
   obtain ⟨⟨t1,M1⟩,e,hr⟩:=rl6 hU hM
   rw [cond_true,e]
   refine ⟨_,rfl,⟨hr.rl,fun p q k=>hr.up p q (m1 p q k),fun T a b=>hr.snd T a (m2 T a b),fun ht=>?_⟩,?_⟩
   . obtain ⟨k1,_,k2⟩:=hr.no ht
     dsimp only at k1
     subst k1
     exact fun a b d g1 g2=>k2 a (hM.lt g1).1 b (hM.lt g1).2 d (hM.lt g2).2 g1 g2
   . dsimp only
     have h2:zr M1≤zr M:=hr.le
     cases t1 with
     | true =>
       rcases hr.lt rfl with k | k
       . cases k
       . have k:zr M1 < zr M:=k
         simp; omega
     | false=>simp; omega
 | false=>right; exact ⟨_,rfl,hM,m1,m2,m3 rfl⟩
def dz (xb:List (Int×Int)) (a b:Nat):Prop:=a=b∨a=0∨((a:Int),(b:Int))∈xb
theorem rl1 (xb:List (Int×Int)) (hb:xb.length≤1000000) (a c:Nat) (v0:Int) (h0:v0=0∨v0=1):∃ v,loop (ip xb (a:Int) (c:Int)) (v0,0)=some v∧(v=0∨v=1)∧(v=1↔v0=1∨((a:Int),(c:Int))∈xb):=by
 refine bc (body:=ip xb (a:Int) (c:Int)) (fun s=>∃ k:Nat,s.2=(k:Int)∧k≤xb.length∧(s.1=0∨s.1=1)∧(s.1=1↔v0=1∨((a:Int),(c:Int))∈xb.take k)) (fun s=>xb.length - s.2.toNat) ?_ ⟨0,rfl,Nat.zero_le _,h0,by simp⟩
 rintro ⟨v,i⟩ ⟨k,rfl,hk,hv,hw⟩
 dsimp only at hv hw ⊢
 unfold ip
 dsimp only
 by_cases hkl:k < xb.length
 . left
   rw [dlt hkl,cond_true,aF hkl]
   simp only [Option.bind_some,aG hkl (by omega:xb.length≤9223372036854775807)]
   have dn:xb.length - ((k + 1:Nat):Int).toNat < xb.length - ((k:Nat):Int).toNat:=by rw [Int.toNat_natCast,Int.toNat_natCast]; omega
   have tk:xb.take (k + 1)=xb.take k++[xb[k]]:=by rw [List.take_succ_eq_append_getElem hkl]
   have no:¬ (((a:Int),(c:Int))=xb[k])→(v=1↔v0=1∨((a:Int),(c:Int))∈xb.take (k + 1)):=fun hn=>by
     rw [hw,tk,List.mem_append,List.mem_singleton]
     simp [hn]
   by_cases q1:xb[k].1=(a:Int)
   . by_cases q2:xb[k].2=(c:Int)
     . simp only [decide_eq_true q1,decide_eq_true q2,cond_true,Option.bind_some]
       refine ⟨_,rfl,⟨k + 1,rfl,by omega,.inr rfl,?_⟩,dn⟩
       rw [tk,List.mem_append,List.mem_singleton]
       simp [← q1,← q2]
     . simp only [decide_eq_true q1,decide_eq_false q2,cond_true,cond_false,Option.bind_some]
       exact ⟨_,rfl,⟨k + 1,rfl,by omega,hv,no (fun e=>q2 (by rw [← e]))⟩,dn⟩
   . simp only [decide_eq_false q1,cond_false,Option.bind_some]
     exact ⟨_,rfl,⟨k + 1,rfl,by omega,hv,no (fun e=>q1 (by rw [← e]))⟩,dn⟩
 . right
   rw [dge hkl,cond_false]
   rw [List.take_of_length_le (by omega)] at hw
   exact ⟨_,rfl,hv,hw⟩
theorem rl2 {U:Nat} (hU:U≤65536) (xb:List (Int×Int)) (hb:xb.length≤1000000) (a:Nat):∃ r,loop (ij (U:Int) xb (a:Int)) ([],0)=some r∧r.length=U∧∀ b (h:b < r.length),(r[b]=0∨r[b]=1)∧(r[b]=1↔dz xb a b):=by
 refine bc (body:=ij (U:Int) xb (a:Int)) (fun s=>∃ k:Nat,s.2=(k:Int)∧k≤U∧s.1.length=k∧∀ b (h:b < s.1.length),(s.1[b]=0∨s.1[b]=1)∧(s.1[b]=1↔dz xb a b)) (fun s=>U - s.2.toNat) ?_ ⟨0,rfl,Nat.zero_le _,rfl,fun b h=>absurd h (Nat.not_lt_zero _)⟩
 rintro ⟨r,i⟩ ⟨k,rfl,hk,hl,hr⟩
 dsimp only at hl hr ⊢
 unfold ij
 dsimp only
 by_cases hkU:k < U
 . left
   rw [dlt hkU,cond_true]
   have hs : ∃ s0 : Int, (cond ((decide ((a : Int) = (k : Int))) || (decide ((a : Int) = 0))) (some (1)) (some (0)) : Option Int) = some s0 ∧ (s0 = 0 ∨ s0 = 1) ∧ (s0 = 1 ↔ a = k ∨ a = 0) := by
     by_cases e:a=k
     . exact ⟨1,by simp [e],.inr rfl,by simp [e]⟩
     . by_cases e0:a=0
       . exact ⟨1,by simp [e0],.inr rfl,by simp [e0]⟩
       . exact ⟨0,by
           have h1:¬ ((a:Int)=(k:Int)):=by omega
           have h2:¬ ((a:Int)=0):=by omega
           rw [decide_eq_false h1,decide_eq_false h2]; rfl,.inl rfl,by simp [e,e0]⟩
   obtain ⟨s0,e0,e1,e2⟩:=hs
   obtain ⟨v,g1,g2,g3⟩:=rl1 xb hb a k s0 e1
   rw [e0]
   simp only [Option.bind_some,g1]
   rw [ce (by simp; omega)]
   simp only [Option.bind_some,aG hkU (by omega:U≤9223372036854775807)]
   refine ⟨_,rfl,⟨k + 1,rfl,by omega,by simp [hl],fun b h=>?_⟩,by dsimp only; rw [Int.toNat_natCast,Int.toNat_natCast]; omega⟩
   dsimp only at h ⊢
   rw [List.length_append,List.length_singleton] at h
   by_cases e:b=k
   . subst e
     have e4:(r++[v])[b]=v:=by rw [List.getElem_append_right (by omega)]; simp [hl]
     rw [e4]
     refine ⟨g2,?_⟩
     rw [g3,e2]; unfold dz; rw [or_assoc]
   . rw [List.getElem_append_left (by omega)]
     exact hr b (by omega)
 . right
   have e:k=U:=by omega
   subst e
   rw [dge hkU,cond_false]
   exact ⟨_,rfl,hl,hr⟩
theorem rl3 {U:Nat} (hU:U≤65536) (xb:List (Int×Int)) (hb:xb.length≤1000000):∃ M,loop (f7 (U:Int) xb) ([],0)=some M∧Rl U M∧∀ a b,at2 M a b=1↔(a < U∧b < U)∧dz xb a b:=by
 have key:∃ M,loop (f7 (U:Int) xb) ([],0)=some M∧M.length=U∧∀ q (h:q < M.length),M[q].length=U∧∀ b (h2:b < M[q].length),(M[q][b]=0∨M[q][b]=1)∧(M[q][b]=1↔dz xb q b):=by
   refine bc (body:=f7 (U:Int) xb) (fun s=>∃ k:Nat,s.2=(k:Int)∧k≤U∧s.1.length=k∧∀ q (h:q < s.1.length),s.1[q].length=U∧∀ b (h2:b < s.1[q].length),(s.1[q][b]=0∨s.1[q][b]=1)∧(s.1[q][b]=1↔dz xb q b)) (fun s=>U - s.2.toNat) ?_ ⟨0,rfl,Nat.zero_le _,rfl,fun q h=>absurd h (Nat.not_lt_zero _)⟩
   rintro ⟨M,i⟩ ⟨k,rfl,hk,hl,hr⟩
   dsimp only at hl hr ⊢
   unfold f7
   dsimp only
   by_cases hkU:k < U
   . left
     obtain ⟨r,e,r1,r2⟩:=rl2 hU xb hb k
     rw [dlt hkU,cond_true,e]
     simp only [Option.bind_some]
     rw [ce (by simp; omega)]
     simp only [Option.bind_some,aG hkU (by omega:U≤9223372036854775807)]
     refine ⟨_,rfl,⟨k + 1,rfl,by omega,by simp [hl],fun q h=>?_⟩,by dsimp only; rw [Int.toNat_natCast,Int.toNat_natCast]; omega⟩
     dsimp only at h ⊢
     rw [List.length_append,List.length_singleton] at h
     by_cases e2:q=k
     . subst e2
       have e4:(M++[r])[q]=r:=by rw [List.getElem_append_right (by omega)]; simp [hl]
       simp only [e4]
       exact ⟨r1,r2⟩
     . have e4:(M++[r])[q]=M[q]:=by rw [List.getElem_append_left (by omega)]
       simp only [e4]
       exact hr q (by omega)
   . right
     have e:k=U:=by omega
     subst e
     rw [dge hkU,cond_false]
     exact ⟨_,rfl,hl,hr⟩
 obtain ⟨M,e,h1,h2⟩:=key
 refine ⟨M,e,⟨h1,fun a h=>(h2 a h).1,fun a b=>?_⟩,fun a b=>?_⟩
 . rcases Nat.lt_or_ge a M.length with ha | ha
   . rcases Nat.lt_or_ge b M[a].length with hb | hb
     . rw [← dp ha hb]; exact ((h2 a ha).2 b hb).1
     . left; unfold at2; rw [List.getElem?_eq_getElem ha,Option.getD_some,List.getElem?_eq_none hb]; rfl
   . left; unfold at2; rw [List.getElem?_eq_none ha]; rfl
 . rcases Nat.lt_or_ge a M.length with ha | ha
   . rcases Nat.lt_or_ge b M[a].length with hb | hb
     . rw [← dp ha hb,((h2 a ha).2 b hb).2]
       have:=(h2 a ha).1
       exact ⟨fun k=>⟨⟨by omega,by omega⟩,k⟩,fun k=>k.2⟩
     . have:=(h2 a ha).1
       have e0:at2 M a b=0:=by unfold at2; rw [List.getElem?_eq_getElem ha,Option.getD_some,List.getElem?_eq_none hb]; rfl
       rw [e0]
       constructor
       . intro k; cases k
       . rintro ⟨k,_⟩; omega
   . have e0:at2 M a b=0:=by unfold at2; rw [List.getElem?_eq_none ha]; rfl
     rw [e0]
     constructor
     . intro k; cases k
     . rintro ⟨k,_⟩; omega
structure Ff (U:Nat) (xb:List (Int×Int)) (f:Nat→Nat→Bool):Prop where
 lt:∀ {a b},f a b=true→a < U∧b < U
 ini:∀ {a b},a < U→b < U→dz xb a b→f a b=true
 cl:∀ {a b c},f a b=true→f b c=true→f a c=true
 least:∀ T:Nat→Nat→Prop,(∀ p q r,T p q→T q r→T p r)→(∀ a b,a < U→b < U→dz xb a b→T a b)→∀ {a b},f a b=true→T a b
def f31 (M:List (List Int)) (a b:Nat):Bool:=decide (at2 M a b=1)
theorem qg {U:Nat} (hU:U≤65536) (xb:List (Int×Int)) (hb:xb.length≤1000000):∃ M,ew (U:Int) xb=some M∧Rl U M∧Ff U xb (f31 M):=by
 obtain ⟨M0,e0,h0,h2⟩:=rl3 hU xb hb
 obtain ⟨M,e1,h1,k1,k2,k3⟩:=rl7 hU h0
 refine ⟨M,?_,h1,?_⟩
 . unfold ew
   have n1:¬ ((U:Int) < 0):=by omega
   have n2:¬ (65536 < (U:Int)):=by omega
   rw [decide_eq_false n1,decide_eq_false n2,Bool.or_self,cond_false,e0]
   simp only [Option.bind_some,e1]
 . refine ⟨fun h=>h1.lt (of_decide_eq_true h),fun ha hb hi=>decide_eq_true (k1 _ _ ((h2 _ _).2 ⟨⟨ha,hb⟩,hi⟩)),fun g1 g2=>decide_eq_true (k3 _ _ _ (of_decide_eq_true g1) (of_decide_eq_true g2)),fun T t1 t2 a b h=>?_⟩
   exact k2 T t1 (fun p q h=>by
     obtain ⟨⟨a1,a2⟩,a3⟩:=(h2 p q).1 h
     exact t2 p q a1 a2 a3) a b (of_decide_eq_true h)
theorem uT {n:Int} (h:n < 0∨65536 < n) (xb:List (Int×Int)):ew n xb=some []:=by
 unfold ew
 have:(decide (n < 0)||decide (65536 < n))=true:=by simp; exact h
 rw [this]; rfl
def ak (f:Nat→Nat→Bool) (a b:Int):Bool:=(decide (0≤a)&&decide (0≤b))&&f a.toNat b.toNat
theorem lh {U:Nat} {M:List (List Int)} (h:Rl U M) (p q:Int):bQ M p q=some (ak (f31 M) p q):=by
 unfold bQ ak
 by_cases g:((((decide (0≤p))&&(decide (p < (((M.length:Nat):Int)))))&&(decide (0≤q)))&&(decide (q < (((M.length:Nat):Int)))))=true
 . rw [g,cond_true]
   simp only [Bool.and_eq_true,decide_eq_true_eq] at g
   obtain ⟨⟨⟨g1,g2⟩,g3⟩,g4⟩:=g
   obtain ⟨a,rfl⟩:=Int.eq_ofNat_of_zero_le g1
   obtain ⟨b,rfl⟩:=Int.eq_ofNat_of_zero_le g3
   have la:a < M.length:=by omega
   have m1:=h.row a la
   have hl:=h.len
   have lb:b < M[a].length:=by rw [m1]; omega
   rw [aF la]
   simp only [Option.bind_some,aF lb,dp la lb,Int.toNat_natCast]
   rw [decide_eq_true g1,decide_eq_true g3]; rfl
 . rw [Bool.eq_false_iff.2 g,cond_false]
   simp only [Option.bind_some,Option.some.injEq]
   symm
   rw [Bool.and_eq_false_iff]
   by_cases h0:0≤p∧0≤q
   . right
     refine decide_eq_false (fun e=>g ?_)
     have:=h.lt e
     have:=h.len
     simp only [Bool.and_eq_true,decide_eq_true_eq]
     omega
   . left
     rw [Bool.and_eq_false_iff]
     simp only [decide_eq_false_iff_not]
     omega
section
theorem mfS {α:Type} [DecidableEq α] (k:α):∀ (l:List (α×Int)) (i:Nat),(az k l i).isSome=decide (k∈l.map (·.1))
 | [],i=>rfl
 | p :: l,i=>by
   unfold az
   by_cases h:p.1=k
   . simp [h]
   . rw [if_neg h,mfS k l (i + 1)]
     have h2:¬ k=p.1:=fun e=>h e.symm
     simp [h2]
def inE (U:Nat) (e:Int×Int):Prop:=(0≤e.1∧e.1 < (U:Int))∧0≤e.2∧e.2 < (U:Int)
theorem fa (r:Int) (U:Nat) (l:List Int) (m:Option (List (Int×Int))) (x:Option (Int×MX)):bZ r (U:Int) l m x=some (decide (0≤r∧r < (U:Int)),l,m,x):=by
 unfold bZ
 by_cases h:0≤r
 . rw [decide_eq_true h,cond_true]
   show some _=_
   simp [h]
 . rw [decide_eq_false h,cond_false]
   simp [h]
theorem pI (r:Int) (U:Int) {l:List Int} (m:List (Int×Int)) (x:Option (Int×MX)) (hm:∀ q,q∈m.map (·.1)↔q∈l) (hl:l.length≤1000000000) :
   ∃ m',fO r U l (some m) x=some (if r∈l then l else l++[r],some m',x)∧∀ q,q∈m'.map (·.1)↔q∈(if r∈l then l else l++[r]):=by
 unfold fO
 simp only [Option.bind_some,mfS]
 by_cases h:r∈l
 . have h1:r∈m.map (·.1):=(hm r).2 h
   refine ⟨m,?_,?_⟩
   . rw [decide_eq_true h1,Bool.not_true,cond_false,if_pos h]
   . rw [if_pos h]; exact hm
 . have h1:¬ r∈m.map (·.1):=fun k=>h ((hm r).1 k)
   refine ⟨bI r 0 m,?_,?_⟩
   . rw [decide_eq_false h1,Bool.not_false,cond_true,ce (by simp; omega),if_neg h]; rfl
   . intro q
     rw [if_neg h,lA,hm,List.mem_append,List.mem_singleton]
structure Nms (U:Nat) (es:List (Int×Int)) (l:List Int) (m:List (Int×Int)):Prop where
 nd:l.Nodup
 len:l.length≤2 * es.length
 key:∀ q,q∈m.map (·.1)↔q∈l
 mem:∀ q,q∈l↔∃ e∈es,inE U e∧(q=e.1∨q=e.2)
theorem qf {l:List Int} (h:l.Nodup) (r:Int):(if r∈l then l else l++[r]).Nodup∧(if r∈l then l else l++[r]).length≤l.length + 1∧∀ q,q∈(if r∈l then l else l++[r])↔q∈l∨q=r:=by
 by_cases hr:r∈l
 . rw [if_pos hr]
   refine ⟨h,by omega,fun q=>⟨.inl,?_⟩⟩
   rintro (k | rfl)
   . exact k
   . exact hr
 . rw [if_neg hr]
   refine ⟨?_,by simp,fun q=>by simp⟩
   rw [List.nodup_append]
   exact ⟨h,by simp,fun a ha b hb e=>hr (by rw [List.mem_singleton] at hb; rw [← hb,← e]; exact ha)⟩
theorem w7 {U:Nat} (xb:List (Int×Int)) (hb:xb.length≤1000000):∃ r,loop (ir (U:Int) xb) (0,[],some [],none)=some r∧∃ l m,r=(l,some m,none)∧Nms U xb l m:=by
 refine bc (body:=ir (U:Int) xb) (fun s=>∃ k:Nat,k≤xb.length∧∃ l m,s=((k:Int),l,some m,none)∧Nms U (xb.take k) l m) (fun s=>xb.length - s.1.toNat) ?_ ⟨0,Nat.zero_le _,[],[],rfl,⟨List.nodup_nil,by simp,by simp,by simp⟩⟩
 rintro s ⟨k,hk,l,m,rfl,hn⟩
 unfold ir
 dsimp only
 by_cases hkl:k < xb.length
 . left
   rw [dlt hkl,cond_true,aF hkl]
   simp only [Option.bind_some,aG hkl (by omega:xb.length≤9223372036854775807),fa]
   have tk:xb.take (k + 1)=xb.take k++[xb[k]]:=by rw [List.take_succ_eq_append_getElem hkl]
   have tl:(xb.take (k + 1)).length=(xb.take k).length + 1:=by rw [tk,List.length_append,List.length_singleton]
   have tl2:(xb.take k).length≤xb.length:=by rw [List.length_take]; omega
   have hlen:=hn.len
   have dn:∀ z:Nat,z=k + 1→xb.length - z < xb.length - k:=fun z e=>by omega
   have no:¬ inE U xb[k]→Nms U (xb.take (k + 1)) l m:=fun hi=>⟨hn.nd,by omega,hn.key,fun q=>by
     rw [hn.mem,tk]
     constructor
     . rintro ⟨e,e1,e2⟩; exact ⟨e,List.mem_append_left _ e1,e2⟩
     . rintro ⟨e,e1,e2⟩
       rw [List.mem_append,List.mem_singleton] at e1
       rcases e1 with e1 | rfl
       . exact ⟨e,e1,e2⟩
       . exact absurd e2.1 hi⟩
   by_cases h1:0≤xb[k].1∧xb[k].1 < (U:Int)
   . by_cases h2:0≤xb[k].2∧xb[k].2 < (U:Int)
     . rw [decide_eq_true h1,decide_eq_true h2,cond_true,cond_true]
       obtain ⟨m1,p1,p2⟩:=pI xb[k].1 (U:Int) m none hn.key (by omega)
       obtain ⟨n1,n2,n3⟩:=qf hn.nd xb[k].1
       rw [p1]
       simp only [Option.bind_some]
       generalize hl1:(if xb[k].1∈l then l else l++[xb[k].1])=l1 at p2 n1 n2 n3
       obtain ⟨m2,q1,q2⟩:=pI xb[k].2 (U:Int) m1 none p2 (by omega)
       obtain ⟨o1,o2,o3⟩:=qf n1 xb[k].2
       rw [q1]
       simp only [Option.bind_some]
       refine ⟨_,rfl,⟨k + 1,hkl,_,m2,rfl,⟨o1,by omega,q2,fun q=>?_⟩⟩,by dsimp only; rw [Int.toNat_natCast,Int.toNat_natCast]; omega⟩
       rw [o3,n3,hn.mem,tk]
       constructor
       . rintro ((⟨e,e1,e2⟩ | h) | h)
         . exact ⟨e,List.mem_append_left _ e1,e2⟩
         . exact ⟨xb[k],List.mem_append_right _ (List.mem_singleton.2 rfl),⟨h1,h2⟩,.inl h⟩
         . exact ⟨xb[k],List.mem_append_right _ (List.mem_singleton.2 rfl),⟨h1,h2⟩,.inr h⟩
       . rintro ⟨e,e1,e2,e3⟩
         rw [List.mem_append,List.mem_singleton] at e1
         rcases e1 with e1 | rfl
         . exact .inl (.inl ⟨e,e1,e2,e3⟩)
         . rcases e3 with e3 | e3
           . exact .inl (.inr e3)
           . exact .inr e3
     . rw [decide_eq_true h1,decide_eq_false h2,cond_true,cond_false]
       exact ⟨_,rfl,⟨k + 1,hkl,l,m,rfl,no (fun h=>h2 h.2)⟩,by dsimp only; rw [Int.toNat_natCast,Int.toNat_natCast]; omega⟩
   . rw [decide_eq_false h1,cond_false]
     exact ⟨_,rfl,⟨k + 1,hkl,l,m,rfl,no (fun h=>h1 h.1)⟩,by dsimp only; rw [Int.toNat_natCast,Int.toNat_natCast]; omega⟩
 . right
   rw [dge hkl,cond_false]
   rw [List.take_of_length_le (by omega)] at hn
   exact ⟨_,rfl,l,m,rfl,hn⟩
theorem pY {L:List Int} (h:L.length≤1073741824):∃ S,srt L=some S∧S.Pairwise (·≤·)∧S.Perm L:=by
 refine ⟨_,by unfold srt; rw [if_pos h],?_,List.mergeSort_perm _ _⟩
 have hs:=List.pairwise_mergeSort (le:=fun x y:Int=>decide (x≤y)) (fun a b c h1 h2=>by simp at *; omega) (fun a b=>by simp; omega) L
 exact hs.imp (fun h=>by simpa using h)
theorem wW {S:List Int} (hn:S.Nodup) (hl:S.length≤9000000) {m:List (Int×Int)} (hm:∀ q,q∈m.map (·.1)↔q∈S):∃ r,loop (iq S) (0,some m)=some r∧∃ m',r=some m'∧(∀ q,q∈m'.map (·.1)↔q∈S)∧∀ j (h:j < S.length),aH S[j] m'=(j:Int):=by
 refine bc (body:=iq S) (fun s=>∃ k:Nat,k≤S.length∧∃ m',s=((k:Int),some m')∧(∀ q,q∈m'.map (·.1)↔q∈S)∧∀ j (h:j < S.length),j < k→aH S[j] m'=(j:Int)) (fun s=>S.length - s.1.toNat) ?_ ⟨0,Nat.zero_le _,m,rfl,hm,fun j _ h=>absurd h (Nat.not_lt_zero _)⟩
 rintro s ⟨k,hk,m',rfl,h1,h2⟩
 unfold iq
 dsimp only
 by_cases hkl:k < S.length
 . left
   rw [dlt hkl,cond_true,aF hkl]
   simp only [Option.bind_some,aG hkl (by omega:S.length≤9223372036854775807)]
   refine ⟨_,rfl,⟨k + 1,hkl,_,rfl,fun q=>?_,fun j hj hjk=>?_⟩,by dsimp only; rw [Int.toNat_natCast,Int.toNat_natCast]; omega⟩
   . rw [lA,h1]
     constructor
     . rintro (h | rfl)
       . exact h
       . exact List.getElem_mem hkl
     . exact .inl
   . rw [oT]
     by_cases e:j=k
     . subst e; rw [if_pos rfl]
     . rw [if_neg (fun h=>e ((List.getElem_inj hn).1 h)),h2 j hj (by omega)]
 . right
   rw [dge hkl,cond_false]
   exact ⟨_,rfl,m',rfl,h1,fun j hj=>h2 j hj (by omega)⟩
theorem wS {U:Nat} {xb:List (Int×Int)} (hb:xb.length≤1000000) {S:List Int} (hn:S.Nodup) {m:List (Int×Int)} (hg:∀ j (h:j < S.length),aH S[j] m=(j:Int)) (hS:∀ q,q∈S↔∃ e∈xb,inE U e∧(q=e.1∨q=e.2)) (hN:S.length≤65536) :
   ∃ r,loop (iu (U:Int) xb) (0,S,some m,some ((S.length:Int),List.replicate S.length none))=some r∧∃ M,r=(S,some m,some ((S.length:Int),M))∧Mx S.length S.length M∧∀ a b,has M a b=true↔∃ e∈xb,inE U e∧S[a]? = some e.1∧S[b]? = some e.2:=by
 refine bc (body:=iu (U:Int) xb) (fun s=>∃ k:Nat,k≤xb.length∧∃ M,s=((k:Int),S,some m,some ((S.length:Int),M))∧Mx S.length S.length M∧∀ a b,has M a b=true↔∃ e∈xb.take k,inE U e∧S[a]? = some e.1∧S[b]? = some e.2) (fun s=>xb.length - s.1.toNat) ?_ ⟨0,Nat.zero_le _,_,rfl,we hN hN,fun a b=>by rw [vA]; simp⟩
 rintro s ⟨k,hk,M,rfl,hM,hh⟩
 unfold iu
 dsimp only
 by_cases hkl:k < xb.length
 . left
   rw [dlt hkl,cond_true,aF hkl]
   simp only [Option.bind_some,aG hkl (by omega:xb.length≤9223372036854775807),fa]
   have tk:xb.take (k + 1)=xb.take k++[xb[k]]:=by rw [List.take_succ_eq_append_getElem hkl]
   have no:¬ inE U xb[k]→∀ a b,has M a b=true↔∃ e∈xb.take (k + 1),inE U e∧S[a]? = some e.1∧S[b]? = some e.2:=fun hi a b=>by
     rw [hh,tk]
     constructor
     . rintro ⟨e,e1,e2⟩; exact ⟨e,List.mem_append_left _ e1,e2⟩
     . rintro ⟨e,e1,e2⟩
       rw [List.mem_append,List.mem_singleton] at e1
       rcases e1 with e1 | rfl
       . exact ⟨e,e1,e2⟩
       . exact absurd e2.1 hi
   by_cases h1:0≤xb[k].1∧xb[k].1 < (U:Int)
   . by_cases h2:0≤xb[k].2∧xb[k].2 < (U:Int)
     . rw [decide_eq_true h1,decide_eq_true h2,cond_true,cond_true]
       have m1:xb[k].1∈S:=(hS _).2 ⟨xb[k],List.getElem_mem hkl,⟨h1,h2⟩,.inl rfl⟩
       have m2:xb[k].2∈S:=(hS _).2 ⟨xb[k],List.getElem_mem hkl,⟨h1,h2⟩,.inr rfl⟩
       obtain ⟨i,hi,e1⟩:=List.getElem_of_mem m1
       obtain ⟨j,hj,e2⟩:=List.getElem_of_mem m2
       have g1:aH xb[k].1 m=(i:Int):=by rw [← e1]; exact hg i hi
       have g2:aH xb[k].2 m=(j:Int):=by rw [← e2]; exact hg j hj
       obtain ⟨M',p1,p2,p3⟩:=vg hM (i:Int) (j:Int)
       rw [g1,g2,p1]
       simp only [Option.bind_some]
       refine ⟨_,rfl,⟨k + 1,hkl,M',rfl,p2,fun a b=>?_⟩,by dsimp only; rw [Int.toNat_natCast,Int.toNat_natCast]; omega⟩
       rw [p3,Bool.or_eq_true,hh,decide_eq_true_eq,tk,Int.toNat_natCast,Int.toNat_natCast]
       constructor
       . rintro (⟨e,q1,q2⟩ | ⟨_,rfl,rfl⟩)
         . exact ⟨e,List.mem_append_left _ q1,q2⟩
         . exact ⟨xb[k],List.mem_append_right _ (List.mem_singleton.2 rfl),⟨h1,h2⟩,by rw [List.getElem?_eq_getElem hi,e1],by rw [List.getElem?_eq_getElem hj,e2]⟩
       . rintro ⟨e,q1,q2,q3,q4⟩
         rw [List.mem_append,List.mem_singleton] at q1
         rcases q1 with q1 | rfl
         . exact .inl ⟨e,q1,q2,q3,q4⟩
         . right
           obtain ⟨ha,q3⟩:=List.getElem?_eq_some_iff.1 q3
           obtain ⟨hb',q4⟩:=List.getElem?_eq_some_iff.1 q4
           have r1:i=a:=(List.getElem_inj hn).1 (e1.trans q3.symm)
           have r2:j=b:=(List.getElem_inj hn).1 (e2.trans q4.symm)
           exact ⟨by omega,r1,r2⟩
     . rw [decide_eq_true h1,decide_eq_false h2,cond_true,cond_false]
       exact ⟨_,rfl,⟨k + 1,hkl,M,rfl,hM,no (fun h=>h2 h.2)⟩,by dsimp only; rw [Int.toNat_natCast,Int.toNat_natCast]; omega⟩
   . rw [decide_eq_false h1,cond_false]
     exact ⟨_,rfl,⟨k + 1,hkl,M,rfl,hM,no (fun h=>h1 h.1)⟩,by dsimp only; rw [Int.toNat_natCast,Int.toNat_natCast]; omega⟩
 . right
   rw [dge hkl,cond_false]
   rw [List.take_of_length_le (by omega)] at hh
   exact ⟨_,rfl,M,rfl,hM,hh⟩
theorem oC:∀ {S:List Int} {a:Int} {n:Nat},S.Pairwise (· < ·)→(∀ q∈S,a≤q∧q < a + n)→S.length≤n
 | [],a,n,_,_=>Nat.zero_le _
 | x :: S,a,n,hp,hb=>by
   have hx:=hb x (List.mem_cons_self ..)
   cases n with
   | zero=>omega
   | succ n =>
     rw [List.pairwise_cons] at hp
     have:=oC (S:=S) (a:=a + 1) (n:=n) hp.2 (fun q hq=>by
       have h1:=hp.1 q hq
       have h2:=hb q (List.mem_cons_of_mem _ hq)
       omega)
     simp only [List.length_cons]; omega
theorem vJ {S:List Int} (h:S.Pairwise (·≤·)) (hn:S.Nodup):S.Pairwise (· < ·):=by
 have:=List.Pairwise.and h hn
 exact this.imp (fun ⟨h1,h2⟩=>by omega)
structure Kr (U:Nat) (xb:List (Int×Int)) (S:List Int) (m:List (Int×Int)) (M:MX):Prop where
 rise:S.Pairwise (· < ·)
 key:∀ q,q∈m.map (·.1)↔q∈S
 place:∀ j (h:j < S.length),aH S[j] m=(j:Int)
 mem:∀ q,q∈S↔∃ e∈xb,inE U e∧(q=e.1∨q=e.2)
 mx:Mx S.length S.length M
 tc:∃ R,(∀ a b,R a b=true↔∃ e∈xb,inE U e∧S[a]? = some e.1∧S[b]? = some e.2)∧∀ a b,has M a b=true↔TC R a b
theorem wN {U:Nat} (hU:U≤65536) {xb:List (Int×Int)} (hb:xb.length≤1000000):∃ S m M,cH (U:Int) xb=some ((U:Int),S,some m,some ((S.length:Int),M))∧Kr U xb S m M:=by
 obtain ⟨_,a1,l,m0,rfl,hn⟩:=w7 (U:=U) xb hb
 have hlen:=hn.len
 obtain ⟨S,s1,s2,s3⟩:=pY (L:=l) (by omega)
 have snd:S.Nodup:=s3.nodup_iff.2 hn.nd
 have sm:∀ q,q∈S↔q∈l:=fun q=>s3.mem_iff
 have rise:=vJ s2 snd
 have hS:∀ q,q∈S↔∃ e∈xb,inE U e∧(q=e.1∨q=e.2):=fun q=>(sm q).trans (hn.mem q)
 have hN:S.length≤U:=oC (a:=0) rise (fun q hq=>by
   obtain ⟨e,_,⟨⟨e1,e2⟩,e3,e4⟩,rfl | rfl⟩:=(hS q).1 hq <;> omega)
 obtain ⟨_,b1,m,rfl,b2,b3⟩:=wW snd (by omega) (m:=m0) (fun q=>(hn.key q).trans (sm q).symm)
 obtain ⟨_,c1,M,rfl,c2,c3⟩:=wS (U:=U) hb snd b3 hS (by omega)
 obtain ⟨M',d1,d2,d3⟩:=tg c2
 refine ⟨S,m,M',?_,⟨rise,b2,b3,hS,d2,has M,c3,d3⟩⟩
 unfold cH
 have n1:¬ ((U:Int) < 0):=by omega
 have n2:¬ (65536 < (U:Int)):=by omega
 have n3:¬ ((S.length:Int) < 0∨(S.length:Int) < 0):=by omega
 have n4:¬ (65536 < (S.length:Int)∨65536 < (S.length:Int)):=by omega
 rw [decide_eq_false n1,decide_eq_false n2,Bool.or_self,cond_false,a1]
 simp only [Option.bind_some,s1,b1,vH,if_neg n3,if_neg n4,agr,Int.toNat_natCast]
 simp only [Option.bind_some,c1,d1,if_true]
theorem wx {n:Int} (h:n < 0∨65536 < n) (xb:List (Int×Int)):cH n xb=some (0,[],none,none):=by
 unfold cH
 have:(decide (n < 0)||decide (65536 < n))=true:=by simp; exact h
 rw [this]; rfl
def ldP (S:List Int) (M:MX) (a b:Int):Prop:=∃ i j:Nat,S[i]? = some a∧S[j]? = some b∧has M i j=true
section
variable {U:Nat} {xb:List (Int×Int)} {S:List Int} {m:List (Int×Int)} {M:MX}
theorem Kr.nd (h:Kr U xb S m M):S.Nodup:=h.rise.imp (fun h=>by omega)
theorem Kr.idx (h:Kr U xb S m M) {a:Int} (ha:a∈S):∃ i:Nat,S[i]? = some a∧aH a m=(i:Int):=by
 obtain ⟨i,hi,e⟩:=List.getElem_of_mem ha
 exact ⟨i,by rw [List.getElem?_eq_getElem hi,e],by rw [← e]; exact h.place i hi⟩
theorem Kr.uniq (h:Kr U xb S m M) {a:Int} {i j:Nat} (hi:S[i]? = some a) (hj:S[j]? = some a):i=j:=by
 obtain ⟨h1,e1⟩:=List.getElem?_eq_some_iff.1 hi
 obtain ⟨h2,e2⟩:=List.getElem?_eq_some_iff.1 hj
 exact (List.getElem_inj h.nd).1 (e1.trans e2.symm)
theorem Kr.inR (h:Kr U xb S m M) {a:Int} (ha:a∈S):0≤a∧a < (U:Int):=by
 obtain ⟨e,_,⟨h1,h2⟩,rfl | rfl⟩:=(h.mem a).1 ha
 . exact h1
 . exact h2
theorem Kr.ld_in (h:Kr U xb S m M) {a b:Int} (hl:ldP S M a b):(0≤a∧a < (U:Int))∧0≤b∧b < (U:Int):=by
 obtain ⟨i,j,h1,h2,_⟩:=hl
 exact ⟨h.inR (List.mem_of_getElem? h1),h.inR (List.mem_of_getElem? h2)⟩
theorem Kr.ld_trans (h:Kr U xb S m M) {a b c:Int} (h1:ldP S M a b) (h2:ldP S M b c):ldP S M a c:=by
 obtain ⟨i,j,a1,a2,a3⟩:=h1
 obtain ⟨j',k,b1,b2,b3⟩:=h2
 obtain rfl:=h.uniq a2 b1
 obtain ⟨R,_,t⟩:=h.tc
 exact ⟨i,k,a1,b2,(t _ _).2 (((t _ _).1 a3).trans ((t _ _).1 b3))⟩
theorem Kr.ld_base (h:Kr U xb S m M) {e:Int×Int} (he:e∈xb) (hi:inE U e):ldP S M e.1 e.2:=by
 obtain ⟨i,i1,_⟩:=h.idx ((h.mem e.1).2 ⟨e,he,hi,.inl rfl⟩)
 obtain ⟨j,j1,_⟩:=h.idx ((h.mem e.2).2 ⟨e,he,hi,.inr rfl⟩)
 obtain ⟨R,r,t⟩:=h.tc
 exact ⟨i,j,i1,j1,(t _ _).2 (.base ((r _ _).2 ⟨e,he,hi,i1,j1⟩))⟩
theorem Kr.ld_f (h:Kr U xb S m M) {f:Nat→Nat→Bool} (hf:Ff U xb f) {a b:Int} (hl:ldP S M a b):f a.toNat b.toNat=true:=by
 obtain ⟨i,j,h1,h2,h3⟩:=hl
 obtain ⟨R,r,t⟩:=h.tc
 have key:=TC.least (T:=fun i j:Nat=>∃ a b:Int,S[i]? = some a∧S[j]? = some b∧f a.toNat b.toNat=true) (R:=R) (fun i j hr=>by
   obtain ⟨e,e1,e2,e3,e4⟩:=(r i j).1 hr
   obtain ⟨⟨p1,p2⟩,p3,p4⟩:=e2
   refine ⟨e.1,e.2,e3,e4,hf.ini (by omega) (by omega) (.inr (.inr ?_))⟩
   rw [Int.toNat_of_nonneg p1,Int.toNat_of_nonneg p3]
   exact e1) (fun i j k hij hjk=>by
   obtain ⟨a,b,q1,q2,q3⟩:=hij
   obtain ⟨b',c,w1,w2,w3⟩:=hjk
   rw [q2] at w1; cases w1
   exact ⟨a,c,q1,w2,hf.cl q3 w3⟩) ((t i j).1 h3)
 obtain ⟨a',b',q1,q2,q3⟩:=key
 rw [h1] at q1; rw [h2] at q2; cases q1; cases q2
 exact q3
theorem Kr.leads_eq (h:Kr U xb S m M) (a b:Int):∃ t,fJ a b (U:Int) S (some m) (some ((S.length:Int),M))=some (t,S,some m,some ((S.length:Int),M))∧(t=true↔ldP S M a b):=by
 unfold fJ
 simp only [Option.bind_some,mfS]
 by_cases ha:a∈S
 . by_cases hb:b∈S
   . rw [decide_eq_true ((h.key a).2 ha),decide_eq_true ((h.key b).2 hb),Bool.and_self,cond_true]
     obtain ⟨i,i1,i2⟩:=h.idx ha
     obtain ⟨j,j1,j2⟩:=h.idx hb
     rw [i2,j2,vb h.mx]
     simp only [Option.bind_some,Int.toNat_natCast]
     refine ⟨_,rfl,?_⟩
     have e:(decide (0≤(i:Int))&&decide (0≤(j:Int))&&has M i j)=has M i j:=by simp
     rw [e]
     constructor
     . exact fun k=>⟨i,j,i1,j1,k⟩
     . rintro ⟨i',j',k1,k2,k3⟩
       rw [h.uniq i1 k1,h.uniq j1 k2]; exact k3
   . have:¬ b∈m.map (·.1):=fun k=>hb ((h.key b).1 k)
     rw [decide_eq_false this,Bool.and_false,cond_false]
     refine ⟨_,rfl,fun k=>(by cases k),fun ⟨i,j,k1,k2,_⟩=>absurd (List.mem_of_getElem? k2) hb⟩
 . have:¬ a∈m.map (·.1):=fun k=>ha ((h.key a).1 k)
   rw [decide_eq_false this,Bool.false_and,cond_false]
   refine ⟨_,rfl,fun k=>(by cases k),fun ⟨i,j,k1,k2,_⟩=>absurd (List.mem_of_getElem? k1) ha⟩
theorem Kr.all_eq (h:Kr U xb S m M) (a:Int):∃ t,fH a (U:Int) S (some m) (some ((S.length:Int),M))=some (t,S,some m,some ((S.length:Int),M))∧(t=true↔a=0∨ldP S M a 0):=by
 unfold fH
 by_cases h0:a=0
 . rw [decide_eq_true h0,cond_true]; exact ⟨_,rfl,fun _ => .inl h0,fun _=>rfl⟩
 . rw [decide_eq_false h0,cond_false]
   obtain ⟨t,e,k⟩:=h.leads_eq a 0
   rw [e]
   refine ⟨t,rfl,k.trans ⟨.inr,fun g=>g.resolve_left h0⟩⟩
theorem Kr.f_iff (h:Kr U xb S m M) {f:Nat→Nat→Bool} (hf:Ff U xb f) (a b:Int):ak f a b=true↔((0≤a∧a < (U:Int))∧0≤b∧b < (U:Int))∧(a=b∨a=0∨ldP S M a 0∨ldP S M a b):=by
 unfold ak
 simp only [Bool.and_eq_true,decide_eq_true_eq]
 constructor
 . rintro ⟨⟨ha,hb⟩,hab⟩
   obtain ⟨u1,u2⟩:=hf.lt hab
   refine ⟨⟨⟨ha,by omega⟩,hb,by omega⟩,?_⟩
   have key:=hf.least (fun p q=>(p:Int)=(q:Int)∨(p:Int)=0∨ldP S M (p:Int) 0∨ldP S M (p:Int) (q:Int)) (fun p q r g1 g2=>by
     rcases g1 with g1 | g1 | g1 | g1
     . rw [g1]; exact g2
     . exact .inr (.inl g1)
     . exact .inr (.inr (.inl g1))
     . rcases g2 with g2 | g2 | g2 | g2
       . rw [← g2]; exact .inr (.inr (.inr g1))
       . rw [g2] at g1; exact .inr (.inr (.inl g1))
       . exact .inr (.inr (.inl (h.ld_trans g1 g2)))
       . exact .inr (.inr (.inr (h.ld_trans g1 g2)))) (fun p q hp hq g=>by
     rcases g with g | g | g
     . exact .inl (by rw [g])
     . exact .inr (.inl (by rw [g]; rfl))
     . exact .inr (.inr (.inr (h.ld_base g ⟨⟨by omega,by omega⟩,by omega,by omega⟩)))) hab
   rw [Int.toNat_of_nonneg ha,Int.toNat_of_nonneg hb] at key
   exact key
 . rintro ⟨⟨⟨a1,a2⟩,b1,b2⟩,g⟩
   refine ⟨⟨a1,b1⟩,?_⟩
   rcases g with g | g | g | g
   . exact hf.ini (by omega) (by omega) (.inl (by rw [g]))
   . exact hf.ini (by omega) (by omega) (.inr (.inl (by omega)))
   . exact hf.cl (h.ld_f hf g) (hf.ini (by omega) (by omega) (.inr (.inl rfl)))
   . exact h.ld_f hf g
theorem Kr.has_eq (h:Kr U xb S m M) {f:Nat→Nat→Bool} (hf:Ff U xb f) (a b:Int):bA a b (U:Int) S (some m) (some ((S.length:Int),M))=some (ak f a b,S,some m,some ((S.length:Int),M)):=by
 have hi:=h.f_iff hf a b
 have no:¬ (((0≤a∧a < (U:Int))∧0≤b∧b < (U:Int))∧(a=b∨a=0∨ldP S M a 0∨ldP S M a b))→ak f a b=false:=fun k=>Bool.eq_false_iff.2 (fun e=>k (hi.1 e))
 unfold bA
 rw [fa]
 simp only [Option.bind_some]
 by_cases h1:0≤a∧a < (U:Int)
 . rw [decide_eq_true h1,cond_true,fa]
   simp only [Option.bind_some]
   by_cases h2:0≤b∧b < (U:Int)
   . rw [decide_eq_true h2,cond_true]
     by_cases h3:a=b
     . rw [decide_eq_true h3,cond_true,hi.2 ⟨⟨h1,h2⟩,.inl h3⟩]
     . rw [decide_eq_false h3,cond_false]
       obtain ⟨t,e,k⟩:=h.all_eq a
       rw [e]
       simp only [Option.bind_some]
       cases t with
       | true =>
         have k:=k.1 rfl
         rw [cond_true,hi.2 ⟨⟨h1,h2⟩,.inr (k.imp id .inl)⟩]
       | false =>
         obtain ⟨t2,e2,k2⟩:=h.leads_eq a b
         rw [cond_false,e2]
         simp only [Option.bind_some]
         cases t2 with
         | true=>rw [hi.2 ⟨⟨h1,h2⟩,.inr (.inr (.inr (k2.1 rfl)))⟩]
         | false =>
           rw [no]
           rintro ⟨_,g | g | g | g⟩
           . exact h3 g
           . exact absurd (k.2 (.inl g)) (by simp)
           . exact absurd (k.2 (.inr g)) (by simp)
           . exact absurd (k2.2 g) (by simp)
   . rw [decide_eq_false h2,cond_false,no (fun g=>h2 g.1.2)]
 . rw [decide_eq_false h1,cond_false,no (fun g=>h1 g.1.1)]
end
theorem um {L:List Nat} {q:Int}:q∈liN L↔0≤q∧q.toNat∈L:=by
 unfold liN
 rw [List.mem_map]
 constructor
 . rintro ⟨k,hk,rfl⟩; exact ⟨Int.natCast_nonneg k,hk⟩
 . rintro ⟨h0,h⟩; exact ⟨q.toNat,h,Int.toNat_of_nonneg h0⟩
theorem uI (n:Nat) (f:Nat→Bool):(liN (aq n f)).Pairwise (· < ·):=by
 unfold liN aq
 rw [List.pairwise_map]
 exact (List.Pairwise.filter f (List.pairwise_lt_range (n:=n))).imp (fun h=>by show Int.ofNat _ < Int.ofNat _; simpa using h)
theorem vE (U:Nat) (hU:U≤65536):loop (gY (U:Int)) ([],0)=some (liN (List.range U)):=by
 refine ca (fun k=>(liN (List.range k),(k:Int))) U ?_ ?_
 . intro k hk
   unfold gY
   dsimp only
   rw [dlt hk,cond_true,ce (by unfold liN; simp; omega)]
   simp only [Option.bind_some,aG hk (by omega:U≤9223372036854775807)]
   rw [List.range_succ]; unfold liN; simp
 . unfold gY
   dsimp only
   rw [dge (by omega),cond_false]
theorem vU {S:List Int} (hS:S.length≤65536) {L:List Nat} (hL:∀ j∈L,j < S.length) (hl:L.length≤65536):loop (d7 S (liN L)) ([],0)=some (L.map fun j=>S.getD j 0):=by
 have:=ca (body:=d7 S (liN L)) (b:=L.map fun j=>S.getD j 0) (fun k=>((L.take k).map (fun j=>S.getD j 0),(k:Int))) L.length ?_ ?_
 . simpa using this
 . intro k hk
   unfold d7
   dsimp only
   have e:(liN L).length=L.length:=by unfold liN; simp
   have e2:ae (liN L) (k:Int)=some ((L[k]:Nat):Int):=by
     rw [aF (by rw [e]; exact hk)]; unfold liN; simp
   have hj:L[k] < S.length:=hL _ (List.getElem_mem hk)
   rw [e,dlt hk,cond_true,e2]
   simp only [Option.bind_some]
   rw [aF hj]
   simp only [Option.bind_some]
   rw [ce (by simp; omega)]
   simp only [Option.bind_some,aG hk (by omega:L.length≤9223372036854775807)]
   rw [List.take_succ_eq_append_getElem hk,List.map_append,List.map_cons,List.map_nil,List.getD_eq_getElem?_getD,List.getElem?_eq_getElem hj]; rfl
 . unfold d7
   dsimp only
   have e:(liN L).length=L.length:=by unfold liN; simp
   rw [e,dge (by omega),cond_false,List.take_length]
theorem Kr.subs_eq {U:Nat} {xb:List (Int×Int)} {S:List Int} {m:List (Int×Int)} {M:MX} (h:Kr U xb S m M) (hU:U≤65536) {f:Nat→Nat→Bool} (hf:Ff U xb f) (a:Int):c9 a (U:Int) S (some m) (some ((S.length:Int),M))=some (liN (aq U fun b=>ak f a b),S,some m,some ((S.length:Int),M)):=by
 have hi:=h.f_iff hf a
 unfold c9
 rw [fa]
 simp only [Option.bind_some]
 have hN:=h.mx.hN
 by_cases h1:0≤a∧a < (U:Int)
 . rw [decide_eq_true h1,Bool.not_true,cond_false]
   obtain ⟨t,e,k⟩:=h.all_eq a
   rw [e]
   simp only [Option.bind_some]
   cases t with
   | true =>
     have k:=k.1 rfl
     rw [cond_true,vE U hU]
     simp only [Option.bind_some]
     have:aq U (fun b=>ak f a b)=List.range U:=by
       unfold aq
       rw [List.filter_eq_self]
       intro b hb
       rw [List.mem_range] at hb
       exact (hi _).2 ⟨⟨h1,by omega,by omega⟩,.inr (k.imp id .inl)⟩
     rw [this]
   | false =>
     rw [cond_false]
     have key:∃ L:List Int,(cond ((az a m 0).isSome) ((fW (some ((S.length:Int),M)) (aH a m)).bind fun l1826=>(loop (d7 S l1826) ([],0):Option (List Int)).bind fun l1999=>some (l1999)) (some ([])):Option (List Int))=some L∧L.length≤65536∧∀ q,q∈L↔ldP S M a q:=by
       rw [mfS]
       by_cases ha:a∈S
       . rw [decide_eq_true ((h.key a).2 ha),cond_true]
         obtain ⟨i,i1,i2⟩:=h.idx ha
         rw [i2,vi h.mx]
         simp only [Option.bind_some,Int.toNat_natCast]
         have e0:decide (0≤(i:Int))=true:=by simp
         rw [e0]
         simp only [Bool.true_and]
         have le:=cP S.length (fun c=>has M i c)
         have lt:∀ j∈aq S.length (fun c=>has M i c),j < S.length:=fun j hj=>List.mem_range.1 (List.mem_filter.1 hj).1
         rw [vU hN lt (by omega)]
         refine ⟨_,rfl,by rw [List.length_map]; omega,fun q=>?_⟩
         rw [List.mem_map]
         constructor
         . rintro ⟨j,j1,rfl⟩
           refine ⟨i,j,i1,?_,(List.mem_filter.1 j1).2⟩
           rw [List.getD_eq_getElem?_getD,List.getElem?_eq_getElem (lt j j1)]; rfl
         . rintro ⟨i',j,k1,k2,k3⟩
           obtain rfl:=h.uniq i1 k1
           obtain ⟨hj,_⟩:=List.getElem?_eq_some_iff.1 k2
           refine ⟨j,List.mem_filter.2 ⟨List.mem_range.2 hj,k3⟩,?_⟩
           rw [List.getD_eq_getElem?_getD,k2]; rfl
       . have:¬ a∈m.map (·.1):=fun k=>ha ((h.key a).1 k)
         rw [decide_eq_false this,cond_false]
         exact ⟨[],rfl,by simp,fun q=>⟨fun k=>(by cases k),fun ⟨i,j,k1,k2,_⟩=>absurd (List.mem_of_getElem? k1) ha⟩⟩
     obtain ⟨L,l1,l2,l3⟩:=key
     rw [l1]
     simp only [Option.bind_some]
     rw [ce (by simp; omega)]
     obtain ⟨Z,z1,z2,z3⟩:=pY (L:=L++[a]) (by simp; omega)
     simp only [Option.bind_some,z1,jX]
     obtain ⟨c1,c2⟩:=rS z2
     have:Lib.compact Z=liN (aq U fun b=>ak f a b):=kH c1 (uI _ _) (fun q=>by
       rw [c2,z3.mem_iff,List.mem_append,List.mem_singleton,l3,um]
       unfold aq
       rw [List.mem_filter,List.mem_range]
       constructor
       . rintro (g | rfl)
         . obtain ⟨_,g1,g2⟩:=h.ld_in g
           refine ⟨g1,by omega,(hi _).2 ⟨⟨h1,by omega,by omega⟩,?_⟩⟩
           rw [Int.toNat_of_nonneg g1]; exact .inr (.inr (.inr g))
         . refine ⟨h1.1,by omega,(hi _).2 ⟨⟨h1,by omega,by omega⟩,?_⟩⟩
           rw [Int.toNat_of_nonneg h1.1]; exact .inl rfl
       . rintro ⟨g1,g2,g3⟩
         have:=((hi _).1 g3).2
         rw [Int.toNat_of_nonneg g1] at this
         rcases this with g | g | g | g
         . exact .inr g.symm
         . exact absurd (k.2 (.inl g)) (by simp)
         . exact absurd (k.2 (.inr g)) (by simp)
         . exact .inl g)
     rw [this]
 . rw [decide_eq_false h1,Bool.not_false,cond_true]
   have:aq U (fun b=>ak f a b)=[]:=by
     unfold aq
     rw [List.filter_eq_nil_iff]
     intro b hb k
     exact h1 ((hi _).1 k).1.1
   rw [this]; rfl
end
section
structure KOK (U:Nat) (S:List Int) (m:Option (List (Int×Int))) (x:Option (Int×MX)) (f:Nat→Nat→Bool):Prop where
 hU:U≤65536
 has:∀ a b:Int,bA a b (U:Int) S m x=some (ak f a b,S,m,x)
 subs:∀ a:Int,c9 a (U:Int) S m x=some (liN (aq U fun b=>ak f a b),S,m,x)
 lt:∀ {a b},f a b=true→a < U∧b < U
theorem rj {U:Nat} (hU:U≤65536) {xb:List (Int×Int)} (hb:xb.length≤1000000) {f:Nat→Nat→Bool} (hf:Ff U xb f):∃ S m x,cH (U:Int) xb=some ((U:Int),S,m,x)∧KOK U S m x f:=by
 obtain ⟨S,m,M,e,h⟩:=wN hU hb
 exact ⟨S,some m,_,e,hU,h.has_eq hf,h.subs_eq hU hf,hf.lt⟩
theorem uq:KOK 0 [] none none (fun _ _=>false):=by
 have r:∀ a:Int,bZ a ((0:Nat):Int) [] none none=some (false,[],none,none):=fun a=>by
   rw [fa]
   have:¬ (0≤a∧a < ((0:Nat):Int)):=by omega
   rw [decide_eq_false this]
 have h0:∀ a b:Int,ak (fun _ _=>false) a b=false:=fun a b=>by unfold ak; rw [Bool.and_false]
 refine ⟨by omega,fun a b=>?_,fun a=>?_,fun h=>by cases h⟩
 . unfold bA
   rw [r,h0]; rfl
 . unfold c9
   rw [r]; rfl
theorem nM (k:Nat) (f:Nat→Bool):aq (k + 1) f=aq k f++if f k then [k] else []:=by
 unfold aq
 rw [List.range_succ,List.filter_append]
 cases h:f k <;> simp [h]
theorem oB (L:List Nat) (k:Nat):liN (L++[k])=liN L++[(k:Int)]:=by unfold liN; simp
theorem eT (L:List Nat):(liN L).length=L.length:=by unfold liN; simp
section
variable {U:Nat} {S:List Int} {m:Option (List (Int×Int))} {x:Option (Int×MX)} {f:Nat→Nat→Bool}
theorem KOK.hasN (f:Nat→Nat→Bool) (a b:Nat):ak f (a:Int) (b:Int)=f a b:=by unfold ak; simp
theorem KOK.alike (h:KOK U S m x f) (a b:Int):fL a b (U:Int) S m x=some (ak f a b&&ak f b a,S,m,x):=by
 unfold fL
 rw [h.has]
 simp only [Option.bind_some,h.has]
 cases ak f a b <;> rfl
theorem KOK.sups (h:KOK U S m x f) (a:Int):fM a (U:Int) S m x=some (liN (aq U fun b=>ak f b a),S,m,x):=by
 unfold fM
 rw [show dH (U:Int) S m x=some ((U:Int),S,m,x) from rfl]
 simp only [Option.bind_some]
 have hU:=h.hU
 have:=ca (body:=g8 a (U:Int) (U:Int)) (b:=(liN (aq U fun b=>ak f b a),S,m,x)) (fun k=>(liN (aq k fun b=>ak f b a),(k:Int),S,m,x)) U ?_ ?_
 . rw [show ((([]:List Int),(0:Int),S,m,x):List Int×Int×List Int×Option (List (Int×Int))×Option (Int×MX))=(liN (aq 0 fun b=>ak f b a),((0:Nat):Int),S,m,x) from rfl,this]
   rfl
 . intro k hk
   unfold g8
   dsimp only
   have:=cP k (fun b=>ak f b a)
   rw [dlt hk,cond_true,h.has,nM]
   simp only [Option.bind_some,aG hk (by omega:U≤9223372036854775807)]
   cases hk2:ak f (k:Int) a
   . simp
   . rw [cond_true,ce (by rw [eT]; simp; omega)]
     simp only [Option.bind_some,if_true,oB]
 . unfold g8
   dsimp only
   rw [dge (by omega),cond_false]
theorem KOK.all (h:KOK U S m x f) (l:List (Int×Int)) (hl:l.length≤1000000000):fQ l (U:Int) S m x=some (l.all fun e=>ak f e.1 e.2,S,m,x):=by
 unfold fQ jZ j3
 have key:=bc (body:=jY l (U:Int)) (fun s=>∃ k:Nat,k≤l.length∧s=((k:Int),S,m,x)∧∀ e∈l.take k,ak f e.1 e.2=true) (fun s=>l.length - s.1.toNat)
   (Q:=fun r=>(r = .inl (S,m,x)∧(l.all fun e=>ak f e.1 e.2)=true)∨∃ k:Nat,r = .inr ((k:Int),S,m,x)∧(l.all fun e=>ak f e.1 e.2)=false) ?_ (s:=(0,S,m,x)) ⟨0,Nat.zero_le _,rfl,by simp⟩
 . obtain ⟨r,e,h1⟩:=key
   rw [e]
   rcases h1 with ⟨rfl,h1⟩ | ⟨k,rfl,h1⟩
   . rw [h1]; rfl
   . rw [h1]
     simp only [Option.bind_some]
     have:decide (0≤(k:Int))=true:=by simp
     rw [this]; rfl
 . rintro s ⟨k,hk,rfl,hs⟩
   unfold jY
   dsimp only
   by_cases hkl:k < l.length
   . rw [dlt hkl,cond_true,aF hkl]
     simp only [Option.bind_some]
     unfold j4
     rw [h.has]
     simp only [Option.bind_some,aG hkl (by omega:l.length≤9223372036854775807)]
     cases hc:ak f l[k].1 l[k].2 with
     | true =>
       left
       refine ⟨_,rfl,⟨k + 1,hkl,rfl,fun e he=>?_⟩,by dsimp only; rw [Int.toNat_natCast,Int.toNat_natCast]; omega⟩
       rw [kF hkl,List.mem_append,List.mem_singleton] at he
       rcases he with he | rfl
       . exact hs e he
       . exact hc
     | false =>
       right
       refine ⟨_,rfl,.inr ⟨k,rfl,?_⟩⟩
       rw [List.all_eq_false]
       exact ⟨l[k],List.getElem_mem hkl,by rw [hc]; simp⟩
   . right
     rw [dge hkl,cond_false]
     rw [List.take_of_length_le (by omega)] at hs
     exact ⟨_,rfl,.inl ⟨rfl,List.all_eq_true.2 hs⟩⟩
def bR (U:Nat) (f:Nat→Nat→Bool) (s:Nat):List (Int×Int):=((List.range U).filter fun b=>!decide (b=s)&&f s b).map fun b:Nat=>((s:Int),(b:Int))
def bL (U:Nat) (f:Nat→Nat→Bool) (k:Nat):List (Int×Int):=(List.range k).flatMap fun s=>if s=0 then [] else bR U f s
theorem vY (U:Nat) (f:Nat→Nat→Bool) (s:Nat):(bR U f s).length≤U:=by
 unfold bR; rw [List.length_map]; exact eC _ _
theorem lj (U:Nat) (f:Nat→Nat→Bool) (k:Nat):bL U f (k + 1)=bL U f k++if k=0 then [] else bR U f k:=by
 unfold bL; rw [List.range_succ,List.flatMap_append]; simp
theorem jo (U:Nat) (f:Nat→Nat→Bool):∀ k,(bL U f k).length≤k * U
 | 0=>by simp [bL]
 | k + 1=>by
   rw [lj,List.length_append,Nat.succ_mul]
   have:=jo U f k
   have:=vY U f k
   split <;> simp <;> omega
theorem wq {U:Nat} (hU:U≤1000) (f:Nat→Nat→Bool) (s:Nat) (c0:List (Int×Int)) (hc:c0.length≤100000000):loop (fI (s:Int) (liN (aq U (f s)))) (c0,0)=some (c0++bR U f s):=by
 have hle:=cP U (f s)
 have e:=eT (aq U (f s))
 have:=ca (body:=fI (s:Int) (liN (aq U (f s)))) (b:=c0++bR U f s) (fun k=>(c0++(((aq U (f s)).take k).filter fun b=>!decide (b=s)).map fun b:Nat=>((s:Int),(b:Int)),(k:Int))) (aq U (f s)).length ?_ ?_
 . simpa using this
 . intro k hk
   unfold fI
   dsimp only
   have e2:ae (liN (aq U (f s))) (k:Int)=some (((aq U (f s))[k]:Nat):Int):=by
     rw [aF (by rw [e]; exact hk)]; unfold liN; simp
   rw [e,dlt hk,cond_true,e2,kF hk,List.filter_append,List.map_append]
   simp only [Option.bind_some,aG hk (by omega:(aq U (f s)).length≤9223372036854775807)]
   by_cases q:(aq U (f s))[k]=s
   . have q2:(((aq U (f s))[k]:Nat):Int)=(s:Int):=by rw [q]
     rw [decide_eq_true q2,Bool.not_true,cond_false]
     simp [q]
   . have q2:¬ (((aq U (f s))[k]:Nat):Int)=(s:Int):=by omega
     have l1:((((aq U (f s)).take k).filter fun b=>!decide (b=s)).map fun b:Nat=>((s:Int),(b:Int))).length≤U:=by
       rw [List.length_map]
       refine Nat.le_trans (List.length_filter_le _ _) ?_
       rw [List.length_take]; omega
     rw [decide_eq_false q2,Bool.not_false,cond_true,ce (by rw [List.length_append]; simp only [List.length_singleton]; omega)]
     simp [q]
 . unfold fI
   dsimp only
   rw [e,dge (by omega),cond_false,List.take_length]
   unfold bR aq
   rw [List.filter_filter]
theorem KOK.bounds (h:KOK U S m x f) (hU:U≤1000):d9 (U:Int) S m x=some (bL U f U,S,m,x):=by
 unfold d9
 have key:=bc (body:=j5 (U:Int)) (fun s=>∃ k:Nat,1≤k∧k≤U + 1∧s=(bL U f k,(k:Int),S,m,x)∧(k=U + 1→U=0)) (fun s=>U + 1 - s.2.1.toNat) (Q:=fun r=>r=(bL U f U,S,m,x)) ?_ (s:=([],1,S,m,x)) ⟨1,Nat.le_refl _,by omega,rfl,fun e=>by omega⟩
 . obtain ⟨r,e,rfl⟩:=key
   rw [e]; rfl
 . rintro s ⟨k,k1,k2,rfl,k3⟩
   unfold j5
   dsimp only
   rw [show dH (U:Int) S m x=some ((U:Int),S,m,x) from rfl]
   simp only [Option.bind_some]
   by_cases hk:k < U
   . left
     have b1:=jo U f k
     have b2:k * U≤1000 * 1000:=Nat.mul_le_mul (by omega) hU
     rw [dlt hk,cond_true,h.subs]
     simp only [Option.bind_some,aG hk (by omega:U≤9223372036854775807),KOK.hasN]
     rw [wq hU f k _ (by omega)]
     simp only [Option.bind_some]
     refine ⟨_,rfl,⟨k + 1,by omega,by omega,?_,fun e=>by omega⟩,by dsimp only; rw [Int.toNat_natCast,Int.toNat_natCast]; omega⟩
     rw [lj,if_neg (by omega)]
   . right
     rw [dge hk,cond_false]
     refine ⟨_,rfl,?_⟩
     by_cases e:k=U
     . rw [e]
     . have e1:k=U + 1:=by omega
       have e2:=k3 e1
       subst e2; subst e1
       rfl
end
theorem mX (xa xb:List (Int×Int)) (hn:xa.length≤1073741824):en xa xb=some (decide (xa=xb)):=by
 unfold en
 by_cases hl:xa.length=xb.length
 . rw [ra hl,cond_false,nF (body:=ib xa xb) xa xb (.inr false) (.inl ()) hl ?_ ?_]
   . by_cases h:xa=xb <;> simp [h]
   . intro k hk
     have h2:k < xb.length:=by omega
     unfold ib
     simp only [dlt hk,cond_true,aF hk,aF h2,Option.bind_some,aG hk (by omega:xa.length≤9223372036854775807)]
     generalize xa[k]=a
     generalize xb[k]=b
     obtain ⟨a1,a2⟩:=a
     obtain ⟨b1,b2⟩:=b
     by_cases q:a1=b1 <;> by_cases q2:a2=b2 <;> simp [q,q2]
   . simp [ib]
 . rw [qE hl,cond_true]
   have:¬ xa=xb:=fun h=>hl (by rw [h])
   simp [this]
theorem vl {U:Nat} {M:List (List Int)} (h:Rl U M) (l:List (Int×Int)) (hl:l.length≤1000000000):f9 M l=some (l.all fun e=>ak (f31 M) e.1 e.2):=by
 unfold f9
 rw [tB (body:=ig M l) l (fun e=>!ak (f31 M) e.1 e.2) (.inr false) (.inl ()) ?_ ?_]
 . rw [List.any_eq_not_all_not]
   simp only [Bool.not_not]
   cases l.all fun e=>ak (f31 M) e.1 e.2 <;> rfl
 . intro k hk
   unfold ig
   simp only [dlt hk,cond_true,aF hk,Option.bind_some,lh h,aG hk (by omega:l.length≤9223372036854775807)]
   cases ak (f31 M) l[k].1 l[k].2 <;> rfl
 . unfold ig
   rw [dge (by omega),cond_false]
theorem uY {U:Nat} (hU:U≤1000) {M:List (List Int)} (h:Rl U M) {s:Nat} (hs:s < U) (c0:List (Int×Int)) (hc:c0.length≤100000000):loop (fY M (s:Int)) (c0,0)=some (c0++bR U (f31 M) s):=by
 have:=ca (body:=fY M (s:Int)) (b:=c0++bR U (f31 M) s) (fun k=>(c0++((List.range k).filter fun b=>!decide (b=s)&&f31 M s b).map fun b:Nat=>((s:Int),(b:Int)),(k:Int))) U ?_ ?_
 . simpa using this
 . intro k hk
   unfold fY
   dsimp only
   have ls:s < M.length:=by rw [h.len]; exact hs
   have lk:k < M[s].length:=by rw [h.row s ls]; exact hk
   have l1:=eC (fun b=>!decide (b=s)&&f31 M s b) k
   rw [h.len,dlt hk,cond_true,List.range_succ,List.filter_append,List.map_append]
   simp only [Option.bind_some,aG hk (by omega:U≤9223372036854775807),aF ls,aF lk,dp ls lk]
   by_cases q:k=s
   . subst q
     simp
   . have q2:¬ (s:Int)=(k:Int):=by omega
     rw [decide_eq_false q2,Bool.not_false,cond_true]
     simp only [Option.bind_some]
     by_cases q3:at2 M s k=1
     . rw [decide_eq_true q3,cond_true,ce (by rw [List.length_append,List.length_map,List.length_singleton]; omega)]
       simp [q,q3,f31]
     . rw [decide_eq_false q3,cond_false]
       simp [q,q3,f31]
 . unfold fY
   dsimp only
   rw [h.len,dge (by omega),cond_false]; rfl
theorem sL {U:Nat} (hU:U≤1000) {M:List (List Int)} (h:Rl U M):f6 M=some (bL U (f31 M) U):=by
 unfold f6
 have key:=bc (body:=kb M) (fun s=>∃ k:Nat,1≤k∧k≤U + 1∧s=(bL U (f31 M) k,(k:Int))∧(k=U + 1→U=0)) (fun s=>U + 1 - s.2.toNat) (Q:=fun r=>r=bL U (f31 M) U) ?_ (s:=([],1)) ⟨1,Nat.le_refl _,by omega,rfl,fun e=>by omega⟩
 . obtain ⟨r,e,rfl⟩:=key
   rw [e]; rfl
 . rintro s ⟨k,k1,k2,rfl,k3⟩
   unfold kb
   dsimp only
   rw [h.len]
   by_cases hk:k < U
   . left
     have b1:=jo U (f31 M) k
     have b2:k * U≤1000 * 1000:=Nat.mul_le_mul (by omega) hU
     rw [dlt hk,cond_true,uY hU h hk _ (by omega)]
     simp only [Option.bind_some,aG hk (by omega:U≤9223372036854775807)]
     refine ⟨_,rfl,⟨k + 1,by omega,by omega,?_,fun e=>by omega⟩,by dsimp only; rw [Int.toNat_natCast,Int.toNat_natCast]; omega⟩
     rw [lj,if_neg (by omega)]
   . right
     rw [dge hk,cond_false]
     refine ⟨_,rfl,?_⟩
     by_cases e:k=U
     . rw [e]
     . have e1:k=U + 1:=by omega
       have e2:=k3 e1
       subst e2; subst e1
       rfl
end
set_option maxRecDepth 20000
section
def fA (a b:Nat):Bool:=decide (a≤b∧b < 4)
theorem wr {f:Nat→Nat→Bool} (hf:Ff 4 [(1,2),(2,3)] f):f=fA:=by
 funext a b
 unfold fA
 rw [Bool.eq_iff_iff,decide_eq_true_eq]
 constructor
 . intro h
   refine ⟨?_,(hf.lt h).2⟩
   refine hf.least (fun p q=>p≤q) (fun p q r h1 h2=>Nat.le_trans h1 h2) (fun p q _ _ h=>?_) h
   rcases h with h | h | h
   . omega
   . omega
   . simp only [List.mem_cons,Prod.mk.injEq,List.not_mem_nil,or_false] at h
     omega
 . rintro ⟨h1,h2⟩
   have i12:f 1 2=true:=hf.ini (by omega) (by omega) (.inr (.inr (by simp)))
   have i23:f 2 3=true:=hf.ini (by omega) (by omega) (.inr (.inr (by simp)))
   have:a=0∨a=b∨(a=1∧b=2)∨(a=2∧b=3)∨(a=1∧b=3):=by omega
   rcases this with h | h | ⟨rfl,rfl⟩ | ⟨rfl,rfl⟩ | ⟨rfl,rfl⟩
   . exact hf.ini (by omega) h2 (.inr (.inl h))
   . exact hf.ini (by omega) h2 (.inl h)
   . exact i12
   . exact i23
   . exact hf.cl i12 i23
theorem nE:eo=some true:=by
 unfold eo
 obtain ⟨M,_,_,hf⟩:=qg (U:=4) (by omega) [(1,2),(2,3)] (by simp)
 rw [wr hf] at hf
 obtain ⟨S,m,x,e,h⟩:=rj (U:=4) (by omega) (xb:=[(1,2),(2,3)]) (by simp) hf
 have e:cH 4 [(1,2),(2,3)]=some (((4:Nat):Int),S,m,x):=e
 have v1:ak fA 1 3=true:=by decide
 have v2:ak fA 3 1=false:=by decide
 have v3:ak fA 0 3=true:=by decide
 have v4:bL 4 fA 4=[(1,2),(1,3),(2,3)]:=by decide
 rw [e]
 simp only [Option.bind_some,h.has,v1,v2,v3,cond_true,Bool.not_false,h.bounds (by omega:(4:Nat)≤1000),v4]
 rw [mX _ _ (by simp)]
 simp
theorem nj {U:Nat} {S:List Int} {m:Option (List (Int×Int))} {x:Option (Int×MX)} {M:List (List Int)} (hM:Rl U M) (h:KOK U S m x (f31 M)) (hU:U≤1000) (l2:List (Int×Int)) (h2:l2.length≤1000000000) (a b:Int) :
   (cond (!decide ((U:Int)=(((M.length:Nat):Int)))) (some (false)) ((bA a b (U:Int) S m x).bind fun (t2342,l2343,l2344,l2345)=>(bQ M a b).bind fun t2362=>cond (!(t2342 == t2362)) (some (false)) ((fL a b (U:Int) l2343 l2344 l2345).bind fun (t2407,l2408,l2409,l2410)=>(bQ M a b).bind fun t2423=>(cond (t2423) ((bQ M b a).bind fun t2438=>some (t2438)) (some (false))).bind fun t2434=>cond (!(t2407 == t2434)) (some (false)) ((fQ l2 (U:Int) l2408 l2409 l2410).bind fun (t2468,l2469,l2470,l2471)=>(f9 M l2).bind fun t2484=>cond (!(t2468 == t2484)) (some (false)) ((d9 (U:Int) l2469 l2470 l2471).bind fun (l2534,l2535,l2536,l2537)=>(f6 M).bind fun l2554=>(en l2534 l2554).bind fun t2570=>cond (!t2570) (some (false)) ((loop (ef a M) ((([]:List Int),([]:List Int),0)):Option (((List Int)×(List Int)))).bind fun (l2918,l2923)=>(c9 a (U:Int) l2535 l2536 l2537).bind fun (l3374,l3375,l3376,l3377)=>(dI l3374 l2918).bind fun t3400=>cond (t3400) ((fM a (U:Int) l3375 l3376 l3377).bind fun (l3440,l3441,l3442,l3443)=>(dI l3440 l2923).bind fun t3466=>(cond (t3466) ((eo).bind fun t3481=>some (t3481)) (some (false))).bind fun t3477=>some (t3477)) (some (false)))))):Option Bool))=some true:=by
 have e0:(!decide ((U:Int)=(((M.length:Nat):Int))))=false:=by rw [hM.len]; simp
 rw [e0,cond_false,h.has]
 have ha:(cond (ak (f31 M) a b) (some (ak (f31 M) b a)) (some false))=some (ak (f31 M) a b&&ak (f31 M) b a):=by cases ak (f31 M) a b <;> rfl
 have bb:∀ t:Bool,(!(t == t))=false:=fun t=>by cases t <;> rfl
 have bl:=jo U (f31 M) U
 have b2:U * U≤1000 * 1000:=Nat.mul_le_mul hU hU
 have lp:=ca (body:=ef a M) (b:=(liN (aq U fun b=>ak (f31 M) a b),liN (aq U fun b=>ak (f31 M) b a))) (fun k=>(liN (aq k fun b=>ak (f31 M) a b),liN (aq k fun b=>ak (f31 M) b a),(k:Int))) U ?_ ?_
 . have lp:loop (ef a M) ([],[],0)=_:=lp
   simp only [Option.bind_some,lh hM,bb,cond_false,h.alike,ha,h.all l2 h2,vl hM l2 h2,h.bounds hU,sL hU hM]
   rw [mX _ _ (by omega)]
   have l1:=cP U fun b=>ak (f31 M) a b
   have l2:=cP U fun b=>ak (f31 M) b a
   simp only [Option.bind_some,decide_true,Bool.not_true,cond_false,lp,h.subs,h.sups]
   rw [qk (by rw [eT]; omega)]
   simp only [Option.bind_some,decide_true,cond_true]
   rw [qk (by rw [eT]; omega)]
   simp only [Option.bind_some,decide_true,cond_true,nE]
 . intro k hk
   unfold ef
   dsimp only
   have l1:=cP k fun b=>ak (f31 M) a b
   have l2:=cP k fun b=>ak (f31 M) b a
   rw [hM.len,dlt hk,cond_true]
   simp only [lh hM,Option.bind_some,aG hk (by omega:U≤9223372036854775807),nM]
   rw [ce (by rw [eT,List.length_singleton]; omega),ce (by rw [eT,List.length_singleton]; omega)]
   cases ak (f31 M) a (k:Int) <;> cases ak (f31 M) (k:Int) a <;> simp [oB]
 . unfold ef
   dsimp only
   rw [hM.len,dge (by omega),cond_false]
theorem wz:Rl 0 []:=⟨rfl,fun a h=>absurd h (Nat.not_lt_zero _),fun a b => .inl (by unfold at2; simp)⟩
theorem vG:f31 []=fun _ _=>false:=by funext a b; unfold f31 at2; simp
theorem rT (xa:Int) (xb:(List (Int×Int))) (xc:(List (Int×Int))) (xd:Int) (xe:Int) (k0:Tp.Ok (.int .i64) xa) (k1:Tp.Ok (.sl (.cons (.int .i64) (.one (.int .i64)))) xb) (k2:Tp.Ok (.sl (.cons (.int .i64) (.one (.int .i64)))) xc) (k3:Tp.Ok (.int .i64) xd) (k4:Tp.Ok (.int .i64) xe):ka xa xb xc xd xe=some true:=by
 unfold ka
 by_cases g:(((decide (30 < (((xb.length:Nat):Int))))||(decide (30 < (((xc.length:Nat):Int)))))||((decide (12 < xa))&&(decide (xa≤65536))))=true
 . rw [g,cond_true,nE]; rfl
 . rw [Bool.eq_false_iff.2 g,cond_false]
   simp only [Bool.or_eq_true,Bool.and_eq_true,decide_eq_true_eq,not_or,not_and] at g
   obtain ⟨⟨g1,g2⟩,g3⟩:=g
   by_cases o:xa < 0∨65536 < xa
   . rw [wx o,uT o]
     simp only [Option.bind_some]
     have:=nj (U:=0) (M:=[]) wz (by rw [vG]; exact uq) (by omega) xc (by omega) xd xe
     exact this
   . obtain ⟨U,rfl⟩:=Int.eq_ofNat_of_zero_le (a:=xa) (by omega)
     have hU:U≤12:=by omega
     obtain ⟨M,e1,hM,hf⟩:=qg (U:=U) (by omega) xb (by omega)
     obtain ⟨S,m,x,e2,h⟩:=rj (U:=U) (by omega) (xb:=xb) (by omega) hf
     rw [e1,e2]
     simp only [Option.bind_some]
     exact nj hM h (by omega) xc (by omega) xd xe
section
variable {U:Nat} {S S2 S3:List Int} {m m2 m3:Option (List (Int×Int))} {x x2 x3:Option (Int×MX)} {f f3:Nat→Nat→Bool}
end
end
theorem rV {H:Type} (enc:TypeId×Value→H) (W:World) (base:Nat) {v0 v1 v2 v3 v4:Value} {d0 d1 d2 d3 d4:DataW H} {p0 p1 p2 p3 p4:List MemPlace}
   (h0:DataW.Trod enc Tryd.prog W 0 (fun _=>true) true 3 v0 d0 p0) (h1:DataW.Trod enc Tryd.prog W 0 (fun _=>true) true 22 v1 d1 p1) (h2:DataW.Trod enc Tryd.prog W 0 (fun _=>true) true 22 v2 d2 p2) (h3:DataW.Trod enc Tryd.prog W 0 (fun _=>true) true 3 v3 d3 p3) (h4:DataW.Trod enc Tryd.prog W 0 (fun _=>true) true 3 v4 d4 p4)
   (o0:Value.okWide Tryd.prog W .any base 3 v0) (o1:Value.okWide Tryd.prog W .any base 22 v1) (o2:Value.okWide Tryd.prog W .any base 22 v2) (o3:Value.okWide Tryd.prog W .any base 3 v3) (o4:Value.okWide Tryd.prog W .any base 3 v4)
   (hgk:tzGk (Hp.of W)) :
   Calls Tryd.prog 3 #[v0,v1,v2,v3,v4] W fun e W'=>e = .returned (.bool true)∧Below W.heap.size W W':=by
 obtain ⟨xa,i0,k0⟩:=Tp.arg (.int .i64) (by kernel_rfl) o0 h0
 obtain ⟨xb,i1,k1⟩:=Tp.arg (.sl (.cons (.int .i64) (.one (.int .i64)))) (by kernel_rfl) o1 h1
 obtain ⟨xc,i2,k2⟩:=Tp.arg (.sl (.cons (.int .i64) (.one (.int .i64)))) (by kernel_rfl) o2 h2
 obtain ⟨xd,i3,k3⟩:=Tp.arg (.int .i64) (by kernel_rfl) o3 h3
 obtain ⟨xe,i4,k4⟩:=Tp.arg (.int .i64) (by kernel_rfl) o4 h4
 exact wR (s:=mP) (x:=(xa,xb,xc,xd,xe)) (args:=[v0,v1,v2,v3,v4]) rI (rT xa xb xc xd xe k0 k1 k2 k3 k4) hgk rfl rfl ⟨_,_,rfl,fc _ i0,_,_,rfl,fc _ i1,_,_,rfl,fc _ i2,_,_,rfl,fc _ i3,_,_,rfl,fc _ i4,rfl⟩
theorem wj:∀ j,j < 64→(Lib.deBruijn64tab.map Int.ofNat).getD j 0=((Lib.deBruijn64tab.getD j 0:Nat):Int):=by decide +kernel
theorem vF {W : World} {rest : List (String × DataW Unit)} (h : laidMet Tryd.prog (("math/bits.deBruijn64tab", Rows.laid_math_bits_deBruijn64tab) :: rest) W) : tzGk (Hp.of W) := by
 have hg : Tryd.prog.globalNamed "math/bits.deBruijn64tab" = some 0 := by kernel_rfl
 have hT : Lib.TabIs Tryd.prog W "math/bits.deBruijn64tab" .u8 (Lib.deBruijn64tab.map Int.ofNat) :=
   Lib.tabIs_of_head (t:=98) (e:=5) (n:=64) hg (by kernel_rfl) (by kernel_rfl) (by kernel_rfl) (by kernel_rfl) (by kernel_rfl) h
 intro j hj
 rw [← wj j hj]
 exact oO (hT.cell hg j (by simpa [Lib.deBruijn64tab] using hj))
end
end Go.Proofs.YtdjcapgpjpadeaaDoor
namespace Go.Proofs.YtdjcapgpjpadeaaDoor.declTellsFrame
set_option maxRecDepth 40000
open Go.ChangeShapes Go.WideShapes Go.ChangeAt Go.RowKit
theorem own:ownKnob Tryd.prog.godebug=none:=by kernel_rfl
theorem oK (H:Type) (enc:TypeId×Value→H) (W:World) (base:Nat) (args:Array Value) (ds gs:List (DataW H)) (before:List MemPlace)
    (hval:∀ (j:Nat) t v,Tryd.f3.params[j]? = some t→args[j]? = some v→Value.okWide Tryd.prog W .any base t v)
    (hW:DataW.Whole enc Tryd.prog Tryd.f3.params.toList Rows.declTellsSpec.vars false W args.toList ds gs before) (hgk:tzGk (Hp.of W)) :
    Calls Tryd.prog 3 args W fun e W'=>∃ v,e = .returned v∧Rows.declTellsSpec.post enc Tryd.prog Tryd.f3 false true false false W args v W':=by
  have hW':=hW
  obtain ⟨p,q,hA0,hV,rfl,hfz,hnd⟩:=hW
  have hA:DataW.TrodAll enc Tryd.prog W 0 (fun _=>true) true Tryd.f3.params.toList args.toList ds p:=hA0
  rw [Tryd.params3] at hA hval
  obtain ⟨v0,vs0,d0,ds0,p0,q0,hargs,rfl,rfl,h0,r0⟩:=trodAll_cons hA
  obtain ⟨v1,vs1,d1,ds1,p1,q1,rfl,rfl,rfl,h1,r1⟩:=trodAll_cons r0
  obtain ⟨v2,vs2,d2,ds2,p2,q2,rfl,rfl,rfl,h2,r2⟩:=trodAll_cons r1
  obtain ⟨v3,vs3,d3,ds3,p3,q3,rfl,rfl,rfl,h3,r3⟩:=trodAll_cons r2
  obtain ⟨v4,vs4,d4,ds4,p4,q4,rfl,rfl,rfl,h4,r4⟩:=trodAll_cons r3
  obtain ⟨rfl,rfl,rfl⟩:=trodAll_nil r4
  obtain rfl:args = #[v0,v1,v2,v3,v4]:=by cases args; simp_all
  refine (rV enc W base h0 h1 h2 h3 h4 (hval 0 _ v0 rfl rfl) (hval 1 _ v1 rfl rfl) (hval 2 _ v2 rfl rfl) (hval 3 _ v3 rfl rfl) (hval 4 _ v4 rfl rfl) hgk).mono fun e W' ⟨he,hb⟩=>?_
  subst he
  exact ⟨_,rfl,uJ (tb:=_) rfl hW' rfl rfl (by kernel_rfl) (by kernel_rfl) (of_decide_eq_true (by kernel_rfl)) hb⟩
noncomputable def qP (os:Os):World:=World.laidAll Tryd.prog os Rows.declTellsRow.laid
theorem qQ (os:Os) {H:Type} (enc:TypeId×Value→H):∃ x,DataW.whole enc Tryd.prog ((qP os).forCall (fun _ _=>0) ⟨#[],#[.int .i64 0,.slice none 0 0,.slice none 0 0,.int .i64 0,.int .i64 0],[]⟩).memory Tryd.f3.params.toList Rows.declTellsSpec.vars false (#[.int .i64 0,.slice none 0 0,.slice none 0 0,.int .i64 0,.int .i64 0]:Array Value).toList 8=some x :=
  Option.isSome_iff_exists.1 (by kernel_rfl)
set_option maxRecDepth 100000 in
theorem wG (os:Os) (started:os.Started) (H:Type) (enc:TypeId×Value→H) (F:Stop.Interp) :
    ReturnsInHanded {} Tryd.checked os 3 .any ((OpenSpec.ofChange Rows.declTellsSpec).preRow enc Tryd.prog Tryd.f3 Rows.declTellsRow.domain false Rows.declTellsRow.laid) (((OpenSpec.ofChange Rows.declTellsSpec).at F).post enc Tryd.prog Tryd.f3 false true false false):=by
  obtain ⟨x,hx⟩:=qQ os enc
  refine returnsInHanded_of_row (C:=Tryd.checked) (s:=OpenSpec.ofChange Rows.declTellsSpec) own started (by kernel_rfl) Tryd.func3
    ⟨qP os,fun _ _=>0,⟨#[],#[.int .i64 0,.slice none 0 0,.slice none 0 0,.int .i64 0,.int .i64 0],[]⟩,World.laidAll_os _ _ _,World.shaped_of_ZipB (by kernel_rfl) (by kernel_rfl),rfl,(Input.okWide_of_okWideB (by kernel_rfl)).2,
      OpenSpec.preRow_of_cond 8 hx (by kernel_rfl) (fun k hk=>by cases hk) (by kernel_rfl) (by rw [MakeChecks.laidMetH_plain _ _ _ (by kernel_rfl)]; exact laidMet_laidAll _ (by kernel_rfl) (by kernel_rfl)),
      by simp only [Assume.holds]; exact ⟨by simp,by simp,by simp,by simp,by simp⟩⟩ ?_
  intro W base args ds gs before hval hW _ _ _ hL _ _
  exact oK H enc W base args ds gs before hval hW (vF (rest:=[]) (by rw [MakeChecks.laidMetH_plain _ _ _ (by kernel_rfl)] at hL; exact hL))
theorem v8:Rows.DeclTellsSaid :=
  OpenClaim.holds_of_cond 3 Tryd.f3 rfl rfl rfl rfl rfl rfl rfl ⟨rfl,rfl,rfl,rfl,rfl⟩ rfl rfl rfl rfl rfl (by kernel_rfl) Tryd.func3 (by kernel_rfl)
    (of_decide_eq_true (by kernel_rfl)) (by unfold Func.isWrapper; first | (rw [if_pos (by decide +kernel)]; kernel_rfl) | (rw [if_neg (by decide +kernel)]; exact ⟨rfl,rfl⟩))
    (fun os started H enc _ F=>by rw [OpenClaim.pre_eq_preRow]; exact wG os started H enc F)
theorem card:Rows.DeclTellsCardSaid :=
  Claim7.holds_tied_plain_at .later [] [.data] true (true, "cff4440a208ff8a3b042a5945bde47ded1e6b5f250cae28a4c58b266efaa0e7b") false v8 (fun _ h => by cases h) (by kernel_rfl) (fun _ h => by cases h) declTells_row_tie rfl ⟨rfl, rfl⟩ (by kernel_rfl) rfl
    (fun f fn hf hfn=>by
      obtain rfl : f = 3 := Option.some.inj ((show Tryd.prog.funcNamed "easement/easementlaw31.DeclTells" = some 3 by kernel_rfl).symm.trans hf) |>.symm
      obtain rfl:fn=Tryd.f3:=(Option.some.inj (Tryd.func3.symm.trans hfn)).symm
      exact ⟨by kernel_rfl,fun j t ht=>by
        rw [Tryd.params3] at ht
        have hm:t∈[3,22,22,3,3]:=by simpa using Array.mem_of_getElem? ht
        have hall:([3,22,22,3,3].all fun u=>!Tryd.prog.wantsStandIn u)=true:=by kernel_rfl
        exact (show Tryd.prog.wantsStandIn t=false by simpa using List.all_eq_true.1 hall t hm)⟩)
    (by kernel_rfl)
end Go.Proofs.YtdjcapgpjpadeaaDoor.declTellsFrame
