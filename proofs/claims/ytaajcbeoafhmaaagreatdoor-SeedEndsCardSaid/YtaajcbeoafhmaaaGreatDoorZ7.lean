/- 'easement/easementlaw28.SeedEnds' returns true for every input, and each argument reads afterwards as it read before: the row's frame round the walk. -/
import Derived.Test.YtaajcbeoafhmaaaGreatDoorZ6
import Derived.Test.YtaajcbeoafhmaaaGreatDoorRows
import Derived.Lib.LaidTab
import Derived.Test.YtaajcbeoafhmaaaGreatDoorCards
import Derived.Test.YtaajcbeoafhmaaaGreatDoorTie
import Derived.Lay
import Derived.SevenTiedAt
namespace Go.Proofs.YtaajcbeoafhmaaaGreatDoor
set_option linter.unusedVariables false
set_option linter.unusedSimpArgs false
set_option linter.unnecessarySimpa false
def ins (i:Int):List Int→List Int
 | []=>[i]
 | x :: l=>if i < x then i :: x :: l else x :: ins i l
theorem ins_mem (i a:Int):∀ l,a∈ins i l↔a=i∨a∈l
 | []=>by simp [ins]
 | x :: l=>by
   unfold ins
   split
   · simp
   · rw [List.mem_cons,ins_mem i a l,List.mem_cons]
     constructor
     · rintro (h | h | h) <;> simp [h]
     · rintro (h | h | h) <;> simp [h]
theorem ins_rs (i:Int):∀ l:List Int,l.Pairwise (· < ·)→i∉l→(ins i l).Pairwise (· < ·)
 | [],_,_=>by simp [ins]
 | x :: l,h,hi=>by
   obtain ⟨h1,h2⟩:=List.pairwise_cons.1 h
   have hx:i≠x:=fun e=>hi (by simp [e])
   unfold ins
   split
   · rename_i hlt
     refine List.pairwise_cons.2 ⟨fun a ha=>?_,h⟩
     rcases List.mem_cons.1 ha with rfl | ha
     · exact hlt
     · have:=h1 a ha; omega
   · refine List.pairwise_cons.2 ⟨fun a ha=>?_,ins_rs i l h2 (fun hm=>hi (by simp [hm]))⟩
     rcases (ins_mem i a l).1 ha with rfl | ha
     · omega
     · exact h1 a ha
theorem ins_len (i:Int):∀ l:List Int,(ins i l).length=l.length + 1
 | []=>rfl
 | x :: l=>by unfold ins; split <;> simp [ins_len i l]
theorem ins_cons (i x:Int) (l:List Int):ins i (x :: l)=if i < x then i :: x :: l else x :: ins i l:=rfl
def rHas (L:List Int) (i:Int):Bool:=decide (i∈L)
def rAdd (s:Int) (L:List Int) (i:Int):List Int:=if (0≤i∧i < s)∧i∉L then ins i L else L
def rAddOk (s:Int) (L:List Int) (i:Int):Bool:=decide ((0≤i∧i < s)∧i∉L)
def rOr (s:Int) (L:List Int):List Int→List Int×Bool
 | []=>(L,false)
 | x :: l=>((rOr s (rAdd s L x) l).1,rAddOk s L x||(rOr s (rAdd s L x) l).2)
theorem rAdd_len (s:Int) (L:List Int) (i:Int):(rAdd s L i).length≤L.length + 1:=by
 unfold rAdd
 split
 · rw [ins_len]; exact Nat.le_refl _
 · omega
theorem rOr_snoc (s:Int) (x:Int):∀ (l L:List Int),rOr s L (l++[x])=(rAdd s (rOr s L l).1 x,(rOr s L l).2||rAddOk s (rOr s L l).1 x)
 | [],L=>by simp [rOr]
 | y :: l,L=>by
   rw [List.cons_append]
   unfold rOr
   rw [rOr_snoc s x l]
   simp [Bool.or_assoc]
theorem rAdd_rs {s:Int} {L:List Int} (h:L.Pairwise (· < ·)) (i:Int):(rAdd s L i).Pairwise (· < ·):=by
 unfold rAdd
 split
 · rename_i h4; exact ins_rs _ _ h h4.2
 · exact h
theorem rAdd_mem {s:Int} {L:List Int} (i x:Int):x∈rAdd s L i↔x∈L∨(x=i∧0≤i∧i < s):=by
 unfold rAdd
 split
 · rename_i h4
   rw [ins_mem]
   constructor
   · rintro (h | h)
     · exact .inr ⟨h,h4.1⟩
     · exact .inl h
   · rintro (h | h)
     · exact .inr h
     · exact .inl h.1
 · rename_i h4
   constructor
   · exact .inl
   · rintro (h | ⟨rfl,h⟩)
     · exact h
     · refine Classical.byContradiction fun h5=>h4 ⟨h,h5⟩
theorem rOr_rs (s:Int):∀ (l L:List Int),L.Pairwise (· < ·)→(rOr s L l).1.Pairwise (· < ·)
 | [],_,h=>h
 | x :: l,L,h=>rOr_rs s l _ (rAdd_rs h x)
theorem rOr_mem (s:Int) (x:Int):∀ (l L:List Int),x∈(rOr s L l).1↔x∈L∨(x∈l∧0≤x∧x < s)
 | [],L=>by simp [rOr]
 | y :: l,L=>by
   unfold rOr
   dsimp only
   rw [rOr_mem s x l,rAdd_mem,List.mem_cons]
   constructor
   · rintro ((h | ⟨h,h2⟩) | ⟨h,h2⟩)
     · exact .inl h
     · subst h; exact .inr ⟨.inl rfl,h2⟩
     · exact .inr ⟨.inr h,h2⟩
   · rintro (h | ⟨h | h,h2⟩)
     · exact .inl (.inl h)
     · subst h; exact .inl (.inr ⟨rfl,h2⟩)
     · exact .inr ⟨h,h2⟩
theorem rOr_ok (s:Int):∀ (l L:List Int),(rOr s L l).2=true↔∃ x∈l,(0≤x∧x < s)∧x∉L
 | [],L=>by simp [rOr]
 | y :: l,L=>by
   unfold rOr
   dsimp only
   rw [Bool.or_eq_true,rOr_ok s l]
   unfold rAddOk
   rw [decide_eq_true_eq]
   constructor
   · rintro (h | ⟨x,h1,h2,h3⟩)
     · exact ⟨y,by simp,h⟩
     · exact ⟨x,by simp [h1],h2,fun h=>h3 ((rAdd_mem _ _).2 (.inl h))⟩
   · rintro ⟨x,h1,h2,h3⟩
     by_cases hy:(0≤y∧y < s)∧y∉L
     · exact .inl hy
     · rcases List.mem_cons.1 h1 with rfl | h1
       · exact absurd ⟨h2,h3⟩ hy
       · refine .inr ⟨x,h1,h2,fun h=>?_⟩
         rcases (rAdd_mem _ _).1 h with h | ⟨rfl,h⟩
         · exact h3 h
         · exact hy ⟨h,h3⟩
theorem sub_len {A B:List Int} (hA:A.Pairwise (· < ·)) (hB:B.Pairwise (· < ·)) (h:∀ x∈A,x∈B):A.length≤B.length:=by
 have e:B.filter (fun x=>decide (x∈A))=A:=by
   refine strict_eq (List.Pairwise.filter _ hB) hA fun x=>?_
   rw [List.mem_filter,decide_eq_true_eq]
   exact ⟨fun h=>h.2,fun hx=>⟨h x hx,hx⟩⟩
 rw [← e]
 exact List.length_filter_le _ _
theorem ins_last {x:Int}:∀ {A:List Int},(∀ y∈A,y < x)→ins x A=A++[x]
 | [],_=>rfl
 | a :: A,h=>by
   have:=h a (by simp)
   rw [ins_cons,if_neg (by omega),ins_last (fun y hy=>h y (by simp [hy]))]
   rfl
open Go.RowKit
structure Rp (n:Nat) (l:List Int) (L:List Int):Prop where
 ds:Ds n l
 rs:L.Pairwise (· < ·)
 mm:∀ x:Int,x∈L↔0≤x∧mem l x.toNat=true
theorem liN_mem (M:List Nat) (x:Int):x∈liN M↔0≤x∧x.toNat∈M:=by
 unfold liN
 rw [List.mem_map]
 constructor
 · rintro ⟨a,ha,rfl⟩
   exact ⟨Int.natCast_nonneg _,by simpa using ha⟩
 · rintro ⟨h1,h2⟩
   exact ⟨x.toNat,h2,Int.toNat_of_nonneg h1⟩
theorem lt_of_mem {n:Nat} {l:List Int} (h:Ds n l) {k:Nat} (hk:mem l k=true):k < n:=by
 rcases Nat.lt_or_ge k n with h1 | h1
 · exact h1
 · rw [h.top k h1] at hk; cases hk
theorem mems_mem {n:Nat} {l:List Int} (h:Ds n l) (k:Nat):k∈mems n l↔mem l k=true:=by
 unfold mems
 rw [List.mem_filter,List.mem_range]
 exact ⟨fun h=>h.2,fun hk=>⟨lt_of_mem h hk,hk⟩⟩
theorem liN_rs (n:Nat) (l:List Int):(liN (mems n l)).Pairwise (· < ·):=by
 unfold liN mems
 rw [List.pairwise_map]
 refine List.Pairwise.imp (fun h=>?_) (List.Pairwise.filter (mem l) (List.pairwise_lt_range (n:=n)))
 exact Int.ofNat_lt.2 h
theorem Rp.eq {n:Nat} {l L:List Int} (h:Rp n l L):liN (mems n l)=L :=
 strict_eq (liN_rs n l) h.rs (fun x=>by rw [liN_mem,mems_mem h.ds,h.mm])
theorem Rp.len {n:Nat} {l L:List Int} (h:Rp n l L):(mems n l).length=L.length:=by
 rw [← h.eq]; simp [liN]
theorem Rp.le {n:Nat} {l L:List Int} (h:Rp n l L):L.length≤n:=by
 rw [← h.len]; exact filter_len _ _
theorem Rp_new {n:Nat} (h:n≤1048576):Rp n (List.replicate ((n + 63) / 64) 0) [] :=
 ⟨Ds_new h,List.Pairwise.nil,fun x=>by simp [mem_rep]⟩
theorem Rp.has {n:Nat} {l L:List Int} (h:Rp n l L) (i:Int):fn_dense_Set_Has (some ((n:Int),l)) i=some (rHas L i):=by
 rw [Has_some h.ds]
 congr 1
 unfold rHas
 rw [Bool.eq_iff_iff,Bool.and_eq_true,decide_eq_true_eq,decide_eq_true_eq,h.mm]
 constructor
 · exact fun h=>⟨h.1.1,h.2⟩
 · intro h2
   have:=lt_of_mem h.ds h2.2
   exact ⟨⟨h2.1,by omega⟩,h2.2⟩
theorem Rp.add {n:Nat} {l L:List Int} (h:Rp n l L) (i:Int):∃ l',fn_dense_Set_Add_p0i_ir i n l=some (rAddOk n L i,l')∧Rp n l' (rAdd n L i):=by
 obtain ⟨l',h1,h2,h3⟩:=Add_some h.ds i
 have hm:=h.mm i
 have e:(decide (0≤i∧i < n)&&!mem l i.toNat)=rAddOk n L i:=by
   unfold rAddOk
   rw [Bool.eq_iff_iff,Bool.and_eq_true,decide_eq_true_eq,decide_eq_true_eq,hm]
   constructor
   · rintro ⟨h5,h6⟩
     exact ⟨h5,fun h7=>by rw [h7.2] at h6; cases h6⟩
   · rintro ⟨h5,h6⟩
     refine ⟨h5,?_⟩
     cases h7:mem l i.toNat with
     | false=>rfl
     | true=>exact absurd ⟨h5.1,h7⟩ h6
 refine ⟨l',by rw [h1,e],h2,?_,fun x=>?_⟩
 · unfold rAdd
   split
   · rename_i h4
     exact ins_rs _ _ h.rs h4.2
   · exact h.rs
 · rw [h3]
   unfold rAdd
   split
   · rename_i h4
     rw [ins_mem,h.mm,Bool.or_eq_true,decide_eq_true_eq]
     constructor
     · rintro (rfl | h5)
       · exact ⟨h4.1.1,.inr ⟨h4.1,rfl⟩⟩
       · exact ⟨h5.1,.inl h5.2⟩
     · rintro ⟨h5,h6 | h6⟩
       · exact .inr ⟨h5,h6⟩
       · exact .inl (by omega)
   · rename_i h4
     rw [h.mm,Bool.or_eq_true,decide_eq_true_eq]
     constructor
     · exact fun h5=>⟨h5.1,.inl h5.2⟩
     · rintro ⟨h5,h6 | h6⟩
       · exact ⟨h5,h6⟩
       · have hx:x=i:=by omega
         subst hx
         refine ⟨h5,?_⟩
         cases h7:mem l x.toNat with
         | true=>rfl
         | false=>exact absurd ⟨h6.1,fun h8=>by rw [(hm.1 h8).2] at h7; cases h7⟩ h4
theorem Rp.count {n:Nat} {l L:List Int} (h:Rp n l L):fn_dense_Set_Count (some ((n:Int),l))=some ((L.length:Nat):Int):=by
 rw [Count_some h.ds,h.len]
theorem dense_loop {n:Nat} {l L:List Int} (h:Rp n l L) {body:Int×List Int→Option ((Int×List Int)⊕List Int)}
   (hb:∀ (c:List Int) (k:Nat),mem l k=true→body ((k:Int),c)=(app c [(k:Int)]).bind fun z=>(fn_dense_Set_Next (some ((n:Int),l)) ((k:Int) + 1)).bind fun i=>some (.inl (i,z))) (he:∀ c,body (-1,c)=some (.inr c)) :
   ∃ r,fn_dense_Set_Next (some ((n:Int),l)) 0=some r∧loop body (r,[])=some L:=by
 have:=gather h.ds hb he
 rw [h.eq] at this
 exact this
def rk (L:List Int) (i:Int):Nat:=(L.filter (fun x=>decide (x < i))).length
theorem rk_le (L:List Int) (i:Int):rk L i≤L.length:=List.length_filter_le _ _
theorem rk_split (i:Int):∀ {L:List Int},L.Pairwise (· < ·)→∀ k (hk:k < L.length),L[k] < i↔k < rk L i
 | [],_,k,hk=>by simp at hk
 | x :: L,h,k,hk=>by
   obtain ⟨h1,h2⟩:=List.pairwise_cons.1 h
   by_cases hx:x < i
   · have e:rk (x :: L) i=rk L i + 1:=by unfold rk; simp [hx]
     rw [e]
     cases k with
     | zero=>simp [hx]
     | succ k =>
       have:=rk_split i h2 k (by simpa using hk)
       simp only [List.getElem_cons_succ]
       rw [this]
       omega
   · have e:rk (x :: L) i=0:=by
       unfold rk
       rw [List.length_eq_zero_iff,List.filter_eq_nil_iff]
       intro y hy
       rcases List.mem_cons.1 hy with rfl | hy
       · simpa using hx
       · have:=h1 y hy
         simp
         omega
     rw [e]
     have:x≤(x :: L)[k]:=by
       cases k with
       | zero=>exact Int.le_refl _
       | succ k=>exact Int.le_of_lt (h1 _ (by simp))
     omega
theorem rk_of {L:List Int} (h:L.Pairwise (· < ·)) {i:Int} {n:Nat} (hn:n≤L.length) (h1:∀ k (hk:k < L.length),k < n→L[k] < i) (h2:∀ k (hk:k < L.length),n≤k→¬ L[k] < i):rk L i=n:=by
 have hl:=rk_le L i
 rcases Nat.lt_trichotomy (rk L i) n with h3 | h3 | h3
 · have:=(rk_split i h (rk L i) (by omega)).1 (h1 _ (by omega) h3)
   omega
 · exact h3
 · exact absurd ((rk_split i h n (by omega)).2 h3) (h2 n (by omega) (Nat.le_refl _))
theorem rk_next {L:List Int} (h:L.Pairwise (· < ·)) {k:Nat} (hk:k < L.length):rk L (L[k] + 1)=k + 1:=by
 have hp:=List.pairwise_iff_getElem.1 h
 refine rk_of h (by omega) (fun j hj hjk=>?_) (fun j hj hjk=>?_)
 · rcases Nat.lt_or_ge j k with h1 | h1
   · have:=hp j k hj hk h1; omega
   · have:j=k:=by omega
     subst this; omega
 · have:=hp k j hk hj (by omega); omega
theorem rk_get {L:List Int} (h:L.Pairwise (· < ·)) {k:Nat} (hk:k < L.length):rk L L[k]=k:=by
 have hp:=List.pairwise_iff_getElem.1 h
 refine rk_of h (by omega) (fun j hj hjk=>hp j k hj hk hjk) (fun j hj hjk=>?_)
 rcases Nat.lt_or_ge k j with h1 | h1
 · have:=hp k j hk hj h1; omega
 · have:j=k:=by omega
   subst this; omega
theorem mem_rk {L:List Int} (h:L.Pairwise (· < ·)) (i:Int):i∈L↔∃ hk:rk L i < L.length,L[rk L i]=i:=by
 constructor
 · intro hi
   obtain ⟨k,hk,rfl⟩:=List.getElem_of_mem hi
   have e:=rk_get h hk
   exact ⟨by rw [e]; exact hk,by simp only [e]⟩
 · rintro ⟨hk,e⟩
   rw [← e]
   exact List.getElem_mem hk
theorem Less_some (a b:Int):fn_cmp_Less_int a b=some (decide (a < b)):=by
 unfold fn_cmp_Less_int fn_cmp_isNaN_int
 simp
theorem midS_eq (s:Nat) (h:s≤4611686018427387904):IntKind.wrap .i64 (Int.fdiv (IntKind.wrap .u64 (IntKind.wrap .i64 (s:Int))) (2 ^ (min (Int.toNat 1) (IntKind.bits .u64))))=((s / 2:Nat):Int):=by
 rw [w64 (x:=(s:Int)) (by omega) (by omega)]
 have e1:IntKind.wrap .u64 (s:Int)=(s:Int):=by rw [IntKind.wrap_u64]; omega
 rw [e1]
 have e2:((2:Int) ^ (min (Int.toNat 1) (IntKind.bits .u64)))=((2:Nat):Int):=rfl
 rw [e2,Int.fdiv_eq_ediv_of_nonneg _ (Int.natCast_nonneg _)]
 rw [show (s:Int) / ((2:Nat):Int)=((s / 2:Nat):Int) from rfl]
 exact w64 (by omega) (by omega)
theorem bs_loop {L:List Int} (h:L.Pairwise (· < ·)) (hl:L.length≤4000000) (x:Int):loop (fn_slices_BinarySearch_int_int_l1 L x) ((0:Int),((L.length:Nat):Int))=some ((rk L x:Nat):Int):=by
 refine loop_val (fun s=>∃ lo hi:Nat,s=((lo:Int),(hi:Int))∧lo≤hi∧hi≤L.length∧(∀ k (hk:k < L.length),k < lo→L[k] < x)∧(∀ k (hk:k < L.length),hi≤k→¬ L[k] < x)) (fun s=>s.2.toNat - s.1.toNat) ?_ ⟨0,L.length,rfl,Nat.zero_le _,Nat.le_refl _,fun k hk h=>absurd h (by omega),fun k hk h=>absurd h (by omega)⟩
 rintro s ⟨lo,hi,rfl,h1,h2,h3,h4⟩
 unfold fn_slices_BinarySearch_int_int_l1
 by_cases hlt:lo < hi
 · left
   have hm:(lo + hi) / 2 < L.length:=by omega
   have hmid:=midS_eq (lo + hi) (by omega)
   rw [Int.natCast_add] at hmid
   have hp:=List.pairwise_iff_getElem.1 h
   simp only [dlt hlt,cond_true,hmid,getN hm,Option.bind_some,Less_some]
   by_cases hx:L[(lo + hi) / 2] < x
   · refine ⟨((((lo + hi) / 2 + 1:Nat):Int),(hi:Int)),?_,⟨_,hi,rfl,by omega,h2,fun k hk hkl=>?_,h4⟩,?_⟩
     · rw [decide_eq_true hx,cond_true,w64s hm (by omega)]
     · rcases Nat.lt_or_ge k ((lo + hi) / 2) with h5 | h5
       · have:=hp k _ hk hm h5; omega
       · have:k=(lo + hi) / 2:=by omega
         subst this; exact hx
     · show (hi:Int).toNat - (((lo + hi) / 2 + 1:Nat):Int).toNat < (hi:Int).toNat - (lo:Int).toNat
       rw [Int.toNat_natCast,Int.toNat_natCast,Int.toNat_natCast]; omega
   · refine ⟨((lo:Int),(((lo + hi) / 2:Nat):Int)),?_,⟨lo,_,rfl,by omega,by omega,h3,fun k hk hkl=>?_⟩,?_⟩
     · rw [decide_eq_false hx,cond_false]
     · rcases Nat.lt_or_ge ((lo + hi) / 2) k with h5 | h5
       · have:=hp _ k hm hk h5; omega
       · have:k=(lo + hi) / 2:=by omega
         subst this; exact hx
     · show (((lo + hi) / 2:Nat):Int).toNat - (lo:Int).toNat < (hi:Int).toNat - (lo:Int).toNat
       rw [Int.toNat_natCast,Int.toNat_natCast,Int.toNat_natCast]; omega
 · right
   have e:hi=lo:=by omega
   subst e
   rw [rk_of h h2 h3 h4]
   simp only [dge hlt,cond_false]
theorem bs_some {L:List Int} (h:L.Pairwise (· < ·)) (hl:L.length≤4000000) (x:Int):fn_slices_BinarySearch_int_int L x=some (((rk L x:Nat):Int),decide (x∈L)):=by
 unfold fn_slices_BinarySearch_int_int
 rw [bs_loop h hl]
 simp only [Option.bind_some]
 have hm:=mem_rk h x
 by_cases hk:rk L x < L.length
 · simp only [dlt hk,cond_true,getN hk,Option.bind_some]
   by_cases hx:L[rk L x]=x
   · have:x∈L:=hm.2 ⟨hk,hx⟩
     simp [hx,this]
   · have:¬ x∈L:=fun h=>hx (hm.1 h).2
     simp [hx,this,fn_slices_isNaN_int]
 · have:¬ x∈L:=fun h=>hk (hm.1 h).1
   simp only [dge hk,cond_false,Option.bind_some,decide_eq_false this]
theorem Rank_some {L:List Int} (h:L.Pairwise (· < ·)) (hl:L.length≤4000000) (x:Int):fn_sparse_Set_Rank (some L) x=some ((rk L x:Nat):Int):=by
 unfold fn_sparse_Set_Rank
 simp only [Option.isNone_some,cond_false,Option.bind_some,bs_some h hl]
theorem At_nat {L:List Int} (k:Nat):fn_sparse_Set_At (some L) (k:Int)=some (L.getD k 0,decide (k < L.length)):=by
 unfold fn_sparse_Set_At fn_sparse_Set_Len
 have h0:¬ ((k:Int) < 0):=by omega
 simp only [decide_eq_false h0,cond_false,Option.bind_some,Option.isNone_some]
 by_cases hk:k < L.length
 · have h1:¬ (((L.length:Nat):Int)≤(k:Int)):=by omega
   simp only [decide_eq_false h1,cond_false,getN hk,Option.bind_some]
   simp [hk]
 · have h1:(((L.length:Nat):Int)≤(k:Int)):=by omega
   simp only [decide_eq_true h1,cond_true]
   simp [hk]
structure Sp (L:List Int):Prop where
 rs:L.Pairwise (· < ·)
 bd:∀ x∈L,0≤x∧x≤2147483647
 ln:L.length≤1000000
theorem Sp.rank {L:List Int} (h:Sp L) (x:Int):fn_sparse_Set_Rank (some L) x=some ((rk L x:Nat):Int):=Rank_some h.rs (Nat.le_trans h.ln (by decide)) x
theorem Sp.has {L:List Int} (h:Sp L) (x:Int):fn_sparse_Set_Has (some L) x=some (decide (x∈L)):=by
 have hl:=h.ln
 unfold fn_sparse_Set_Has
 rw [h.rank]
 simp only [Option.bind_some,At_nat]
 have hm:=mem_rk h.rs x
 congr 1
 rw [Bool.eq_iff_iff,Bool.and_eq_true,decide_eq_true_eq,decide_eq_true_eq,decide_eq_true_eq,hm]
 constructor
 · rintro ⟨h1,h2⟩
   refine ⟨h1,?_⟩
   simpa [h1] using h2
 · rintro ⟨h1,h2⟩
   refine ⟨h1,?_⟩
   simpa [h1] using h2
theorem step_rank {L:List Int} (h:Sp L) {k:Nat} (hk:k < L.length):fn_sparse_Set_Rank (some L) (IntKind.wrap .i64 (L[k] + 1))=some ((k + 1:Nat):Int):=by
 have hb:=h.bd L[k] (List.getElem_mem hk)
 rw [w64 (by omega) (by omega),h.rank,rk_next h.rs hk]
theorem rk_lt {x i:Int} (L:List Int) (h:x < i):rk (x :: L) i=rk L i + 1:=by unfold rk; simp [h]
theorem rk_ge {x i:Int} {L:List Int} (h:¬ x < i) (hs:(x :: L).Pairwise (· < ·)):rk (x :: L) i=0:=by
 obtain ⟨h1,h2⟩:=List.pairwise_cons.1 hs
 unfold rk
 rw [List.length_eq_zero_iff,List.filter_eq_nil_iff]
 intro y hy
 rcases List.mem_cons.1 hy with rfl | hy
 · simpa using h
 · have:=h1 y hy
   simp
   omega
theorem ins_rk (i:Int):∀ {L:List Int},L.Pairwise (· < ·)→i∉L→L.take (rk L i)++[i]++L.drop (rk L i)=ins i L
 | [],_,_=>rfl
 | x :: L,hs,hi=>by
   obtain ⟨h1,h2⟩:=List.pairwise_cons.1 hs
   have hne:i≠x:=fun e=>hi (by simp [e])
   by_cases hx:x < i
   · rw [rk_lt L hx,ins_cons,if_neg (by omega),← ins_rk i h2 (fun h=>hi (by simp [h]))]
     simp
   · rw [rk_ge hx hs,ins_cons,if_pos (by omega)]
     rfl
def un (L M:List Int):List Int:=(rOr 2147483648 L M).1
theorem sAdd_some {L:List Int} (h:Sp L) (i:Int) (hl:L.length + 1≤1000000):fn_sparse_Set_Add_p0i_r i L=some (rAddOk 2147483648 L i,rAdd 2147483648 L i)∧Sp (rAdd 2147483648 L i):=by
 refine ⟨?_,rAdd_rs h.rs i,fun x hx=>?_,Nat.le_trans (rAdd_len _ _ _) hl⟩
 · have hcond:(fn_sparse_mayBe i).bind (fun t380=>cond (!t380) (some (true)) ((fn_sparse_Set_Has (some L) i).bind fun t395=>some (t395)))=some (!rAddOk 2147483648 L i):=by
     rw [show fn_sparse_mayBe i=some ((decide (0≤i))&&(decide (i≤2147483647))) from rfl,h.has]
     unfold rAddOk
     by_cases h1:0≤i
     · by_cases h2:i≤2147483647
       · have h3:i < 2147483648:=by omega
         simp [h1,h2,h3]
       · have h3:¬ i < 2147483648:=by omega
         simp [h1,h2,h3]
     · simp [h1]
   unfold fn_sparse_Set_Add_p0i_r
   have hm:∀ {β:Type} (k:Bool→Option β),((fn_sparse_mayBe i).bind fun t380=>(cond (!t380) (some (true)) ((fn_sparse_Set_Has (some L) i).bind fun t395=>some (t395))).bind k)=k (!rAddOk 2147483648 L i):=fun k=>by
     have:=congrArg (fun z=>Option.bind z k) hcond
     simpa [Option.bind_assoc] using this
   rw [hm]
   cases ho:rAddOk 2147483648 L i with
   | false =>
     have:¬ ((0≤i∧i < 2147483648)∧i∉L):=of_decide_eq_false ho
     unfold rAdd
     rw [if_neg this]
     rfl
   | true =>
     have hh:(0≤i∧i < 2147483648)∧i∉L:=of_decide_eq_true ho
     have he:rAdd 2147483648 L i=ins i L:=by unfold rAdd; rw [if_pos hh]
     have hrk:=rk_le L i
     have hi:insF L ((rk L i:Nat):Int) [i]=some (ins i L):=by
       unfold insF
       rw [if_pos ⟨by omega,by omega,by simp,by simp; omega⟩,Int.toNat_natCast,ins_rk i h.rs hh.2]
     simp only [Bool.not_true,cond_false,h.rank,Option.bind_some,hi,agr_self,he]
 · rcases (rAdd_mem i x).1 hx with h1 | ⟨rfl,h2⟩
   · exact h.bd x h1
   · omega
def srtdS (l:List Int):List Int:=l.mergeSort fun x y=>decide (x≤y)
theorem srtS_eq {l:List Int} (h:l.length≤1073741824):srt l=some (srtdS l):=by unfold srt; rw [if_pos h]; rfl
def cpS (l:List Int):List Int:=Lib.compact (srtdS l)
theorem cpS_len (l:List Int):(cpS l).length≤l.length:=by
 have:=Lib.compact_length_le (srtdS l)
 unfold srtdS at this
 rw [List.length_mergeSort] at this
 exact this
def okm (i:Int):Bool:=decide (0≤i)&&decide (i≤2147483647)
def ofS (xa:List Int):List Int:=cpS (xa.filter okm)
theorem Of_some {xa:List Int} (h:xa.length≤1000000):fn_sparse_Of xa=some (ofS xa):=by
 have hlp:loop (fn_sparse_Of_l1 xa) ((0:Int),([]:List Int))=some (xa.filter okm):=by
   have:=loop_nat (body:=fn_sparse_Of_l1 xa) (fun k:Nat=>((k:Int),(xa.take k).filter okm)) xa.length (b:=xa.filter okm) ?_ ?_
   · exact this
   · intro k hk
     unfold fn_sparse_Of_l1
     have hle:=List.length_filter_le okm (xa.take k)
     have ha:app ((xa.take k).filter okm) [xa[k]]=some ((xa.take k).filter okm++[xa[k]]):=app_eq (by simp at hle ⊢; omega)
     have e:(xa.take (k + 1)).filter okm=(xa.take k).filter okm++(if okm xa[k] then [xa[k]] else []):=by
       rw [take_snoc hk,List.filter_append]
       cases hm:okm xa[k] <;> simp [hm]
     simp only [dlt hk,cond_true,getN hk,Option.bind_some,show ∀ i,fn_sparse_mayBe i=some (okm i) from fun _=>rfl,ha,e,w64s hk (by omega)]
     cases hm:okm xa[k] <;> simp
   · unfold fn_sparse_Of_l1
     simp
 unfold fn_sparse_Of
 rw [hlp]
 have hle:=List.length_filter_le okm xa
 simp only [Option.bind_some,srtS_eq (l:=xa.filter okm) (by omega)]
 rfl
theorem ofS_len (xa:List Int):(ofS xa).length≤xa.length:=Nat.le_trans (cpS_len _) (List.length_filter_le _ _)
structure Mx (n:Nat) (f:Option (List Int)) (b:Option (Int×List Int)) (L:List Int):Prop where
 hn:n≤1048576
 rs:L.Pairwise (· < ·)
 bd:∀ x∈L,0≤x∧x < n
 st:(f=some L∧b=none∧L.length≤8)∨∃ w,f=none∧b=some ((n:Int),w)∧Rp n w L
theorem Rp.bd {n:Nat} {w L:List Int} (h:Rp n w L):∀ x∈L,0≤x∧x < n:=fun x hx=>by
 have:=(h.mm x).1 hx
 have:=lt_of_mem h.ds this.2
 omega
theorem sp_of {n:Nat} {L:List Int} (hn:n≤1048576) (hr:L.Pairwise (· < ·)) (hb:∀ x∈L,0≤x∧x < n) (hl:L.length≤9):Sp L :=
 ⟨hr,fun x hx=>by have:=hb x hx; omega,by omega⟩
theorem len_le {n:Nat} {L:List Int} (hr:L.Pairwise (· < ·)) (hb:∀ x∈L,0≤x∧x < n):L.length≤n:=by
 have h2:((List.range n).map (fun k:Nat=>(k:Int))).Pairwise (· < ·):=by
   rw [List.pairwise_map]
   exact List.Pairwise.imp (fun h=>Int.ofNat_lt.2 h) (List.pairwise_lt_range (n:=n))
 have:=sub_len hr h2 (fun x hx=>by
   have:=hb x hx
   rw [List.mem_map]
   exact ⟨x.toNat,List.mem_range.2 (by omega),by omega⟩)
 simpa using this
theorem Mx.len {n:Nat} {f:Option (List Int)} {b:Option (Int×List Int)} {L:List Int} (h:Mx n f b L):L.length≤n:=len_le h.rs h.bd
theorem rAdd_in {n:Nat} {L:List Int} {i:Int} (hn:n≤1048576) (hi:0≤i∧i < n):rAdd 2147483648 L i=rAdd n L i∧rAddOk 2147483648 L i=rAddOk n L i:=by
 have h1:0≤i∧i < 2147483648:=by omega
 unfold rAdd rAddOk
 simp [h1,hi]
theorem rAdd_out {n:Nat} {L:List Int} {i:Int} (hi:¬ (0≤i∧i < n)):rAdd n L i=L∧rAddOk n L i=false:=by
 unfold rAdd rAddOk
 rw [if_neg (fun h=>hi h.1),decide_eq_false (fun h=>hi h.1)]
 exact ⟨rfl,rfl⟩
theorem rAdd_bd {n:Nat} {L:List Int} (i:Int) (hb:∀ x∈L,0≤x∧x < n):∀ x∈rAdd n L i,0≤x∧x < n:=fun x hx=>by
 rcases (rAdd_mem i x).1 hx with h | ⟨rfl,h⟩
 · exact hb x h
 · exact h
theorem Dense_some (n:Int) (f:Option (List Int)) (b:Option (Int×List Int)):fn_mixed_Set_Dense (some (n,f,b))=some b.isSome:=by
 unfold fn_mixed_Set_Dense
 cases b <;> rfl
theorem thick_some {n:Nat} {L:List Int} (hn:n≤1048576) (h:Sp L) (hb:∀ x∈L,0≤x∧x < n) (b:Option (Int×List Int)):∃ w,fn_mixed_Set_thicken_p0_iodod n (some L) b=some (some ((n:Int),w))∧Rp n w L:=by
 have hl:=h.ln
 have hp:=List.pairwise_iff_getElem.1 h.rs
 have key:=loop_inv (body:=fn_mixed_Set_thicken_p0_iodod_l2 n L) (fun s=>∃ k:Nat,k≤L.length∧s.1=L.getD k 0∧s.2.1=decide (k < L.length)∧Rp n s.2.2 (L.take k)) (fun s=>if s.2.1 then (L.filter (fun x=>decide (s.1≤x))).length else 0) (Q:=fun w=>Rp n w L) ?_ (s:=(L.getD 0 0,decide (0 < L.length),List.replicate ((n + 63) / 64) (0:Int))) ⟨0,Nat.zero_le _,rfl,rfl,Rp_new hn⟩
 · obtain ⟨w,k1,k2⟩:=key
   refine ⟨w,?_,k2⟩
   unfold fn_mixed_Set_thicken_p0_iodod
   have h1:¬ ((n:Int) < 0):=by omega
   have h2:¬ (1048576 < (n:Int)):=by omega
   rw [New_some,if_neg h1,if_neg h2,Int.toNat_natCast]
   simp only [Option.bind_some,show fn_sparse_Set_All_p0_r L=some L from rfl]
   have at0:fn_sparse_Set_At (some L) 0=some (L.getD 0 0,decide (0 < L.length)):=At_nat 0
   rw [at0]
   simp only [Option.bind_some,k1]
 · rintro ⟨i,t,w⟩ ⟨k,hk,rfl,rfl,hw⟩
   dsimp only at hw ⊢
   unfold fn_mixed_Set_thicken_p0_iodod_l2
   by_cases hkl:k < L.length
   · left
     have hg:L.getD k 0=L[k]:=by simp [hkl]
     obtain ⟨w',a1,a2⟩:=hw.add L[k]
     have hbk:=hb L[k] (List.getElem_mem hkl)
     have hlt:∀ y∈L.take k,y < L[k]:=fun y hy=>by
       obtain ⟨j,hj,rfl⟩:=List.mem_take_iff_getElem.1 hy
       exact hp j k (by omega) hkl (by omega)
     have hni:L[k]∉L.take k:=fun hm=>by have:=hlt _ hm; omega
     have e:rAdd n (L.take k) L[k]=L.take (k + 1):=by
       unfold rAdd
       rw [if_pos ⟨hbk,hni⟩,ins_last hlt,take_snoc hkl]
     rw [e] at a2
     refine ⟨(L.getD (k + 1) 0,decide (k + 1 < L.length),w'),?_,⟨k + 1,by omega,rfl,rfl,a2⟩,?_⟩
     · simp only [decide_eq_true hkl,cond_true,hg,a1,Option.bind_some,step_rank h hkl,At_nat]
     · dsimp only
       rw [decide_eq_true hkl,if_pos rfl,hg]
       by_cases hk2:k + 1 < L.length
       · have hg2:L.getD (k + 1) 0=L[k + 1]:=by simp [hk2]
         rw [decide_eq_true hk2,if_pos rfl,hg2]
         have hs:(L.filter (fun x=>decide (L[k + 1]≤x)))=(L.filter (fun x=>decide (L[k]≤x))).filter (fun x=>decide (L[k + 1]≤x)):=by
           rw [List.filter_filter]
           refine List.filter_congr fun x hx=>?_
           have:=hp k (k + 1) hkl hk2 (by omega)
           by_cases h1:L[k + 1]≤x
           · have h2:L[k]≤x:=by omega
             simp [h1,h2]
           · simp [h1]
         rw [hs,List.length_filter_lt_length_iff_exists]
         refine ⟨L[k],List.mem_filter.2 ⟨List.getElem_mem hkl,by simp⟩,?_⟩
         have:=hp k (k + 1) hkl hk2 (by omega)
         simp
         omega
       · rw [decide_eq_false hk2]
         simp only [Bool.false_eq_true,if_false]
         refine List.length_pos_of_mem (a:=L[k]) (List.mem_filter.2 ⟨List.getElem_mem hkl,by simp⟩)
   · right
     have e:k=L.length:=by omega
     subst e
     rw [List.take_length] at hw
     refine ⟨w,?_,hw⟩
     simp
theorem mAdd_some {n:Nat} {f:Option (List Int)} {b:Option (Int×List Int)} {L:List Int} (h:Mx n f b L) (i:Int):∃ f' b',fn_mixed_Set_Add_p0i_iodod i n f b=some (rAddOk n L i,f',b')∧Mx n f' b' (rAdd n L i)∧b'.isSome=(b.isSome||decide (8 < (rAdd n L i).length)):=by
 have hn:=h.hn
 have hcond:(cond (decide (i < 0)) (some (true)) ((fn_mixed_Set_Size (some ((n:Int),f,b))).bind fun i173=>some (decide (i173≤i))))=some (!decide (0≤i∧i < n)):=by
   rw [show fn_mixed_Set_Size (some ((n:Int),f,b))=some (n:Int) from rfl]
   by_cases h1:i < 0
   · have h2:¬ 0≤i:=by omega
     simp [h1,h2]
   · have h2:0≤i:=by omega
     by_cases h3:(n:Int)≤i
     · have h4:¬ i < n:=by omega
       simp [h1,h2,h3,h4]
     · have h4:i < n:=by omega
       simp [h1,h2,h3,h4]
 unfold fn_mixed_Set_Add_p0i_iodod
 rw [hcond]
 simp only [Option.bind_some]
 by_cases hi:0≤i∧i < (n:Int)
 · rw [decide_eq_true hi]
   simp only [Bool.not_true,cond_false,Dense_some,Option.bind_some]
   rcases h.st with ⟨rfl,rfl,h8⟩ | ⟨w,rfl,rfl,hw⟩
   · have hsp:=sp_of hn h.rs h.bd (by omega)
     obtain ⟨a1,a2⟩:=sAdd_some hsp i (by omega)
     obtain ⟨e1,e2⟩:=rAdd_in (L:=L) hn hi
     rw [e1,e2] at a1
     rw [e1] at a2
     have hl9:(rAdd n L i).length≤9:=by have:=rAdd_len n L i; omega
     simp only [Option.isSome_none,cond_false,Option.bind_some,a1,show ∀ M:List Int,fn_sparse_Set_Len (some M)=some ((M.length:Nat):Int) from fun _=>rfl,Bool.false_or]
     by_cases h9:8 < (rAdd n L i).length
     · have h9':(8:Int) < (((rAdd n L i).length:Nat):Int):=by omega
       obtain ⟨w,t1,t2⟩:=thick_some hn a2 (rAdd_bd i h.bd) none
       rw [decide_eq_true h9',decide_eq_true h9]
       simp only [cond_true,t1,Option.bind_some]
       exact ⟨_,_,rfl,⟨hn,a2.rs,rAdd_bd i h.bd,.inr ⟨w,rfl,rfl,t2⟩⟩,rfl⟩
     · have h9':¬ (8:Int) < (((rAdd n L i).length:Nat):Int):=by omega
       rw [decide_eq_false h9',decide_eq_false h9]
       simp only [cond_false]
       exact ⟨_,_,rfl,⟨hn,a2.rs,rAdd_bd i h.bd,.inl ⟨rfl,rfl,by omega⟩⟩,rfl⟩
   · obtain ⟨w',a1,a2⟩:=hw.add i
     simp only [Option.isSome_some,cond_true,Option.bind_some,a1,Bool.true_or]
     exact ⟨_,_,rfl,⟨hn,a2.rs,a2.bd,.inr ⟨w',rfl,rfl,a2⟩⟩,rfl⟩
 · rw [decide_eq_false hi]
   obtain ⟨e1,e2⟩:=rAdd_out (L:=L) hi
   rw [e1,e2]
   refine ⟨f,b,rfl,h,?_⟩
   rcases h.st with ⟨rfl,rfl,h8⟩ | ⟨w,rfl,rfl,hw⟩
   · rw [decide_eq_false (by omega:¬ 8 < L.length)]; rfl
   · rfl
theorem Mx.has {n:Nat} {f:Option (List Int)} {b:Option (Int×List Int)} {L:List Int} (h:Mx n f b L) (i:Int):fn_mixed_Set_Has (some ((n:Int),f,b)) i=some (decide (i∈L)):=by
 have hn:=h.hn
 unfold fn_mixed_Set_Has
 rw [Dense_some]
 rcases h.st with ⟨rfl,rfl,h8⟩ | ⟨w,rfl,rfl,hw⟩
 · have hsp:=sp_of hn h.rs h.bd (by omega)
   simp only [Option.isSome_none,Option.bind_some,cond_false,Option.isNone_some,Bool.not_false,cond_true,hsp.has]
 · simp only [Option.isSome_some,Option.bind_some,cond_true,hw.has]
   rfl
theorem Mx.size {n:Nat} {f:Option (List Int)} {b:Option (Int×List Int)} {L:List Int} (h:Mx n f b L):fn_mixed_Set_Len (some ((n:Int),f,b))=some ((L.length:Nat):Int):=by
 unfold fn_mixed_Set_Len
 rw [Dense_some]
 rcases h.st with ⟨rfl,rfl,h8⟩ | ⟨w,rfl,rfl,hw⟩
 · rfl
 · simp only [Option.isSome_some,Option.bind_some,cond_true,hw.count]
theorem mFill_some {n:Nat} {f:Option (List Int)} {b:Option (Int×List Int)} {L:List Int} (h:Mx n f b L) (lo hi:Int):∃ f' b' L',fn_mixed_Set_Fill_p0ii_iodod lo hi n f b=some (f',b')∧Mx n f' b' L'∧b'.isSome=(b.isSome||decide (8 < L'.length))∧∀ x,x∈L'↔x∈L∨(lo≤x∧x < hi∧0≤x∧x < n):=by
 have hn:=h.hn
 have key:=loop_inv (body:=fn_mixed_Set_Fill_p0ii_iodod_l1 hi n) (fun s=>∃ L':List Int,0≤s.1∧lo≤s.1∧Mx n s.2.1 s.2.2 L'∧s.2.2.isSome=(b.isSome||decide (8 < L'.length))∧∀ x,x∈L'↔x∈L∨(lo≤x∧x < s.1∧x < hi∧0≤x∧x < n)) (fun s=>n - s.1.toNat)
   (Q:=fun r=>∃ L':List Int,Mx n r.1 r.2 L'∧r.2.isSome=(b.isSome||decide (8 < L'.length))∧∀ x,x∈L'↔x∈L∨(lo≤x∧x < hi∧0≤x∧x < n)) ?_ (s:=(if lo < 0 then 0 else lo,f,b)) ⟨L,?_,?_,h,?_,fun x=>?_⟩
 · obtain ⟨⟨f',b'⟩,k1,L',k2,k3,k4⟩:=key
   refine ⟨f',b',L',?_,k2,k3,k4⟩
   unfold fn_mixed_Set_Fill_p0ii_iodod
   rw [k1]
   rfl
 · rintro ⟨i,f1,b1⟩ ⟨L',h0,hlo,hm,hd,hx⟩
   dsimp only at h0 hlo hm hd hx ⊢
   unfold fn_mixed_Set_Fill_p0ii_iodod_l1
   simp only [show fn_mixed_Set_Size (some ((n:Int),f1,b1))=some (n:Int) from rfl,Option.bind_some]
   by_cases hc:i < (if (n:Int) < hi then (n:Int) else hi)
   · left
     have hin:i < n∧i < hi:=by split at hc <;> omega
     obtain ⟨f2,b2,a1,a2,a3⟩:=mAdd_some hm i
     refine ⟨(i + 1,f2,b2),?_,⟨rAdd n L' i,by dsimp only; omega,by dsimp only; omega,a2,?_,fun x=>?_⟩,?_⟩
     · rw [decide_eq_true hc]
       simp only [cond_true,a1,Option.bind_some,w64 (x:=i + 1) (by omega) (by omega)]
     · dsimp only
       rw [a3,hd]
       have hle:L'.length≤(rAdd n L' i).length:=sub_len hm.rs a2.rs (fun x hx=>(rAdd_mem _ _).2 (.inl hx))
       by_cases h1:8 < L'.length
       · have h2:8 < (rAdd n L' i).length:=by omega
         simp [h1,h2]
       · simp [h1]
     · dsimp only
       rw [rAdd_mem,hx]
       constructor
       · rintro ((h1 | h1) | ⟨rfl,h1⟩)
         · exact .inl h1
         · exact .inr ⟨h1.1,by omega,h1.2.2⟩
         · exact .inr ⟨hlo,by omega,hin.2,h1⟩
       · rintro (h1 | h1)
         · exact .inl (.inl h1)
         · by_cases h2:x < i
           · exact .inl (.inr ⟨h1.1,h2,h1.2.2⟩)
           · exact .inr ⟨by omega,by omega,by omega⟩
     · show n - (i + 1).toNat < n - i.toNat
       omega
   · right
     refine ⟨(f1,b1),by rw [decide_eq_false hc]; rfl,L',hm,hd,fun x=>?_⟩
     rw [hx]
     constructor
     · rintro (h1 | h1)
       · exact .inl h1
       · exact .inr ⟨h1.1,h1.2.2⟩
     · rintro (h1 | h1)
       · exact .inl h1
       · exact .inr ⟨h1.1,by split at hc <;> omega,h1.2⟩
 · dsimp only; split <;> omega
 · dsimp only; split <;> omega
 · rcases h.st with ⟨rfl,rfl,h8⟩ | ⟨w,rfl,rfl,hw⟩
   · rw [decide_eq_false (by omega:¬ 8 < L.length)]; rfl
   · rfl
 · dsimp only
   constructor
   · exact .inl
   · rintro (h1 | h1)
     · exact h1
     · exfalso
       have:=h1.2.1
       split at this <;> omega
theorem ofS_nil:ofS []=[]:=by
 have:=ofS_len []
 exact List.length_eq_zero_iff.1 (by simpa using this)
theorem Of_nil:fn_sparse_Of []=some []:=by rw [Of_some (by decide),ofS_nil]
theorem Mx_new {n:Nat} (h:n≤1048576):Mx n (some []) none []:=⟨h,List.Pairwise.nil,by simp,.inl ⟨rfl,rfl,by decide⟩⟩
theorem mNew_some (n:Int):fn_mixed_New n=if n < 0 then some (.inl 2) else if 1048576 < n then some (.inl 5) else some (.inr (0,n,some [])):=by
 unfold fn_mixed_New
 rw [Of_nil]
 by_cases h1:n < 0
 · simp [h1]
 · by_cases h2:1048576 < n
   · simp [h1,h2]
   · simp [h1,h2]
theorem andn_word (x y:Nat) (hx:x < 18446744073709551616) (hy:y < 18446744073709551616):IntKind.wrap .u64 ((BitVec.ofInt (IntKind.bits .u64) (x:Int) &&& ~~~BitVec.ofInt (IntKind.bits .u64) (y:Int)).toNat:Int)=0↔∀ i,x.testBit i=true→y.testBit i=true:=by
 have e:IntKind.wrap .u64 ((BitVec.ofInt (IntKind.bits .u64) (x:Int) &&& ~~~BitVec.ofInt (IntKind.bits .u64) (y:Int)).toNat:Int)=(((BitVec.ofNat 64 x &&& ~~~BitVec.ofNat 64 y).toNat:Nat):Int):=by
   show IntKind.wrap .u64 ((BitVec.ofInt 64 (x:Int) &&& ~~~BitVec.ofInt 64 (y:Int)).toNat:Int)=_
   rw [ofInt_nat,ofInt_nat]
   exact wrapU _ (BitVec.isLt _)
 have hb:∀ i,(BitVec.ofNat 64 x &&& ~~~BitVec.ofNat 64 y).toNat.testBit i=(x.testBit i&&!y.testBit i):=fun i=>by
   rw [BitVec.testBit_toNat,BitVec.getLsbD_and,BitVec.getLsbD_not,BitVec.getLsbD_ofNat,BitVec.getLsbD_ofNat]
   by_cases hj:i < 64
   · simp [hj]
   · have:x.testBit i=false:=Nat.testBit_lt_two_pow (Nat.lt_of_lt_of_le hx (show 2 ^ 64≤2 ^ i from Nat.pow_le_pow_right (by decide) (by omega)))
     simp [hj,this]
 rw [e]
 constructor
 · intro h i hi
   have h0:(BitVec.ofNat 64 x &&& ~~~BitVec.ofNat 64 y).toNat=0:=by omega
   have:=hb i
   rw [h0,Nat.zero_testBit,hi] at this
   cases hy:y.testBit i with
   | true=>rfl
   | false=>rw [hy] at this; cases this
 · intro h
   have h0:(BitVec.ofNat 64 x &&& ~~~BitVec.ofNat 64 y).toNat=0:=Nat.eq_of_testBit_eq fun i=>by
     rw [hb,Nat.zero_testBit]
     cases hx:x.testBit i with
     | false=>rfl
     | true=>rw [h i hx]; rfl
   rw [h0]
   rfl
theorem Or_same {n:Nat} {l l':List Int} (h:Ds n l) (h':Ds n l'):∃ c q,fn_dense_Set_Or_p0p1_ir_ir n l n l'=some (c,q,l')∧Ds n q∧(∀ j,mem q j=(mem l j||mem l' j))∧(c=true↔∃ j,mem l' j=true∧mem l j=false):=by
 have hn:=h.hn
 have hl:=h.len
 have hl':=h'.len
 have wordOf:∀ {n:Nat} {l:List Int},(∀ w∈l,Wd w)→∀ (k:Nat) (hk:k < l.length),∃ x:Nat,l[k]=(x:Int)∧x < 18446744073709551616:=fun hw k hk=>by
   have:=hw _ (List.getElem_mem hk)
   unfold Wd at this
   exact ⟨_,(Int.toNat_of_nonneg this.1).symm,by omega⟩
 have key:=loop_inv (body:=fn_dense_Set_Or_p0p1_ir_ir_l1 l') (fun s=>∃ k:Nat,k≤l'.length∧s.2.1=(k:Int)∧s.2.2.length=l.length∧(∀ w∈s.2.2,Wd w)∧(∀ j,mem s.2.2 j=if j / 64 < k then mem l j||mem l' j else mem l j)∧(s.1=true↔∃ j,j / 64 < k∧mem l' j=true∧mem l j=false)) (fun s=>l'.length - s.2.1.toNat)
   (Q:=fun r=>r.2.length=l.length∧(∀ w∈r.2,Wd w)∧(∀ j,mem r.2 j=(mem l j||mem l' j))∧(r.1=true↔∃ j,mem l' j=true∧mem l j=false)) ?_ (s:=(false,(0:Int),l)) ⟨0,Nat.zero_le _,rfl,rfl,h.wd,fun j=>by simp,by simp⟩
 · obtain ⟨⟨c,q⟩,hlp,q1,q2,q3,q4⟩:=key
   refine ⟨c,q,?_,⟨hn,by rw [q1]; exact hl,q2,fun j hj=>?_⟩,q3,q4⟩
   · unfold fn_dense_Set_Or_p0p1_ir_ir
     rw [hlp]
     simp
   · rw [q3,h.top j hj,h'.top j hj]; rfl
 · rintro ⟨c,i,q⟩ ⟨k,hk,rfl,g1,g2,g3,g4⟩
   dsimp only at g1 g2 g3 g4 ⊢
   unfold fn_dense_Set_Or_p0p1_ir_ir_l1
   by_cases hkl:k < l'.length
   · left
     have hkq:k < q.length:=by omega
     obtain ⟨x,hx,hx2⟩:=wordOf (n:=n) h'.wd k hkl
     obtain ⟨y,hy,hy2⟩:=wordOf (n:=n) g2 k hkq
     have hxs:l'[k]? = some (x:Int):=by rw [List.getElem?_eq_getElem hkl,hx]
     have hys:q[k]? = some (y:Int):=by rw [List.getElem?_eq_getElem hkq,hy]
     have hmy:∀ j,j / 64=k→mem l j=y.testBit (j % 64):=fun j hj=>by
       have:=g3 j
       rw [if_neg (by omega),mem_of (by rw [hj]; exact hys)] at this
       exact this.symm
     have hmx:∀ j,j / 64=k→mem l' j=x.testBit (j % 64):=fun j hj=>mem_of (by rw [hj]; exact hxs)
     have ha:=andn_word x y hx2 hy2
     simp only [dlt hkl,cond_true,getN hkl,getN hkq,hx,hy,Option.bind_some,w64s hkl (by omega),Int.toNat_natCast]
     by_cases hz:IntKind.wrap .u64 ((BitVec.ofInt (IntKind.bits .u64) (x:Int) &&& ~~~BitVec.ofInt (IntKind.bits .u64) (y:Int)).toNat:Int)=0
     · have hsub:=ha.1 hz
       have hsub2:∀ j,j / 64=k→mem l' j=true→mem l j=true:=fun j hj hm=>by
         rw [hmx j hj] at hm
         rw [hmy j hj]
         exact hsub _ hm
       refine ⟨(c,((k + 1:Nat):Int),q),by rw [decide_eq_true hz]; rfl,⟨k + 1,by omega,rfl,g1,g2,fun j=>?_,?_⟩,?_⟩
       · rw [g3]
         by_cases h1:j / 64 < k
         · rw [if_pos h1,if_pos (by omega)]
         · rw [if_neg h1]
           by_cases h2:j / 64=k
           · rw [if_pos (by omega)]
             cases hm:mem l' j with
             | false=>simp
             | true=>rw [hsub2 j h2 hm]; rfl
           · rw [if_neg (by omega)]
       · rw [g4]
         constructor
         · rintro ⟨j,h1,h2⟩; exact ⟨j,by omega,h2⟩
         · rintro ⟨j,h1,h2,h3⟩
           by_cases h4:j / 64=k
           · rw [hsub2 j h4 h2] at h3; cases h3
           · exact ⟨j,by omega,h2,h3⟩
       · show l'.length - ((k + 1:Nat):Int).toNat < l'.length - ((k:Nat):Int).toNat
         rw [Int.toNat_natCast,Int.toNat_natCast]; omega
     · have hw:IntKind.wrap .u64 ((BitVec.ofInt (IntKind.bits .u64) (y:Int) ||| BitVec.ofInt (IntKind.bits .u64) (x:Int)).toNat:Int)=((y ||| x:Nat):Int):=orU y x hy2 hx2
       have hex:∃ i,x.testBit i=true∧y.testBit i=false:=by
         refine Classical.byContradiction fun hc=>hz (ha.2 fun i hi=>?_)
         cases hyi:y.testBit i with
         | true=>rfl
         | false=>exact absurd ⟨i,hi,hyi⟩ hc
       obtain ⟨i,hi1,hi2⟩:=hex
       have hi64:i < 64:=by
         rcases Nat.lt_or_ge i 64 with h1 | h1
         · exact h1
         · rw [Nat.testBit_lt_two_pow (Nat.lt_of_lt_of_le hx2 (show 2 ^ 64≤2 ^ i from Nat.pow_le_pow_right (by decide) h1))] at hi1
           cases hi1
       refine ⟨(true,((k + 1:Nat):Int),q.set k ((y ||| x:Nat):Int)),by rw [decide_eq_false hz,hw]; rfl,⟨k + 1,by omega,rfl,by rw [List.length_set]; exact g1,fun w hw=>?_,fun j=>?_,?_⟩,?_⟩
       · rcases List.mem_or_eq_of_mem_set hw with hw | rfl
         · exact g2 w hw
         · have:=Nat.or_lt_two_pow (n:=64) hy2 hx2
           unfold Wd
           omega
       · dsimp only
         rw [memW_set hys]
         by_cases h2:j / 64=k
         · rw [if_pos h2,if_pos (by omega),Nat.testBit_or,hmy j h2,hmx j h2]
         · rw [if_neg h2,g3]
           by_cases h1:j / 64 < k
           · rw [if_pos h1,if_pos (by omega)]
           · rw [if_neg h1,if_neg (by omega)]
       · refine ⟨fun _=>⟨64 * k + i,by omega,?_,?_⟩,fun _=>rfl⟩
         · rw [hmx _ (by omega),show (64 * k + i) % 64=i by omega]; exact hi1
         · rw [hmy _ (by omega),show (64 * k + i) % 64=i by omega]; exact hi2
       · show l'.length - ((k + 1:Nat):Int).toNat < l'.length - ((k:Nat):Int).toNat
         rw [Int.toNat_natCast,Int.toNat_natCast]; omega
   · right
     have e:k=l'.length:=by omega
     subst e
     have hlt:∀ j,mem l' j=true→j / 64 < l'.length:=fun j hj=>by
       have:=lt_of_mem h' hj
       omega
     refine ⟨(c,q),by simp,g1,g2,fun j=>?_,?_⟩
     · rw [g3]
       by_cases h1:j / 64 < l'.length
       · rw [if_pos h1]
       · rw [if_neg h1]
         cases hm:mem l' j with
         | false=>simp
         | true=>exact absurd (hlt j hm) h1
     · rw [g4]
       constructor
       · rintro ⟨j,_,h2⟩; exact ⟨j,h2⟩
       · rintro ⟨j,h2⟩; exact ⟨j,hlt j h2.1,h2⟩
theorem Or_unlike {n m:Nat} (h:n≠m) (l l':List Int):fn_dense_Set_Or_p0p1_ir_ir n l m l'=some (false,l,l'):=by
 unfold fn_dense_Set_Or_p0p1_ir_ir
 have:¬ ((n:Int)=(m:Int)):=by omega
 simp [this]
theorem Rp.or {n m:Nat} {l l' L L':List Int} (h:Rp n l L) (h':Rp m l' L'):∃ q,fn_dense_Set_Or_p0p1_ir_ir n l m l'=some (decide ((n:Int)=(m:Int))&&(rOr n L L').2,q,l')∧Rp n q (if (n:Int)=(m:Int) then (rOr n L L').1 else L):=by
 by_cases e:n=m
 · subst e
   obtain ⟨c,q,h1,h2,h3,h4⟩:=Or_same h.ds h'.ds
   refine ⟨q,?_,?_⟩
   · rw [h1]
     have:c=(rOr n L L').2:=by
       rw [Bool.eq_iff_iff,h4,rOr_ok]
       constructor
       · rintro ⟨j,h5,h6⟩
         have:=lt_of_mem h'.ds h5
         refine ⟨(j:Int),(h'.mm _).2 ⟨Int.natCast_nonneg _,by simpa using h5⟩,⟨Int.natCast_nonneg _,by omega⟩,fun h7=>?_⟩
         have:=((h.mm _).1 h7).2
         rw [Int.toNat_natCast,h6] at this
         cases this
       · rintro ⟨x,h5,h6,h7⟩
         refine ⟨x.toNat,((h'.mm _).1 h5).2,?_⟩
         cases h8:mem l x.toNat with
         | false=>rfl
         | true=>exact absurd ((h.mm x).2 ⟨h6.1,h8⟩) h7
     rw [this]
     simp
   · rw [if_pos rfl]
     refine ⟨h2,rOr_rs _ _ _ h.rs,fun x=>?_⟩
     rw [rOr_mem,h3,Bool.or_eq_true,h.mm,h'.mm]
     constructor
     · rintro (h5 | ⟨h5,h6⟩)
       · exact ⟨h5.1,.inl h5.2⟩
       · exact ⟨h5.1,.inr h5.2⟩
     · rintro ⟨h5,h6 | h6⟩
       · exact .inl ⟨h5,h6⟩
       · have:=lt_of_mem h'.ds h6
         exact .inr ⟨⟨h5,h6⟩,h5,by omega⟩
 · have e2:¬ ((n:Int)=(m:Int)):=by omega
   rw [Or_unlike e,if_neg e2,decide_eq_false e2]
   exact ⟨l,rfl,h⟩
theorem Mx.flag {n:Nat} {f:Option (List Int)} {b:Option (Int×List Int)} {L:List Int} (h:Mx n f b L):(b.isSome||decide (8 < L.length))=b.isSome:=by
 rcases h.st with ⟨rfl,rfl,h8⟩ | ⟨w,rfl,rfl,hw⟩
 · rw [decide_eq_false (by omega:¬ 8 < L.length)]; rfl
 · rfl
theorem mOr_same {n:Nat} {f f2:Option (List Int)} {b b2:Option (Int×List Int)} {L M:List Int} (h:Mx n f b L) (h2:Mx n f2 b2 M):∃ f' b',fn_mixed_Set_Or_p0p1_iodod_iodod n f b n f2 b2=some ((rOr n L M).2,f',b',f2,b2)∧Mx n f' b' (rOr n L M).1∧b'.isSome=((b.isSome||b2.isSome)||decide (8 < (rOr n L M).1.length)):=by
 have hn:=h.hn
 unfold fn_mixed_Set_Or_p0p1_iodod_iodod
 simp only [decide_true,Bool.not_true,cond_false,Dense_some,Option.bind_some]
 rcases h2.st with ⟨rfl,rfl,h8⟩ | ⟨w2,rfl,rfl,hw2⟩
 · -- a few
   have hsp:=sp_of hn h2.rs h2.bd (by omega)
   have at0:fn_sparse_Set_At (some M) 0=some (M.getD 0 0,decide (0 < M.length)):=At_nat 0
   have key:∃ f' b',loop (fn_mixed_Set_Or_p0p1_iodod_iodod_l1 n M) (M.getD 0 0,decide (0 < M.length),f,b,false)=some (f',b',(rOr n L M).2)∧Mx n f' b' (rOr n L M).1∧b'.isSome=(b.isSome||decide (8 < (rOr n L M).1.length)):=by
     have hind:∀ d k,k + d=M.length→∀ fk bk,Mx n fk bk (rOr n L (M.take k)).1→bk.isSome=(b.isSome||decide (8 < (rOr n L (M.take k)).1.length)) →
         ∃ f' b',loop (fn_mixed_Set_Or_p0p1_iodod_iodod_l1 n M) (M.getD k 0,decide (k < M.length),fk,bk,(rOr n L (M.take k)).2)=some (f',b',(rOr n L M).2)∧Mx n f' b' (rOr n L M).1∧b'.isSome=(b.isSome||decide (8 < (rOr n L M).1.length)):=by
       intro d
       induction d with
       | zero =>
         intro k hk fk bk m1 m2
         have e:k=M.length:=by omega
         subst e
         rw [List.take_length] at m1 m2 ⊢
         refine ⟨fk,bk,loop_end ?_,m1,m2⟩
         unfold fn_mixed_Set_Or_p0p1_iodod_iodod_l1
         simp
       | succ d ih =>
         intro k hk fk bk m1 m2
         have hkl:k < M.length:=by omega
         have hg:M.getD k 0=M[k]:=by simp [hkl]
         obtain ⟨f3,b3,a1,a2,a3⟩:=mAdd_some m1 M[k]
         have e1:(rOr n L (M.take (k + 1))).1=rAdd n (rOr n L (M.take k)).1 M[k]:=by rw [take_snoc hkl,rOr_snoc]
         have e2:(rOr n L (M.take (k + 1))).2=((rOr n L (M.take k)).2||rAddOk n (rOr n L (M.take k)).1 M[k]):=by rw [take_snoc hkl,rOr_snoc]
         have hle:(rOr n L (M.take k)).1.length≤(rAdd n (rOr n L (M.take k)).1 M[k]).length:=sub_len m1.rs a2.rs (fun x hx=>(rAdd_mem _ _).2 (.inl hx))
         obtain ⟨f',b',c1,c2,c3⟩:=ih (k + 1) (by omega) f3 b3 (by rw [e1]; exact a2) (by
           rw [e1,a3,m2]
           by_cases h1:8 < (rOr n L (M.take k)).1.length
           · have h2:8 < (rAdd n (rOr n L (M.take k)).1 M[k]).length:=by omega
             simp [h1,h2]
           · simp [h1])
         refine ⟨f',b',?_,c2,c3⟩
         rw [← c1]
         refine loop_next ?_
         unfold fn_mixed_Set_Or_p0p1_iodod_iodod_l1
         simp only [decide_eq_true hkl,cond_true,hg,a1,Option.bind_some,step_rank hsp hkl,At_nat,e2]
         cases rAddOk n (rOr n L (M.take k)).1 M[k] <;> simp
     exact hind M.length 0 (by omega) f b h h.flag.symm
   obtain ⟨f',b',k1,k2,k3⟩:=key
   refine ⟨f',b',?_,k2,by rw [k3]; simp⟩
   simp only [Option.isSome_none,cond_false,show fn_sparse_Set_All_p0_r M=some M from rfl,Option.bind_some,at0,k1]
 · -- bits
   have fin:∀ (w:List Int),Rp n w L→∃ q,fn_dense_Set_Or_p0p1_ir_ir n w n w2=some ((rOr n L M).2,q,w2)∧Rp n q (rOr n L M).1:=fun w hw=>by
     obtain ⟨q,o1,o2⟩:=hw.or hw2
     rw [if_pos rfl] at o2
     exact ⟨q,by rw [o1]; simp,o2⟩
   rcases h.st with ⟨rfl,rfl,h8⟩ | ⟨w,rfl,rfl,hw⟩
   · have hsp:=sp_of hn h.rs h.bd (by omega)
     obtain ⟨w,t1,t2⟩:=thick_some hn hsp h.bd none
     obtain ⟨q,o1,o2⟩:=fin w t2
     refine ⟨none,some ((n:Int),q),?_,⟨hn,o2.rs,o2.bd,.inr ⟨q,rfl,rfl,o2⟩⟩,rfl⟩
     simp only [Option.isSome_none,Option.isSome_some,cond_true,Bool.not_false,t1,Option.bind_some,o1]
   · obtain ⟨q,o1,o2⟩:=fin w hw
     refine ⟨none,some ((n:Int),q),?_,⟨hn,o2.rs,o2.bd,.inr ⟨q,rfl,rfl,o2⟩⟩,rfl⟩
     simp only [Option.isSome_some,cond_true,Bool.not_true,cond_false,Option.bind_some,o1]
set_option maxRecDepth 20000
section
abbrev Mv:=Option (Int×Option (List Int)×Option (Int×List Int))
theorem wf_of {b:Bo} (hN:0 < NB b):(vck b).1=0:=by
 by_cases q:(vck b).1=0
 · exact q
 · exfalso
   have:xs b=[]:=by unfold xs; rw [if_neg q]
   have e:NB b=0:=by show bg (xs b) (xs b).length=0; rw [this]; rfl
   omega
theorem wf_head {b:Bo} (h:(vck b).1=0):1≤b.1∧b.1≤b.2.1∧b.2.1≤65536:=by
 unfold vck at h
 have hh:=(vor0z h).1
 unfold vHead at hh
 by_cases c:b.1 < 1∨b.2.1 < b.1
 · rw [if_pos c] at hh; simp at hh
 · rw [if_neg c] at hh
   by_cases d:65536 < b.2.1
   · rw [if_pos d] at hh; simp at hh
   · omega
theorem wf_loc {b:Bo} (h:(vck b).1=0):∀ t∈b.2.2.2.1,∀ s∈t,0≤s.1∧s.1 < b.2.1:=by
 unfold vck at h
 have hl:=(vor0z (vor0z (vor0z h).2).2).1
 unfold vLoc at hl
 by_cases c:b.2.2.2.1=[]
 · intro t ht; rw [c] at ht; cases ht
 · rw [if_neg c] at hl
   have key:∀ t:List St,rck b.2.1 t=0→∀ s∈t,0≤s.1∧s.1 < b.2.1:=fun t ht s hs=>by
     unfold rck at ht
     by_cases c1:16 < t.length
     · rw [if_pos c1] at ht; cases ht
     · rw [if_neg c1] at ht
       by_cases c2:rin b.2.1 t=true
       · rw [if_pos c2] at ht; cases ht
       · unfold rin at c2
         rw [Bool.not_eq_true,List.any_eq_false] at c2
         have:=c2 s hs
         simp at this
         omega
   cases hq:b.2.2.2.1.findIdx? (fun t=>!decide (rck b.2.1 t=0)) with
   | none =>
     intro t ht
     have:=List.findIdx?_eq_none_iff.1 hq t ht
     simp at this
     exact key t this
   | some k =>
     exfalso
     rw [hq] at hl
     obtain ⟨hk,hcc,_⟩:=List.findIdx?_eq_some_iff_getElem.1 hq
     have e:b.2.2.2.1.getD k []=b.2.2.2.1[k]:=by simp [List.getD,hk]
     simp only [e] at hl
     simp [hl] at hcc
def rgs (xa:List St):List Int:=Lib.compact ((xa.map (·.1)).mergeSort fun x y=>decide (x≤y))
theorem rgs_sorted (xa:List St):(rgs xa).Pairwise (· < ·)∧∀ a,a∈rgs xa↔a∈xa.map (·.1):=by
 have hs:((xa.map (·.1)).mergeSort fun x y=>decide (x≤y)).Pairwise (·≤·):=by
   have:=List.pairwise_mergeSort (le:=fun x y:Int=>decide (x≤y)) (fun a b c h1 h2=>by simp at *; omega) (fun a b=>by simp; omega) (xa.map (·.1))
   exact this.imp (by simp)
 have h:=compact_sorted hs
 exact ⟨h.1,fun a=>(h.2 a).trans List.mem_mergeSort⟩
theorem rgs_len (xa:List St):(rgs xa).length≤xa.length:=by
 have:=Lib.compact_length_le ((xa.map (·.1)).mergeSort fun x y=>decide (x≤y))
 simpa [rgs] using this
theorem rowRegions_eq (xa:List St) (hn:xa.length≤1000000):fn_row_Regions xa=some (rgs xa):=by
 have hl:=loop_nat (body:=fn_row_Regions_l1 xa) (fun k:Nat=>((xa.take k).map (·.1),(k:Int))) xa.length (b:=xa.map (·.1)) (fun k hk=>by
     unfold fn_row_Regions_l1
     dsimp only
     rw [dlt hk,cond_true,getN hk,Option.bind_some,app_eq (by simp; omega),Option.bind_some,w64s hk (by omega),take_snoc hk,List.map_append]; rfl) (by
     unfold fn_row_Regions_l1
     dsimp only
     rw [dge (Nat.lt_irrefl _),cond_false,List.take_length])
 unfold fn_row_Regions
 rw [show loop (fn_row_Regions_l1 xa) ([],0)=_ from hl,Option.bind_some]
 unfold srt
 rw [if_pos (by simp; omega)]; rfl
def hasR (t:List St) (r:Nat):Prop:=∃ s∈t,s.1=(r:Int)
def sdM (b:Bo) (u m r:Nat) (x:Int):Prop:=(r < u∧(0≤x∧x < ((NB b:Nat):Int)∨x=((NB b:Nat):Int) + (r:Int)))∨∃ k,k < m∧∃ t,b.2.2.2.1[k]? = some t∧hasR t r∧0≤x∧lvB b k x.toNat=true
def SdOk (b:Bo) (u m r:Nat) (s:Mv):Prop:=∃ f w L,s=some (((NB b + u:Nat):Int),f,w)∧Mx (NB b + u) f w L∧∀ x,x∈L↔sdM b u m r x
theorem empty_eq {n:Nat} (h:n≤1048576):fn_seed_empty (n:Int)=some (.inr ((n:Int),some [])):=by
 unfold fn_seed_empty
 rw [mNew_some,if_neg (by omega),if_neg (by omega)]; rfl
theorem Mx_emp {n:Nat} (h:n≤1048576):Mx n (some []) none []:=Mx_new h
section
variable {b:Bo} {u R:Nat}
theorem first_eq {N S r:Nat} {fe:Option (List Int)} {we:Option (Int×List Int)} {Le:List Int} (hS:S≤1048576) (he:Mx S fe we Le) (hLe:∀ x,x∈Le↔0≤x∧x < (N:Int)) (hr:N + r < S) :
   ∃ f1 w1 f2 w2 t1 t2,fn_mixed_Set_Or_p0p1_iodod_iodod (S:Int) (some []) none (S:Int) fe we=some (t1,f1,w1,fe,we)∧fn_mixed_Set_Add_p0i_iodod ((N + r:Nat):Int) (S:Int) f1 w1=some (t2,f2,w2)∧∃ L,Mx S f2 w2 L∧∀ x,x∈L↔(0≤x∧x < (N:Int))∨x=(N:Int) + (r:Int):=by
 obtain ⟨f1,w1,g1,g2,_⟩:=mOr_same (Mx_emp hS) he
 obtain ⟨f2,w2,g3,g4,_⟩:=mAdd_some g2 ((N + r:Nat):Int)
 refine ⟨f1,w1,f2,w2,_,_,g1,g3,_,g4,fun x=>?_⟩
 rw [rAdd_mem,rOr_mem,hLe]
 constructor
 · rintro ((h | h) | h)
   · cases h
   · exact .inl h.1
   · exact .inr (by omega)
 · rintro (h | h)
   · exact .inl (.inr ⟨h,by omega⟩)
   · exact .inr (by omega)
theorem seed1 (hU:b.1=(u:Int)) (hR:b.2.1=(R:Int)) (huR:u≤R) (hR2:R≤65536) (hN:NB b≤32) {fe:Option (List Int)} {we:Option (Int×List Int)} {Le:List Int} (he:Mx (NB b + u) fe we Le) (hLe:∀ x,x∈Le↔0≤x∧x < ((NB b:Nat):Int)) :
   ∃ V,loop (fn_seed_Of_az_l7 b ((NB b:Nat):Int) (((NB b + u:Nat):Nat):Int) (List.replicate R none)) (0,fe,we,List.replicate R none)=some V∧V.length=R∧∀ r s,V[r]? = some s→SdOk b u 0 r s:=by
 have hS:NB b + u≤1048576:=by omega
 have hsz:IntKind.wrap .i64 (((NB b:Nat):Int) + b.1)=((NB b + u:Nat):Int):=by rw [hU,w64 (by omega) (by omega)]; omega
 obtain ⟨V,h1,h2⟩:=loop_inv (body:=fn_seed_Of_az_l7 b ((NB b:Nat):Int) (((NB b + u:Nat):Nat):Int) (List.replicate R none)) (fun s=>∃ k:Nat,k≤R∧s.1=(k:Int)∧s.2.1=fe∧s.2.2.1=we∧s.2.2.2.length=R∧∀ r x,s.2.2.2[r]? = some x→(r < k→SdOk b u 0 r x)∧(k≤r→x=none)) (fun s=>R - s.1.toNat) (Q:=fun V=>V.length=R∧∀ r s,V[r]? = some s→SdOk b u 0 r s) (fun s hs=>by
   obtain ⟨i,f,w,V⟩:=s
   obtain ⟨k,hk,rfl,rfl,rfl,hlen,hV⟩:=hs
   dsimp only at hlen hV ⊢
   by_cases hc:k < R
   · left
     have hkV:k < V.length:=by omega
     have e0:getI V (k:Int)=some V[k]:=getN hkV
     have hw1:IntKind.wrap .i64 ((k:Int) + 1)=((k + 1:Nat):Int):=w64s hc (by omega)
     have nxt:∀ x,SdOk b u 0 k x→∀ r y,(V.set k x)[r]? = some y→(r < k + 1→SdOk b u 0 r y)∧(k + 1≤r→y=none):=fun x hx r y hy=>by
       by_cases e:r=k
       · subst e
         rw [List.getElem?_set_self hkV] at hy
         obtain rfl:=Option.some.inj hy
         exact ⟨fun _=>hx,fun h=>by omega⟩
       · rw [List.getElem?_set_ne (fun h=>e h.symm)] at hy
         exact ⟨fun h=>(hV r y hy).1 (by omega),fun h=>(hV r y hy).2 (by omega)⟩
     have gs:∀ x:Mv,getI (V.set k x) (k:Int)=some x:=fun x=>by rw [getN (by simpa using hkV)]; simp
     by_cases hcu:k < u
     · obtain ⟨f1,w1,f2,w2,t1,t2,g1,g2,L,g3,g4⟩:=first_eq (r:=k) hS he hLe (by omega)
       have hwk:IntKind.wrap .i64 (((NB b:Nat):Int) + (k:Int))=((NB b + k:Nat):Int):=by rw [w64 (by omega) (by omega)]; omega
       refine ⟨(((k + 1:Nat):Int),f,w,V.set k (some (((NB b + u:Nat):Int),f2,w2))),?_,⟨k + 1,hc,rfl,rfl,rfl,by simpa using hlen,nxt _ ⟨f2,w2,L,rfl,g3,fun x=>?_⟩⟩,by dsimp only; omega⟩
       · unfold fn_seed_Of_az_l7
         dsimp only
         rw [List.length_replicate,dlt hc,cond_true,e0,Option.bind_some,hsz,empty_eq hS]
         simp only [Option.bind_some,chk_self,Int.toNat_natCast]
         rw [hU,dlt hcu,cond_true]
         simp only [gs,Option.bind_some,g1,List.set_set,hwk,g2,hw1,chk_self]
       · rw [g4]
         unfold sdM
         constructor
         · exact fun h => .inl ⟨hcu,h⟩
         · rintro (h | ⟨k',h,_⟩)
           · exact h.2
           · omega
     · refine ⟨(((k + 1:Nat):Int),f,w,V.set k (some (((NB b + u:Nat):Int),some [],none))),?_,⟨k + 1,hc,rfl,rfl,rfl,by simpa using hlen,nxt _ ⟨some [],none,[],rfl,Mx_emp hS,fun x=>?_⟩⟩,by dsimp only; omega⟩
       · unfold fn_seed_Of_az_l7
         dsimp only
         rw [List.length_replicate,dlt hc,cond_true,e0,Option.bind_some,hsz,empty_eq hS]
         simp only [Option.bind_some,chk_self,Int.toNat_natCast]
         rw [hU,dge hcu,cond_false,hw1]
       · unfold sdM
         simp only [List.not_mem_nil,false_iff]
         rintro (h | ⟨k',h,_⟩)
         · omega
         · omega
   · obtain rfl:k=R:=by omega
     refine .inr ⟨V,?_,hlen,fun r x hx=>(hV r x hx).1 ?_⟩
     · unfold fn_seed_Of_az_l7
       dsimp only
       rw [List.length_replicate,dge hc,cond_false]
     · have:=(List.getElem?_eq_some_iff.1 hx).1; omega) (s:=(0,fe,we,List.replicate R none)) ⟨0,Nat.zero_le _,rfl,rfl,rfl,by simp,fun r x hx=>⟨fun h=>by omega,fun _=>by rw [List.getElem?_replicate] at hx; split at hx <;> simp at hx; exact hx.symm⟩⟩
 exact ⟨V,h1,h2⟩
theorem spots_eq {S:Nat} (hS:S≤1048576) {A:List Nat} (hA:∀ n∈A,n < S) (hAl:A.length≤1000000):∃ f w L,loop (fn_seed_Of_az_l10 (S:Int) (li A)) (0,some [],none)=some (f,w)∧Mx S f w L∧∀ x,x∈L↔x∈li A:=by
 obtain ⟨⟨f,w⟩,h1,L,h2,h3⟩:=loop_inv (body:=fn_seed_Of_az_l10 (S:Int) (li A)) (fun s=>∃ (k:Nat) (L:List Int),k≤A.length∧s.1=(k:Int)∧Mx S s.2.1 s.2.2 L∧∀ x,x∈L↔x∈li (A.take k)) (fun s=>A.length - s.1.toNat) (Q:=fun r=>∃ L,Mx S r.1 r.2 L∧∀ x,x∈L↔x∈li A) (fun s hs=>by
   obtain ⟨i,f,w⟩:=s
   obtain ⟨k,L,hk,rfl,hm,hL⟩:=hs
   dsimp only at hm ⊢
   by_cases hc:k < A.length
   · obtain ⟨f',w',g1,g2,_⟩:=mAdd_some hm ((A[k]:Nat):Int)
     have:=hA _ (List.getElem_mem hc)
     refine .inl ⟨(((k + 1:Nat):Int),f',w'),?_,⟨k + 1,_,hc,rfl,g2,fun x=>?_⟩,by dsimp only; omega⟩
     · unfold fn_seed_Of_az_l10
       simp only [li_len,dlt hc,cond_true,getI_li hc,Option.bind_some,g1,w64s hc (by omega:A.length≤9223372036854775807)]
     · rw [rAdd_mem,hL,take_snoc hc]
       have e:li (A.take k++[A[k]])=li (A.take k)++[((A[k]:Nat):Int)]:=by unfold li; rw [List.map_append]; rfl
       rw [e,List.mem_append,List.mem_singleton]
       constructor
       · rintro (h | h)
         · exact .inl h
         · exact .inr h.1
       · rintro (h | h)
         · exact .inl h
         · exact .inr ⟨h,by omega,by omega⟩
   · obtain rfl:k=A.length:=by omega
     refine .inr ⟨(f,w),?_,L,hm,fun x=>by rw [hL,List.take_length]⟩
     unfold fn_seed_Of_az_l10
     simp only [li_len,dge hc,cond_false]) (s:=(0,some [],none)) ⟨0,[],Nat.zero_le _,rfl,Mx_emp hS,fun x=>by simp [li]⟩
 exact ⟨f,w,L,h1,h2,h3⟩
theorem spread28 {m:Nat} {t:List St} (hR2:R≤65536) (ht:b.2.2.2.1[m]? = some t) (hin:∀ s∈t,0≤s.1∧s.1 < (R:Int)) (htl:t.length≤1000) {fs:Option (List Int)} {ws:Option (Int×List Int)} {M:List Int} (hM:Mx (NB b + u) fs ws M)
   (hMx:∀ x,x∈M↔0≤x∧lvB b m x.toNat=true) {V:List Mv} (hV:V.length=R) (hVs:∀ r s,V[r]? = some s→SdOk b u m r s) :
   ∃ V',loop (fn_seed_Of_az_l11 (((NB b + u:Nat):Nat):Int) (rgs t)) (0,V,fs,ws)=some V'∧V'.length=R∧∀ r s,V'[r]? = some s→SdOk b u (m + 1) r s:=by
 obtain ⟨hrs,hrm⟩:=rgs_sorted t
 have hrl:=rgs_len t
 have step:∀ r:Nat,¬ hasR t r→∀ s,SdOk b u m r s→SdOk b u (m + 1) r s:=fun r hn s ⟨f,w,L,e,h1,h2⟩=>⟨f,w,L,e,h1,fun x=>by
   rw [h2]
   unfold sdM
   constructor
   · rintro (h | ⟨k,hk,h⟩)
     · exact .inl h
     · exact .inr ⟨k,by omega,h⟩
   · rintro (h | ⟨k,hk,t',e1,e2,h⟩)
     · exact .inl h
     · by_cases e:k=m
       · subst e; rw [ht] at e1; obtain rfl:=Option.some.inj e1; exact absurd e2 hn
       · exact .inr ⟨k,by omega,t',e1,e2,h⟩⟩
 obtain ⟨V', h1, h2⟩ := loop_inv (body := fn_seed_Of_az_l11 (((NB b + u : Nat) : Nat) : Int) (rgs t)) (fun s => ∃ j : Nat, j ≤ (rgs t).length ∧ s.1 = (j : Int) ∧ s.2.1.length = R ∧ s.2.2.1 = fs ∧ s.2.2.2 = ws ∧ ∀ (r : Nat) (x : Mv), s.2.1[r]? = some x → if (r : Int) ∈ (rgs t).take j then SdOk b u (m + 1) r x else SdOk b u m r x) (fun s => (rgs t).length - s.1.toNat) (Q := fun V' => V'.length = R ∧ ∀ r s, V'[r]? = some s → SdOk b u (m + 1) r s) (fun s hs => by
   obtain ⟨i,W,f0,w0⟩:=s
   obtain ⟨j,hj,rfl,hlen,rfl,rfl,hW⟩:=hs
   dsimp only at hlen hW ⊢
   by_cases hc:j < (rgs t).length
   · left
     have hmem:=(hrm _).1 (List.getElem_mem hc)
     obtain ⟨s0,hs0,e0⟩:=List.mem_map.1 hmem
     have hb:=hin s0 hs0
     rw [e0] at hb
     obtain ⟨r,hr⟩:=Int.eq_ofNat_of_zero_le hb.1
     have hrW:r < W.length:=by omega
     have hnot:(r:Int)∉(rgs t).take j:=fun hm=>by
       have hnd:(rgs t).Nodup:=hrs.imp (fun h=>by omega)
       have h2:((rgs t).take (j + 1)).Nodup:=hnd.sublist (List.take_sublist _ _)
       rw [take_snoc hc,List.nodup_append] at h2
       exact h2.2.2 _ hm _ (List.mem_singleton.2 hr.symm) rfl
     have hWr:=hW r W[r] (List.getElem?_eq_getElem hrW)
     rw [if_neg hnot] at hWr
     obtain ⟨f,w,L,e1,g1,g2⟩:=hWr
     obtain ⟨f',w',g3,g4,_⟩:=mOr_same g1 hM
     have gW:getI W ((r:Nat):Int)=some W[r]:=getN hrW
     refine ⟨(((j + 1:Nat):Int),W.set r (some (((NB b + u:Nat):Int),f',w')),f0,w0),?_,⟨j + 1,hc,rfl,by simpa using hlen,rfl,rfl,fun r2 x hx=>?_⟩,by dsimp only; omega⟩
     · unfold fn_seed_Of_az_l11
       dsimp only
       rw [dlt hc,cond_true,getN hc,Option.bind_some,hr]
       simp only [gW,Option.bind_some,chk_self,e1,g3,Int.toNat_natCast,w64s hc (by omega:(rgs t).length≤9223372036854775807)]
     · rw [take_snoc hc]
       by_cases e:r2=r
       · subst e
         rw [List.getElem?_set_self hrW] at hx
         obtain rfl:=Option.some.inj hx
         rw [if_pos (List.mem_append_right _ (List.mem_singleton.2 hr.symm))]
         refine ⟨f',w',_,rfl,g4,fun x=>?_⟩
         rw [rOr_mem,g2,hMx]
         unfold sdM
         constructor
         · rintro ((h | ⟨k,hk,h⟩) | h)
           · exact .inl h
           · exact .inr ⟨k,by omega,h⟩
           · exact .inr ⟨m,by omega,t,ht,⟨s0,hs0,by rw [e0,hr]⟩,h.1⟩
         · rintro (h | ⟨k,hk,t',q1,q2,h⟩)
           · exact .inl (.inl h)
           · by_cases e:k=m
             · subst e
               have:=lvB_lt h.2
               exact .inr ⟨h,by omega⟩
             · exact .inl (.inr ⟨k,by omega,t',q1,q2,h⟩)
       · rw [List.getElem?_set_ne (fun h=>e h.symm)] at hx
         have:=hW r2 x hx
         have hiff:(r2:Int)∈(rgs t).take j++[(rgs t)[j]]↔(r2:Int)∈(rgs t).take j:=by
           rw [List.mem_append,List.mem_singleton,hr]
           exact ⟨fun h=>h.elim id (fun h=>absurd (by exact_mod_cast h) e),.inl⟩
         by_cases q:(r2:Int)∈(rgs t).take j
         · rw [if_pos q] at this; rw [if_pos (hiff.2 q)]; exact this
         · rw [if_neg q] at this; rw [if_neg (fun h=>q (hiff.1 h))]; exact this
   · obtain rfl:j=(rgs t).length:=by omega
     refine .inr ⟨W,?_,hlen,fun r x hx=>?_⟩
     · unfold fn_seed_Of_az_l11
       dsimp only
       rw [dge hc,cond_false]
     · have:=hW r x hx
       rw [List.take_length] at this
       by_cases q:(r:Int)∈rgs t
       · rw [if_pos q] at this; exact this
       · rw [if_neg q] at this
         refine step r (fun ⟨s,hs,e⟩=>q ((hrm _).2 (List.mem_map.2 ⟨s,hs,e⟩))) x this) (s:=(0,V,fs,ws)) ⟨0,Nat.zero_le _,rfl,hV,rfl,rfl,fun r x hx=>by simpa using hVs r x hx⟩
 exact ⟨V',h1,h2⟩
theorem seed2 {C:List Sw} (hC:CsOk b C) (hN0:0 < NB b) (hU:b.1=(u:Int)) (huR:u≤R) (hR2:R≤65536) (hN:NB b≤32) (hL:b.2.2.2.1.length≤10) (hloc:∀ t∈b.2.2.2.1,t.length≤20) (hin:∀ t∈b.2.2.2.1,∀ s∈t,0≤s.1∧s.1 < (R:Int)) {V:List Mv} (hV:V.length=R) (hVs:∀ r s,V[r]? = some s→SdOk b u 0 r s) :
   ∃ V',loop (fn_seed_Of_az_l12 b (some ((NB b:Int),C)) ((NB b:Nat):Int)) (0,V)=some V'∧V'.length=R∧∀ r s,V'[r]? = some s→SdOk b u b.2.2.2.1.length r s:=by
 have hS:NB b + u≤1048576:=by omega
 have hsz:IntKind.wrap .i64 (((NB b:Nat):Int) + b.1)=((NB b + u:Nat):Int):=by rw [hU,w64 (by omega) (by omega)]; omega
 have hCl:=hC.len hN0
 obtain ⟨V',h1,h2⟩:=loop_inv (body:=fn_seed_Of_az_l12 b (some ((NB b:Int),C)) ((NB b:Nat):Int)) (fun s=>∃ k:Nat,k≤b.2.2.2.1.length∧s.1=(k:Int)∧s.2.length=R∧∀ r x,s.2[r]? = some x→SdOk b u k r x) (fun s=>b.2.2.2.1.length - s.1.toNat) (Q:=fun V'=>V'.length=R∧∀ r s,V'[r]? = some s→SdOk b u b.2.2.2.1.length r s) (fun s hs=>by
   obtain ⟨i,W⟩:=s
   obtain ⟨k,hk,rfl,hlen,hW⟩:=hs
   dsimp only at hlen hW ⊢
   by_cases hc:k < b.2.2.2.1.length
   · left
     have hmem:=List.getElem_mem hc
     have hA:∀ n∈lvN b k,n < NB b + u:=fun n hn=>by
       unfold lvN at hn
       have:=List.mem_range.1 (List.mem_filter.1 hn).1
       omega
     obtain ⟨fs,ws,M,g1,g2,g3⟩:=spots_eq hS hA (Nat.le_trans (lvN_len b k) (by omega))
     have hM:∀ x,x∈M↔0≤x∧lvB b k x.toNat=true:=fun x=>by
       rw [g3]
       unfold li lvN
       rw [List.mem_map]
       constructor
       · rintro ⟨n,hn,rfl⟩
         exact ⟨Int.natCast_nonneg n,by rw [Int.toNat_natCast]; exact (List.mem_filter.1 hn).2⟩
       · rintro ⟨h0,h⟩
         exact ⟨x.toNat,List.mem_filter.2 ⟨List.mem_range.2 (lvB_lt h),h⟩,Int.toNat_of_nonneg h0⟩
     obtain ⟨W',g4,g5,g6⟩:=spread28 hR2 (List.getElem?_eq_getElem hc) (hin _ hmem) (Nat.le_trans (hloc _ hmem) (by decide)) g2 hM hlen hW
     refine ⟨(((k + 1:Nat):Int),W'),?_,⟨k + 1,hc,rfl,g5,g6⟩,by dsimp only; omega⟩
     unfold fn_seed_Of_az_l12
     dsimp only
     rw [dlt hc,cond_true,getN hc,Option.bind_some,hsz,empty_eq hS]
     simp only [Option.bind_some]
     rw [livePoints hC (by omega)]
     simp only [Option.bind_some]
     rw [g1]
     simp only [Option.bind_some]
     rw [rowRegions_eq _ (Nat.le_trans (hloc _ hmem) (by decide))]
     simp only [Option.bind_some,g4,w64s hc (by omega:b.2.2.2.1.length≤9223372036854775807)]
   · obtain rfl:k=b.2.2.2.1.length:=by omega
     refine .inr ⟨W,?_,hlen,hW⟩
     unfold fn_seed_Of_az_l12
     dsimp only
     rw [dge hc,cond_false]) (s:=(0,V)) ⟨0,Nat.zero_le _,rfl,hV,hVs⟩
 exact ⟨V',h1,h2⟩
end
theorem seedOf_az {b:Bo} (h:Sm b):∃ V:List Mv,fn_seed_Of_az b=some V∧(NB b=0→V=[])∧(0 < NB b→∃ u R:Nat,b.1=(u:Int)∧b.2.1=(R:Int)∧1≤u∧u≤R∧R≤65536∧V.length=R∧∀ r s,V[r]? = some s→SdOk b u b.2.2.2.1.length r s):=by
 obtain ⟨C,h1,hC⟩:=liveOf_az h
 have hb:NB b≤32:=(xs_bound h (Nat.le_refl _)).1
 unfold fn_seed_Of_az
 rw [show fn_live_Of_az b=_ from h1,Option.bind_some,liveLen,Option.bind_some]
 by_cases h0:NB b=0
 · refine ⟨[],?_,fun _=>rfl,fun h=>by omega⟩
   rw [decide_eq_true (show ((NB b:Nat):Int)=0 by omega),cond_true]
 · have hN0:0 < NB b:=by omega
   have hwf:=wf_of hN0
   obtain ⟨w1,w2,w3⟩:=wf_head hwf
   have hloc:=wf_loc hwf
   obtain ⟨u,hU⟩:=Int.eq_ofNat_of_zero_le (show 0≤b.1 by omega)
   obtain ⟨R,hR⟩:=Int.eq_ofNat_of_zero_le (show 0≤b.2.1 by omega)
   have hS:NB b + u≤1048576:=by omega
   have hsz:IntKind.wrap .i64 (((NB b:Nat):Int) + b.1)=((NB b + u:Nat):Int):=by rw [hU,w64 (by omega) (by omega)]; omega
   obtain ⟨fe,we,Le,g1,g2,_,g3⟩:=mFill_some (Mx_emp hS) 0 ((NB b:Nat):Int)
   have hLe:∀ x,x∈Le↔0≤x∧x < ((NB b:Nat):Int):=fun x=>by
     rw [g3]
     constructor
     · rintro (h | h)
       · cases h
       · omega
     · exact fun h => .inr (by omega)
   obtain ⟨V1,s1,s2,s3⟩:=seed1 hU hR (by omega) (by omega) hb g2 hLe
   obtain ⟨V2,t1,t2,t3⟩:=seed2 hC hN0 hU (by omega) (by omega) hb h.locals h.loc (fun t ht s hs=>by have:=hloc t ht s hs; omega) s2 s3
   refine ⟨V2,?_,fun h=>absurd h h0,fun _=>⟨u,R,hU,hR,by omega,by omega,by omega,t2,t3⟩⟩
   rw [decide_eq_false (show ¬ ((NB b:Nat):Int)=0 by omega),cond_false,hsz,empty_eq hS,hR,mk_nat _ _ (by omega)]
   simp only [Option.bind_some,fn_tick_Counter_Add_zii,g1]
   rw [s1]
   simp only [Option.bind_some]
   rw [t1]; rfl
end
section
theorem mListK {n:Nat} {f:Option (List Int)} {b:Option (Int×List Int)} {L:List Int} (h:Mx n f b L):fn_mixed_Set_List (some ((n:Int),f,b))=some L:=by
 have hn:=h.hn
 unfold fn_mixed_Set_List
 rw [show fn_mixed_Set_All (some ((n:Int),f,b))=some () from rfl,Option.bind_some]
 unfold fn_mixed_Set_kind
 rw [Dense_some]
 rcases h.st with ⟨rfl,rfl,h8⟩ | ⟨w,rfl,rfl,hw⟩
 · have hsp:=sp_of hn h.rs h.bd (by omega)
   have at0:fn_sparse_Set_At (some L) 0=some (L.getD 0 0,decide (0 < L.length)):=At_nat 0
   have hlp:loop (fn_mixed_Set_List_l2 (some L)) (L.getD 0 0,decide (0 < L.length),([]:List Int))=some L:=by
     have:=loop_nat (body:=fn_mixed_Set_List_l2 (some L)) (fun k:Nat=>(L.getD k 0,decide (k < L.length),L.take k)) L.length (b:=L) ?_ ?_
     · exact this
     · intro k hk
       unfold fn_mixed_Set_List_l2
       have hg:L.getD k 0=L[k]:=by simp [hk]
       have ha:app (L.take k) [L[k]]=some (L.take (k + 1)):=by
         rw [app_eq (by simp; omega),take_snoc hk]
       simp only [decide_eq_true hk,cond_true,hg,ha,Option.bind_some,step_rank hsp hk,At_nat]
     · unfold fn_mixed_Set_List_l2
       simp
   simp only [Option.isSome_none,cond_false,Option.bind_some,Option.isNone_some,fn_sparse_Set_All,at0,hlp]
 · have hl:=dense_loop hw (body:=fn_mixed_Set_List_l1 (some ((n:Int),w))) (fun c k hk=>by
     have hk2:=lt_of_mem hw.ds hk
     unfold fn_mixed_Set_List_l1
     have h0:decide (0≤(k:Int))=true:=by simp
     simp only [h0,cond_true,w64 (x:=(k:Int) + 1) (by omega) (by omega)]) (fun c=>by
     unfold fn_mixed_Set_List_l1
     rfl)
   obtain ⟨r,g1,g2⟩:=hl
   simp only [Option.isSome_some,cond_true,Option.bind_some,fn_dense_Set_All,g1,g2]
section
variable {b:Bo}
theorem pLen28 (h:Sm b) {β:Type} (F:Int→Option β):((fn_point_New b).bind fun p=>(fn_point_Points_Len p).bind F)=F ((NB b:Nat):Int):=by
 rw [show fn_point_New b=_ from pointNew_eq h]; rfl
theorem seedSize (h:Sm b):fn_seed_Size b=some (if NB b=0 then 0 else IntKind.wrap .i64 (((NB b:Nat):Int) + b.1)):=by
 unfold fn_seed_Size
 rw [pLen28 h]
 by_cases h0:NB b=0
 · rw [if_pos h0,decide_eq_true (show ((NB b:Nat):Int)=0 by omega)]; rfl
 · rw [if_neg h0,decide_eq_false (show ¬ ((NB b:Nat):Int)=0 by omega)]; rfl
theorem seedEnd_yes (h:Sm b) {x:Int} (h0:¬ NB b=0) (h1:0≤x) (h2:x < b.1):fn_seed_End b x=some (IntKind.wrap .i64 (((NB b:Nat):Int) + x),true):=by
 unfold fn_seed_End
 rw [pLen28 h]
 have:(((decide (((NB b:Nat):Int)=0))||(decide (x < 0)))||(decide (b.1≤x)))=false:=by
   rw [Bool.or_eq_false_iff,Bool.or_eq_false_iff,decide_eq_false_iff_not,decide_eq_false_iff_not,decide_eq_false_iff_not]; omega
 rw [this]; rfl
end
theorem refHas28 (t:List St) (r:Nat) (ht:t.length≤1000000):∃ q:Bool,fn_ref15_Has t (r:Int)=some q∧(q=true↔hasR t r):=by
 refine ⟨t.any fun s=>decide (s.1=(r:Int)),?_,?_⟩
 · unfold fn_ref15_Has
   rw [loop_some (body:=fn_ref15_Has_l1 t (r:Int)) t (fun s=>decide (s.1=(r:Int))) (.inr true) (.inl ()) ?_ ?_]
   · cases t.any fun s=>decide (s.1=(r:Int)) <;> rfl
   · intro k hk
     unfold fn_ref15_Has_l1
     rw [dlt hk,cond_true,getN hk,Option.bind_some,w64s hk (by omega)]
     cases decide (t[k].1=(r:Int)) <;> rfl
   · unfold fn_ref15_Has_l1
     rw [dge (Nat.lt_irrefl _),cond_false]
 · rw [List.any_eq_true]
   unfold hasR
   constructor
   · rintro ⟨s,h1,h2⟩; exact ⟨s,h1,by simpa using h2⟩
   · rintro ⟨s,h1,h2⟩; exact ⟨s,h1,by simpa using h2⟩
noncomputable def sdB (b:Bo) (u m r:Nat) (x:Nat):Bool:=@decide (sdM b u m r (x:Int)) (Classical.propDecidable _)
theorem sdB_iff {b:Bo} {u m r x:Nat}:sdB b u m r x=true↔sdM b u m r (x:Int):=by unfold sdB; exact @decide_eq_true_iff _ (Classical.propDecidable _)
section
variable {b:Bo} {u R:Nat}
theorem refRow28 (h:Sm b) (hN0:0 < NB b) (hU:b.1=(u:Int)) (hu:u≤65536) (r:Nat) (hr:r≤65536) :
   loop (fn_ref28_Of_l2 b (alls (xs b)) ((List.range b.2.2.2.1.length).map fun k=>vec (NB b) (lvB b k)) (r:Int)) ([],0)=some (vec (NB b + u) (sdB b u b.2.2.2.1.length r)):=by
 have hb:NB b≤32:=(xs_bound h (Nat.le_refl _)).1
 have hL:=h.locals
 have hal:(alls (xs b)).length=NB b:=alls_len (xs b)
 have hsz:IntKind.wrap .i64 ((((alls (xs b)).length:Nat):Int) + b.1)=((NB b + u:Nat):Int):=by rw [hal,hU,w64 (by omega) (by omega)]; omega
 have hnr:IntKind.wrap .i64 ((((alls (xs b)).length:Nat):Int) + (r:Int))=((NB b + r:Nat):Int):=by rw [hal,w64 (by omega) (by omega)]; omega
 refine loop_nat (body:=fn_ref28_Of_l2 b (alls (xs b)) ((List.range b.2.2.2.1.length).map fun k=>vec (NB b) (lvB b k)) (r:Int)) (fun n:Nat=>(vec n (sdB b u b.2.2.2.1.length r),(n:Int))) (NB b + u) (b:=vec (NB b + u) (sdB b u b.2.2.2.1.length r)) (fun x hx=>?_) ?_
 · have hvl := vec_len x (sdB b u b.2.2.2.1.length r)
   have hvs:vec (x + 1) (sdB b u b.2.2.2.1.length r)=vec x (sdB b u b.2.2.2.1.length r)++[if sdB b u b.2.2.2.1.length r x=true then 1 else 0]:=by unfold vec; rw [List.range_succ,List.map_append]; rfl
   have h0:(cond ((decide ((r:Int) < b.1))&&((decide ((x:Int) < (((alls (xs b)).length:Nat):Int)))||(decide ((x:Int)=IntKind.wrap .i64 ((((alls (xs b)).length:Nat):Int) + (r:Int)))))) (some (1)) (some (0)):Option Int)=some (if sdB b u 0 r x=true then 1 else 0):=by
     rw [hnr,hal,hU]
     have e:((decide ((r:Int) < (u:Int)))&&((decide ((x:Int) < ((NB b:Nat):Int)))||(decide ((x:Int)=((NB b + r:Nat):Int)))))=sdB b u 0 r x:=by
       rw [Bool.eq_iff_iff,sdB_iff,Bool.and_eq_true,Bool.or_eq_true,decide_eq_true_eq,decide_eq_true_eq,decide_eq_true_eq]
       unfold sdM
       constructor
       · rintro ⟨h1,h2⟩
         exact .inl ⟨by omega,by omega⟩
       · rintro (⟨h1,h2⟩ | ⟨k,hk,_⟩)
         · exact ⟨by omega,by omega⟩
         · omega
     rw [e]
     cases sdB b u 0 r x <;> rfl
   have hl1:loop (fn_ref28_Of_l1 b (alls (xs b)) ((List.range b.2.2.2.1.length).map fun k=>vec (NB b) (lvB b k)) (r:Int) (x:Int)) (if sdB b u 0 r x=true then 1 else 0,0)=some (if sdB b u b.2.2.2.1.length r x=true then 1 else 0):=by
     by_cases hc:x < NB b∧u≤r
     · refine loop_nat (body:=fn_ref28_Of_l1 b (alls (xs b)) ((List.range b.2.2.2.1.length).map fun k=>vec (NB b) (lvB b k)) (r:Int) (x:Int)) (fun k:Nat=>((if sdB b u k r x=true then 1 else 0:Int),(k:Int))) b.2.2.2.1.length (b:=if sdB b u b.2.2.2.1.length r x=true then 1 else 0) (fun k hk=>?_) ?_
       · obtain ⟨q,q1,q2⟩:=refHas28 b.2.2.2.1[k] r (Nat.le_trans (h.loc _ (List.getElem_mem hk)) (by decide))
         have hcond:(((decide ((k:Int) < ((b.2.2.2.1.length:Nat):Int)))&&(decide ((x:Int) < (((alls (xs b)).length:Nat):Int))))&&(decide (b.1≤(r:Int))))=true:=by
           rw [hal,hU,Bool.and_eq_true,Bool.and_eq_true,decide_eq_true_eq,decide_eq_true_eq,decide_eq_true_eq]; omega
         have hsd:sdB b u (k + 1) r x=(sdB b u k r x||(q&&lvB b k x)):=by
           rw [Bool.eq_iff_iff,Bool.or_eq_true,Bool.and_eq_true,sdB_iff,sdB_iff,q2]
           unfold sdM
           constructor
           · rintro (⟨h1,_⟩ | ⟨k',hk',t,e1,e2,e3,e4⟩)
             · omega
             · by_cases e:k'=k
               · subst e
                 rw [List.getElem?_eq_getElem hk] at e1
                 obtain rfl:=Option.some.inj e1
                 exact .inr ⟨e2,by simpa using e4⟩
               · exact .inl (.inr ⟨k',by omega,t,e1,e2,e3,e4⟩)
           · rintro ((⟨h1,_⟩ | ⟨k',hk',h2⟩) | ⟨h1,h2⟩)
             · omega
             · exact .inr ⟨k',by omega,h2⟩
             · exact .inr ⟨k,by omega,_,List.getElem?_eq_getElem hk,h1,Int.natCast_nonneg x,by simpa using h2⟩
         unfold fn_ref28_Of_l1
         dsimp only
         rw [hcond,cond_true,getN hk,Option.bind_some,q1,Option.bind_some,hsd,w64s hk (by omega)]
         cases q with
         | false=>simp
         | true =>
           rw [cond_true,gmap hk,Option.bind_some,vec_get hc.1]
           cases lvB b k x <;> cases sdB b u k r x <;> simp
       · unfold fn_ref28_Of_l1
         dsimp only
         rw [dge (Nat.lt_irrefl _),Bool.false_and,Bool.false_and,cond_false]
     · have e:sdB b u b.2.2.2.1.length r x=sdB b u 0 r x:=by
         rw [Bool.eq_iff_iff,sdB_iff,sdB_iff]
         unfold sdM
         constructor
         · rintro (h1 | ⟨k,_,t,_,_,_,h2⟩)
           · exact .inl h1
           · have:=lvB_lt h2
             rw [Int.toNat_natCast] at this
             exact .inl ⟨by omega,.inl (by omega)⟩
         · rintro (h1 | ⟨k,hk,_⟩)
           · exact .inl h1
           · omega
       rw [e]
       refine loop_end ?_
       unfold fn_ref28_Of_l1
       dsimp only
       have hcond:(((decide ((0:Int) < ((b.2.2.2.1.length:Nat):Int)))&&(decide ((x:Int) < (((alls (xs b)).length:Nat):Int))))&&(decide (b.1≤(r:Int))))=false:=by
         rw [hal,hU,Bool.and_eq_false_iff,Bool.and_eq_false_iff,decide_eq_false_iff_not,decide_eq_false_iff_not,decide_eq_false_iff_not]; omega
       rw [hcond,cond_false]
   unfold fn_ref28_Of_l2
   dsimp only
   rw [hsz,dlt hx,cond_true,h0,Option.bind_some,hl1,Option.bind_some,app_eq (by rw [hvl]; simp; omega),Option.bind_some,w64s hx (by omega),hvs]
 · unfold fn_ref28_Of_l2
   dsimp only
   rw [hsz,dge (Nat.lt_irrefl _),cond_false]
theorem refOf28 (h:Sm b) (hN0:0 < NB b) (hU:b.1=(u:Int)) (hR:b.2.1=(R:Int)) (hu:u≤65536) (hR2:R≤65536):fn_ref28_Of b=some ((List.range R).map fun r=>vec (NB b + u) (sdB b u b.2.2.2.1.length r)):=by
 unfold fn_ref28_Of
 rw [show fn_ref22_All b=_ from refAll_eq h,Option.bind_some,show decide ((((alls (xs b)).length:Nat):Int)=0)=false from decide_eq_false (by rw [alls_len]; show ¬ ((NB b:Nat):Int)=0; omega),cond_false,
   show fn_ref25_All b=_ from refAll25 h,Option.bind_some]
 have hl:=loop_nat (body:=fn_ref28_Of_l3 b (alls (xs b)) ((List.range b.2.2.2.1.length).map fun k=>vec (NB b) (lvB b k))) (fun n:Nat=>((List.range n).map (fun r=>vec (NB b + u) (sdB b u b.2.2.2.1.length r)),(n:Int))) R (b:=(List.range R).map fun r=>vec (NB b + u) (sdB b u b.2.2.2.1.length r)) (fun n hn=>by
     unfold fn_ref28_Of_l3
     dsimp only
     rw [hR,dlt hn,cond_true,refRow28 h hN0 hU hu n (by omega),Option.bind_some,app_eq (by simp; omega),Option.bind_some,w64s hn (by omega),List.range_succ,List.map_append]; rfl) (by
     unfold fn_ref28_Of_l3
     dsimp only
     rw [hR,dge (Nat.lt_irrefl _),cond_false])
 rw [show loop (fn_ref28_Of_l3 b (alls (xs b)) ((List.range b.2.2.2.1.length).map fun k=>vec (NB b) (lvB b k))) ([],0)=_ from hl]; rfl
theorem refOf28_none (h:Sm b) (h0:NB b=0):fn_ref28_Of b=some []:=by
 unfold fn_ref28_Of
 rw [show fn_ref22_All b=_ from refAll_eq h,Option.bind_some,show decide ((((alls (xs b)).length:Nat):Int)=0)=true from decide_eq_true (by rw [alls_len]; show ((NB b:Nat):Int)=0; omega),cond_true]
end
abbrev b28:Bo:=(1,2,[],[[(1,false)]],[(0,false)],[],[([],(3,0,0,[],[],[]))])
theorem sm28:Sm b28:=⟨by decide,by decide,by decide,by decide,by decide,by decide,by decide,by decide,by decide⟩
theorem vck28:(vck b28).1=0:=by
 have hr:tE (arOf b28) (3,0,0,[],[],[])=0:=tE_ret (t:=[(1,false)]) (L:=[]) rfl rfl (by simp)
 have hc:vCode b28=(0,0,0,0):=by
   have h1:blkE b28 ([],(3,0,0,[],[],[]))=none:=by
     unfold blkE
     simp only [List.findIdx?_nil,hr]
     rfl
   unfold vCode
   simp only [List.findIdx?_cons,h1]
   rfl
 unfold vck
 rw [hc]; rfl
theorem xs28:xs b28=b28.2.2.2.2.2.2:=by unfold xs; rw [if_pos vck28]
theorem pts28:pts (xs b28)=[([0],[])]:=by
 rw [xs28]
 show []++([]++[cpT ([0],[])])=_
 unfold cpT
 rw [cp_one]; rfl
theorem NB28:NB b28=1:=by show bg (xs b28) (xs b28).length=1; rw [xs28]; decide
theorem lv28:lvB b28 0 0=true:=by
 rw [lvB_iff]
 unfold LvS
 rw [NB28,pts28]
 exact .rd (by decide) (by decide)
theorem awake28:fn_law28_awake=some true:=by
 unfold fn_law28_awake
 obtain ⟨V,h1,_,hV⟩:=seedOf_az sm28
 obtain ⟨u,R,hU,hR,_,_,_,hlen,hs⟩:=hV (by rw [NB28]; decide)
 obtain rfl:u=1:=by have:((1:Nat):Int)=(u:Int):=hU; omega
 obtain rfl:R=2:=by have:((2:Nat):Int)=(R:Int):=hR; omega
 rw [show fn_seed_Of_az (1,2,[],[[(1,false)]],[(0,false)],[],[([],(3,0,0,[],[],[]))])=_ from h1,Option.bind_some,hlen]
 obtain ⟨f0,w0,L0,e0,m0,q0⟩:=hs 0 V[0] (List.getElem?_eq_getElem (by omega))
 obtain ⟨f1,w1,L1,e1,m1,q1⟩:=hs 1 V[1] (List.getElem?_eq_getElem (by omega))
 have g0:getI V 0=some V[0]:=getN (k:=0) (by omega)
 have g1:getI V 1=some V[1]:=getN (k:=1) (by omega)
 have hL0:L0=[0,1]:=by
   refine strict_eq m0.rs (by simp) (fun x=>?_)
   rw [q0]
   unfold sdM
   rw [NB28]
   simp only [List.mem_cons,List.not_mem_nil,or_false]
   constructor
   · rintro (h | ⟨k,hk,t,ht,⟨s,hs1,hs2⟩,_⟩)
     · omega
     · obtain rfl:k=0:=by have:k < 1:=hk; omega
       obtain rfl:[(1,false)]=t:=Option.some.inj ht
       simp at hs1; subst hs1; simp at hs2
   · exact fun h => .inl ⟨by omega,by omega⟩
 have hL1:L1=[0]:=by
   refine strict_eq m1.rs (by simp) (fun x=>?_)
   rw [q1]
   unfold sdM
   simp only [List.mem_singleton]
   constructor
   · rintro (h | ⟨k,hk,t,ht,_,h0,h2⟩)
     · omega
     · have:=lvB_lt h2
       rw [NB28] at this
       omega
   · rintro rfl
     exact .inr ⟨0,by decide,[(1,false)],rfl,⟨(1,false),by simp,rfl⟩,Int.le_refl 0,lv28⟩
 subst hL0 hL1
 have hsz:=seedSize sm28
 rw [show fn_seed_Size (1,2,[],[[(1,false)]],[(0,false)],[],[([],(3,0,0,[],[],[]))])=_ from hsz,g0,g1,Option.bind_some,Option.bind_some,e0,e1,mListK m0,mListK m1,Option.bind_some,Option.bind_some,same01_eq _ _ (by simp),same01_eq _ _ (by simp),NB28]
 rfl
end
theorem sd_end {b:Bo} {u m r v:Nat} (hv:v < u):sdM b u m r (((NB b:Nat):Int) + (v:Int))↔r=v:=by
 unfold sdM
 constructor
 · rintro (h | ⟨k,_,t,_,_,_,h⟩)
   · omega
   · have:=lvB_lt h; omega
 · rintro rfl; exact .inl ⟨hv,.inr rfl⟩
theorem sd_low {b:Bo} {u m r:Nat} {x:Int} (hr:r < u):sdM b u m r x↔(0≤x∧x < ((NB b:Nat):Int))∨x=((NB b:Nat):Int) + (r:Int):=by
 unfold sdM
 constructor
 · rintro (h | ⟨k,_,t,_,_,h0,h⟩)
   · exact h.2
   · have:=lvB_lt h; exact .inl (by omega)
 · exact fun h => .inl ⟨hr,h⟩
theorem sd_high {b:Bo} {u m r:Nat} {x:Int} (hr:u≤r) (h:sdM b u m r x):0≤x∧x < ((NB b:Nat):Int):=by
 rcases h with h | ⟨k,_,t,_,_,h0,h⟩
 · omega
 · have:=lvB_lt h; omega
theorem li_range_sorted (n:Nat):(li (List.range n)).Pairwise (· < ·):=by
 unfold li
 rw [List.pairwise_map]
 exact List.pairwise_lt_range.imp (fun h=>by exact_mod_cast h)
theorem li_range_mem {n:Nat} {x:Int}:x∈li (List.range n)↔0≤x∧x < (n:Int):=by
 unfold li
 rw [List.mem_map]
 constructor
 · rintro ⟨k,hk,rfl⟩
   have:=List.mem_range.1 hk
   exact ⟨Int.natCast_nonneg k,by exact_mod_cast this⟩
 · rintro ⟨h0,h1⟩
   exact ⟨x.toNat,List.mem_range.2 (by omega),Int.toNat_of_nonneg h0⟩
theorem low_len {b:Bo} {u m r:Nat} {L:List Int} (hs:L.Pairwise (· < ·)) (hL:∀ x,x∈L↔sdM b u m r x) (hr:r < u):L.length=NB b + 1:=by
 have e:L=li (List.range (NB b))++[((NB b:Nat):Int) + (r:Int)]:=by
   refine strict_eq hs ?_ (fun x=>?_)
   · rw [List.pairwise_append]
     refine ⟨li_range_sorted _,by simp,fun a ha c hc=>?_⟩
     have:=li_range_mem.1 ha
     obtain rfl:=List.mem_singleton.1 hc
     omega
   · rw [hL,sd_low hr,List.mem_append,li_range_mem,List.mem_singleton]
 rw [e,List.length_append,li_len,List.length_range]; rfl
theorem SeedEnds_true (xa:Bo) (k0:Tp.Ok tyBody xa) (q0:Tp.Fit tyBody xa):fn_law28_SeedEnds xa=some true:=by
 unfold fn_law28_SeedEnds
 rcases small20 xa (fit_body q0) with h | ⟨h,hs⟩
 · rw [show fn_ref20_Small xa=some false from h,awake28]; rfl
 · by_cases h20:20 < xa.2.1
   · rw [show fn_ref20_Small xa=some true from h,awake28,decide_eq_true h20]; rfl
   · obtain ⟨V,h1,hV0,hV1⟩:=seedOf_az hs
     have hb:NB xa≤32:=(xs_bound hs (Nat.le_refl _)).1
     rw [show fn_ref20_Small xa=some true from h,Option.bind_some,decide_eq_false h20]
     simp only [Bool.not_true,Bool.or_self,cond_false]
     rw [show fn_seed_Of_az xa=_ from h1,Option.bind_some,
       show fn_seed_Size xa=_ from seedSize hs,Option.bind_some]
     by_cases h0:NB xa=0
     · rw [hV0 h0,if_pos h0,loop_end (b:=Sum.inl ()) (by unfold fn_law28_SeedEnds_l2; rfl)]
       simp only [Option.bind_some]
       rw [show fn_ref28_Of xa=_ from refOf28_none hs h0,Option.bind_some,awake28]; rfl
     · obtain ⟨u,R,hU,hR,hu1,huR,hR2,hlen,hok⟩:=hV1 (by omega)
       have hsz:IntKind.wrap .i64 (((NB xa:Nat):Int) + xa.1)=((NB xa + u:Nat):Int):=by rw [hU,w64 (by omega) (by omega)]; omega
       rw [if_neg h0,hsz]
       have hlp:=loop_nat (body:=fn_law28_SeedEnds_l2 xa V ((NB xa + u:Nat):Int)) (fun k:Nat=>(k:Int)) R (b := .inl ()) (fun r hr=>by
         have hrV:r < V.length:=by omega
         have gV:getI V (r:Int)=some V[r]:=getN hrV
         obtain ⟨f,w,L,e,hm,hL⟩:=hok r V[r] (List.getElem?_eq_getElem hrV)
         have hl1:=loop_nat (body:=fn_law28_SeedEnds_l1 xa V (r:Int)) (fun k:Nat=>((if r < k then 1 else 0:Int),(k:Int))) u (b := .inl (if r < u then 1 else 0)) (fun v hv=>by
           have hse:fn_seed_End xa (v:Int)=some (IntKind.wrap .i64 (((NB xa:Nat):Int) + (v:Int)),true):=seedEnd_yes hs h0 (by omega) (by rw [hU]; exact_mod_cast hv)
           have hw:IntKind.wrap .i64 (((NB xa:Nat):Int) + (v:Int))=((NB xa:Nat):Int) + (v:Int):=w64 (by omega) (by omega)
           have hh:fn_mixed_Set_Has V[r] (((NB xa:Nat):Int) + (v:Int))=some (decide ((r:Int)=(v:Int))):=by
             rw [e,hm.has]
             congr 1
             rw [decide_eq_decide,hL,sd_end hv]
             omega
           unfold fn_law28_SeedEnds_l1
           dsimp only
           rw [show decide ((v:Int) < xa.1)=true from decide_eq_true (by rw [hU]; exact_mod_cast hv),cond_true,hse,Option.bind_some]
           dsimp only
           rw [hw,gV]
           simp only [Option.bind_some,hh,Bool.not_true,cond_false,beq_self_eq_true]
           by_cases q:r=v
           · subst q
             rw [decide_eq_true rfl,cond_true,if_neg (Nat.lt_irrefl _),if_pos (by omega),w64s hv (by omega)]; rfl
           · rw [decide_eq_false (by omega),cond_false,w64s hv (by omega)]
             by_cases q2:r < v
             · rw [if_pos q2,if_pos (by omega)]
             · rw [if_neg q2,if_neg (by omega)]) (by
           unfold fn_law28_SeedEnds_l1
           dsimp only
           rw [show decide ((u:Int) < xa.1)=false from decide_eq_false (by rw [hU]; exact Int.lt_irrefl _),cond_false])
         have hln:fn_mixed_Set_Len V[r]=some ((L.length:Nat):Int):=by rw [e]; exact hm.size
         have hsub:IntKind.wrap .i64 (((NB xa + u:Nat):Int) - xa.1)=((NB xa:Nat):Int):=by rw [hU,w64 (by omega) (by omega)]; omega
         have hsub1:IntKind.wrap .i64 (((NB xa:Nat):Int) + 1)=((NB xa + 1:Nat):Int):=by rw [w64 (by omega) (by omega)]; omega
         unfold fn_law28_SeedEnds_l2
         rw [hlen,dlt hr,cond_true]
         rw [show loop (fn_law28_SeedEnds_l1 xa V (r:Int)) (0,0)=_ from hl1]
         simp only [Option.bind_some,gV,hln,hsub,hsub1,w64s hr (by omega)]
         by_cases q:r < u
         · rw [if_pos q,show decide ((r:Int) < xa.1)=true from decide_eq_true (by rw [hU]; exact_mod_cast q),show decide (xa.1≤(r:Int))=false from decide_eq_false (by rw [hU]; omega),low_len hm.rs hL q]
           simp
         · have hle:L.length≤NB xa:=len_le hm.rs (fun x hx=>sd_high (by omega) ((hL x).1 hx))
           rw [if_neg q,show decide ((r:Int) < xa.1)=false from decide_eq_false (by rw [hU]; omega),show decide (xa.1≤(r:Int))=true from decide_eq_true (by rw [hU]; omega),show decide (((NB xa:Nat):Int) < ((L.length:Nat):Int))=false from decide_eq_false (by omega)]
           simp) (by
         unfold fn_law28_SeedEnds_l2
         rw [hlen,dge (Nat.lt_irrefl _),cond_false])
       have hN0:0 < NB xa:=Nat.pos_of_ne_zero h0
       have hu2:u≤65536:=Nat.le_trans huR hR2
       rw [show loop (fn_law28_SeedEnds_l2 xa V ((NB xa + u:Nat):Int)) 0=_ from hlp]
       simp only [Option.bind_some]
       rw [show fn_ref28_Of xa=_ from refOf28 hs hN0 hU hR hu2 hR2,Option.bind_some,hlen,List.length_map,List.length_range,decide_eq_true rfl,awake28]; rfl
theorem SeedEnds_walk {H:Type} (enc:TypeId×Value→H) (W:World) (base:Nat) {v0:Value} {d0:DataW H} {p0:List MemPlace}
   (h0:DataW.Trod enc Tryz.prog W 0 (fun _=>true) true 30 v0 d0 p0)
   (o0:Value.okWide Tryz.prog W .any base 30 v0)
   (hgk:tzGk (Hp.of W))
   (w0:(d0.weights Tryz.prog 30).all (·≤reachBytes)=true) :
   Calls Tryz.prog 4 #[v0] W fun e W'=>e = .returned (.bool true)∧Below W.heap.size W W':=by
 obtain ⟨xa,i0,k0⟩:=Tp.arg (.cons (.int .i64) (.cons (.int .i64) (.cons (.sl (.cons (.int .i64) (.one (.int .i64)))) (.cons (.sl (.one (.sl (.cons (.int .i64) (.one .bool))))) (.cons (.one (.sl (.cons (.int .i64) (.one .bool)))) (.cons (.sl (.cons (.int .i64) (.cons (.sl (.cons (.int .i64) (.one (.int .i64)))) (.cons (.sl (.one (.sl (.cons (.int .i64) (.one .bool))))) (.one (.one (.sl (.cons (.int .i64) (.one .bool))))))))) (.one (.sl (.cons (.sl (.cons (.int .i64) (.cons (.int .i64) (.cons (.int .i64) (.cons (.int .i64) (.one .bool)))))) (.one (.cons (.int .i64) (.cons (.int .i64) (.cons (.int .i64) (.cons (.sl (.int .i64)) (.cons (.sl (.int .i64)) (.one (.sl (.int .i64)))))))))))))))))) (by kernel_rfl) o0 h0
 have q0:=Tp.argFit (.cons (.int .i64) (.cons (.int .i64) (.cons (.sl (.cons (.int .i64) (.one (.int .i64)))) (.cons (.sl (.one (.sl (.cons (.int .i64) (.one .bool))))) (.cons (.one (.sl (.cons (.int .i64) (.one .bool)))) (.cons (.sl (.cons (.int .i64) (.cons (.sl (.cons (.int .i64) (.one (.int .i64)))) (.cons (.sl (.one (.sl (.cons (.int .i64) (.one .bool))))) (.one (.one (.sl (.cons (.int .i64) (.one .bool))))))))) (.one (.sl (.cons (.sl (.cons (.int .i64) (.cons (.int .i64) (.cons (.int .i64) (.cons (.int .i64) (.one .bool)))))) (.one (.cons (.int .i64) (.cons (.int .i64) (.cons (.int .i64) (.cons (.sl (.int .i64)) (.cons (.sl (.int .i64)) (.one (.sl (.int .i64)))))))))))))))))) (r := .any) (b:=base) (by kernel_rfl) (by kernel_rfl) h0 i0 w0
 exact walkX (s:=sp_law28_SeedEnds) (x:=xa) (args:=[v0]) law28_SeedEnds_is (SeedEnds_true xa k0 q0) hgk rfl rfl ⟨_,_,rfl,of_rel _ i0,rfl⟩
theorem tz_tab:∀ j,j < 64→(Lib.deBruijn64tab.map Int.ofNat).getD j 0=((Lib.deBruijn64tab.getD j 0:Nat):Int):=by decide +kernel
theorem tzGk_of {W : World} {rest : List (String × DataW Unit)} (h : laidMet Tryz.prog (("math/bits.deBruijn64tab", Rows.laid_math_bits_deBruijn64tab) :: rest) W) : tzGk (Hp.of W) := by
 have hg : Tryz.prog.globalNamed "math/bits.deBruijn64tab" = some 0 := by kernel_rfl
 have hT : Lib.TabIs Tryz.prog W "math/bits.deBruijn64tab" .u8 (Lib.deBruijn64tab.map Int.ofNat) :=
   Lib.tabIs_of_head (t:=219) (e:=5) (n:=64) hg (by kernel_rfl) (by kernel_rfl) (by kernel_rfl) (by kernel_rfl) (by kernel_rfl) h
 intro j hj
 rw [← tz_tab j hj]
 exact cellK_of (hT.cell hg j (by simpa [Lib.deBruijn64tab] using hj))
end Go.Proofs.YtaajcbeoafhmaaaGreatDoor
namespace Go.Proofs.YtaajcbeoafhmaaaGreatDoor.seedEndsFrame
set_option maxRecDepth 40000
open Go.ChangeShapes Go.WideShapes Go.ChangeAt Go.RowKit
theorem own:ownKnob Tryz.prog.godebug=none:=by kernel_rfl
theorem contract (H:Type) (enc:TypeId×Value→H) (W:World) (base:Nat) (args:Array Value) (ds gs:List (DataW H)) (before:List MemPlace)
   (hval:∀ (j:Nat) t v,Tryz.f4.params[j]? = some t→args[j]? = some v→Value.okWide Tryz.prog W .any base t v)
   (hW:DataW.Whole enc Tryz.prog Tryz.f4.params.toList Rows.seedEndsSpec.vars false W args.toList ds gs before) (vt:List TypeId) (hwt:(DataW.weightsEach Tryz.prog (Tryz.f4.params.toList++vt) (ds++gs)).all (·≤reachBytes)=true) (hgk:tzGk (Hp.of W)) :
   Calls Tryz.prog 4 args W fun e W'=>∃ v,e = .returned v∧Rows.seedEndsSpec.post enc Tryz.prog Tryz.f4 false true false false W args v W':=by
 have hW':=hW
 obtain ⟨p,q,hA0,hV,rfl,hfz,hnd⟩:=hW
 have hA:DataW.TrodAll enc Tryz.prog W 0 (fun _=>true) true Tryz.f4.params.toList args.toList ds p:=hA0
 rw [Tryz.params4] at hA hval hwt
 obtain ⟨v0,vs0,d0,ds0,p0,q0,hargs,rfl,rfl,h0,r0⟩:=trodAll_cons hA
 obtain ⟨rfl,rfl,rfl⟩:=trodAll_nil r0
 obtain rfl:args = #[v0]:=by cases args; simp_all
 refine (SeedEnds_walk enc W base h0 (hval 0 _ v0 rfl rfl) hgk (wEach _ _ hwt 0 _ _ rfl rfl)).mono fun e W' ⟨he,hb⟩=>?_
 subst he
 exact ⟨_,rfl,law_post (tb:=_) rfl hW' rfl rfl (by kernel_rfl) (by kernel_rfl) (of_decide_eq_true (by kernel_rfl)) hb⟩
noncomputable def world (os:Os):World:=World.laidAll Tryz.prog os Rows.seedEndsRow.laid
theorem reads (os:Os) {H:Type} (enc:TypeId×Value→H):∃ x,DataW.whole enc Tryz.prog ((world os).forCall (fun _ _=>0) ⟨#[],#[.agg #[.int .i64 0,.int .i64 0,.slice none 0 0,.slice none 0 0,.slice none 0 0,.slice none 0 0,.slice none 0 0]],[]⟩).memory Tryz.f4.params.toList Rows.seedEndsSpec.vars false (#[.agg #[.int .i64 0,.int .i64 0,.slice none 0 0,.slice none 0 0,.slice none 0 0,.slice none 0 0,.slice none 0 0]]:Array Value).toList 8=some x :=
 Option.isSome_iff_exists.1 (by kernel_rfl)
set_option maxRecDepth 100000 in
theorem lifted (os:Os) (started:os.Started) (H:Type) (enc:TypeId×Value→H) (F:Stop.Interp) :
   ReturnsInHanded {} Tryz.checked os 4 .any ((OpenSpec.ofChange Rows.seedEndsSpec).preRow enc Tryz.prog Tryz.f4 Rows.seedEndsRow.domain false Rows.seedEndsRow.laid) (((OpenSpec.ofChange Rows.seedEndsSpec).at F).post enc Tryz.prog Tryz.f4 false true false false):=by
 obtain ⟨x,hx⟩:=reads os enc
 refine returnsInHanded_of_row (C:=Tryz.checked) (s:=OpenSpec.ofChange Rows.seedEndsSpec) own started (by kernel_rfl) Tryz.func4
   ⟨world os,fun _ _=>0,⟨#[],#[.agg #[.int .i64 0,.int .i64 0,.slice none 0 0,.slice none 0 0,.slice none 0 0,.slice none 0 0,.slice none 0 0]],[]⟩,World.laidAll_os _ _ _,World.shaped_of_ZipB (by kernel_rfl) (by kernel_rfl),rfl,(Input.okWide_of_okWideB (by kernel_rfl)).2,
     OpenSpec.preRow_of_cond 8 hx (by kernel_rfl) (fun k hk=>by cases hk) (by kernel_rfl) (by rw [MakeChecks.laidMetH_plain _ _ _ (by kernel_rfl)]; exact laidMet_laidAll _ (by kernel_rfl) (by kernel_rfl)),
     by simp only [Assume.holds]; exact ⟨by simp,by simp,by simp,by simp,by simp⟩⟩ ?_
 intro W base args ds gs before hval hW _ _ hwt hL _ _
 exact contract H enc W base args ds gs before hval hW _ hwt (tzGk_of (rest:=[]) (by rw [MakeChecks.laidMetH_plain _ _ _ (by kernel_rfl)] at hL; exact hL))
theorem proved:Rows.SeedEndsSaid :=
 OpenClaim.holds_of_cond 4 Tryz.f4 rfl rfl rfl rfl rfl rfl rfl ⟨rfl,rfl,rfl,rfl,rfl⟩ rfl rfl rfl rfl rfl (by kernel_rfl) Tryz.func4 (by kernel_rfl)
   (of_decide_eq_true (by kernel_rfl)) (by unfold Func.isWrapper; first | (rw [if_pos (by decide +kernel)]; kernel_rfl) | (rw [if_neg (by decide +kernel)]; exact ⟨rfl,rfl⟩))
   (fun os started H enc _ F=>by rw [OpenClaim.pre_eq_preRow]; exact lifted os started H enc F)
theorem card:Rows.SeedEndsCardSaid :=
 Claim7.holds_tied_plain_at .later [] [.data] true (true, "69afacfbd48a1b6ddf6b7bf80203764013ec63c3f8ad2624e5f3bc871cbaa802") false proved (fun _ h => by cases h) (by kernel_rfl) (fun _ h => by cases h) seedEnds_row_tie rfl ⟨rfl, rfl⟩ (by kernel_rfl) rfl
   (fun f fn hf hfn=>by
     obtain rfl : f = 4 := Option.some.inj ((show Tryz.prog.funcNamed "easement/easementlaw28.SeedEnds" = some 4 by kernel_rfl).symm.trans hf) |>.symm
     obtain rfl:fn=Tryz.f4:=(Option.some.inj (Tryz.func4.symm.trans hfn)).symm
     exact ⟨by kernel_rfl,fun j t ht=>by
       rw [Tryz.params4] at ht
       have hm:t∈[30]:=by simpa using Array.mem_of_getElem? ht
       have hall:([30].all fun u=>!Tryz.prog.wantsStandIn u)=true:=by kernel_rfl
       exact (show Tryz.prog.wantsStandIn t=false by simpa using List.all_eq_true.1 hall t hm)⟩)
   (by kernel_rfl)
end Go.Proofs.YtaajcbeoafhmaaaGreatDoor.seedEndsFrame
