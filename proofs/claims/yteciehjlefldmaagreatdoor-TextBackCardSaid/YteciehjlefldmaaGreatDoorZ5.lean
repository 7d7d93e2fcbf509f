/- 'easement/easementlaw38.TextBack' returns true for every input, and each argument u5 afterwards as it read before: the row's frame round the walk. -/
import Derived.Test.YteciehjlefldmaaGreatDoorZ4
import Derived.Lib.SplitLaws
import Derived.Lib.IndexMore
import Derived.Lib.Join
import Derived.Test.YteciehjlefldmaaGreatDoorCards
import Derived.Test.YteciehjlefldmaaGreatDoorTie
import Derived.Lay
import Derived.SevenTiedAt
namespace Go.Proofs.YteciehjlefldmaaGreatDoor
noncomputable section
set_option linter.unusedVariables false
section
section
variable {σ β:Type} {body:σ→Option (σ⊕β)}
theorem cB (st:Nat→σ) (n:Nat) {b:β} (h:∀ k,k < n→body (st k)=some (.inl (st (k + 1)))) (he:body (st n)=some (.inr b)):loop body (st 0)=some b:=by
 have:∀ m k,k + m=n→loop body (st k)=some b:=by
   intro m
   induction m with
   | zero => intro k hk; have : k = n := by omega
             subst this; exact cC he
   | succ m ih=>intro k hk; rw [fi (h k (by omega))]; exact ih (k + 1) (by omega)
 exact this n 0 (by omega)
theorem aS (p:Nat→Prop):∀ n,(∃ k,k < n∧p k∧∀ j,j < k→¬ p j)∨∀ j,j < n→¬ p j
 | 0 => .inr (fun j hj=>by omega)
 | n + 1=>by
   rcases aS p n with ⟨k,h1,h2,h3⟩ | h
   . exact .inl ⟨k,by omega,h2,h3⟩
   . by_cases hp:p n
     . exact .inl ⟨n,by omega,hp,h⟩
     . exact .inr (fun j hj=>if e:j=n then e ▸ hp else h j (by omega))
theorem fv (p:Nat→Prop) (st:Nat→σ) (n:Nat) (hit:Nat→β) (e:β) (hgo:∀ k,k < n→¬ p k→body (st k)=some (.inl (st (k + 1)))) (hhit:∀ k,k < n→p k→body (st k)=some (.inr (hit k))) (hend:body (st n)=some (.inr e)) :
   (∃ k,k < n∧p k∧(∀ j,j < k→¬ p j)∧loop body (st 0)=some (hit k))∨((∀ j,j < n→¬ p j)∧loop body (st 0)=some e):=by
 rcases aS p n with ⟨k,h1,h2,h3⟩ | h
 . exact .inl ⟨k,h1,h2,h3,cB st k (fun j hj=>hgo j (by omega) (h3 j hj)) (hhit k h1 h2)⟩
 . exact .inr ⟨h,cB st n (fun k hk=>hgo k hk (h k hk)) hend⟩
open Classical in
theorem yo (p:Nat→Prop) (st:Nat→σ) (n:Nat) (b e:β) (hgo:∀ k,k < n→¬ p k→body (st k)=some (.inl (st (k + 1)))) (hhit:∀ k,k < n→p k→body (st k)=some (.inr b)) (hend:body (st n)=some (.inr e)) :
   loop body (st 0)=some (if ∃ k,k < n∧p k then b else e):=by
 rcases fv p st n (fun _=>b) e hgo hhit hend with ⟨k,h1,h2,h3,h4⟩ | ⟨h1,h2⟩
 . rw [if_pos ⟨k,h1,h2⟩]; exact h4
 . rw [if_neg (fun ⟨k,h3,h4⟩=>h1 k h3 h4)]; exact h2
end
theorem w64 {x:Int} (h1 : -9223372036854775808≤x) (h2:x≤9223372036854775807):IntKind.wrap .i64 x=x:=by
 rw [IntWalk.i64_left,IntWalk.wrap64_in _ ⟨h1,h2⟩]
theorem aq {k n:Nat} (h:k < n) (hn:n≤9223372036854775807):IntKind.wrap .i64 ((k:Int) + 1)=((k + 1:Nat):Int):=by
 rw [w64 (by omega) (by omega)]; rfl
theorem an {α:Type} {l:List α} {k:Nat} (h:k < l.length):aa l (k:Int)=some l[k]:=tO rfl h
theorem xL {α γ:Type} (xa:List α) (f:γ→α→γ) (c0:γ) (hn:xa.length≤9223372036854775807) {body:γ×Int→Option ((γ×Int)⊕γ)}
   (hb:∀ k x,xa[k]? = some x→body ((xa.take k).foldl f c0,(k:Int))=some (.inl (f ((xa.take k).foldl f c0) x,IntKind.wrap .i64 ((k:Int) + 1)))) (he:body (xa.foldl f c0,(xa.length:Int))=some (.inr (xa.foldl f c0))):loop body (c0,0)=some (xa.foldl f c0):=by
 have h:=cB (body:=body) (fun k:Nat=>((xa.take k).foldl f c0,(k:Int))) xa.length (b:=xa.foldl f c0) ?_ ?_
 . simpa using h
 . intro k hk
   rw [hb k xa[k] (by simp [hk]),aq hk hn]
   congr 3
   rw [List.take_succ_eq_append_getElem hk,List.foldl_append]; rfl
 . simpa using he
theorem rl {α γ:Type} (g:α→γ) (xa:List α) (c:List γ):xa.foldl (fun c x=>c++[g x]) c=c++xa.map g:=by
 induction xa generalizing c with
 | nil=>simp
 | cons x xa ih=>simp [ih]
theorem yL {α γ:Type} (xa:List α) (g:α→γ) (c0:List γ) (hn:c0.length + xa.length≤1073741824) {body:List γ×Int→Option ((List γ×Int)⊕List γ)}
   (hb:∀ (c:List γ) (i:Int),body (c,i)=cond (decide (i < ((xa.length:Nat):Int))) ((aa xa i).bind fun x=>(app c [g x]).bind fun z=>some (.inl (z,IntKind.wrap .i64 (i + 1)))) (some (.inr c))):loop body (c0,0)=some (c0++xa.map g):=by
 rw [← rl]
 refine xL xa (fun c x=>c++[g x]) c0 (by omega) (fun k x hx=>?_) ?_
 . have hk:=(List.getElem?_eq_some_iff.1 hx).1
   rw [hb,rl]
   have hx':xa[k]=x:=by rw [List.getElem?_eq_getElem hk] at hx; exact Option.some.inj hx
   have ha:=aj (a:=c0++(xa.take k).map g) (b:=[g x]) (by simp; omega)
   simp only [Option.bind_some,an hk,hx',ha,Int.ofNat_lt.2 hk,decide_true,cond_true]
 . rw [hb]; simp
end
section
theorem mY {α:Type} {l:List α} {i:Int} (h0:0≤i) (h1:i < (l.length:Nat)):aa l i=some (l[i.toNat]'(by omega)):=by
 unfold aa; rw [if_pos h0]; simp
theorem u7 {α:Type} {l:List α} {k:Nat} (h:k + 1 < l.length):aa l ((k:Int) + 1)=some l[k + 1]:=tO rfl h
theorem dlt {k n:Nat} (h:k < n):decide ((k:Int) < (n:Int))=true:=by simp; omega
theorem dge {k n:Nat} (h:¬ k < n):decide ((k:Int) < (n:Int))=false:=by simp; omega
theorem zz {α:Type} [DecidableEq α] (a b:α):(a == b)=decide (a=b):=Bool.beq_eq_decide_eq a b
section
variable {α β γ σ:Type}
theorem cW {body:Int→Option (Int⊕β)} (xa:List α) (t:α→Bool) (hit:Nat→β) (e:β) (hb:∀ (k:Nat) (h:k < xa.length),body (k:Int)=some (if t xa[k] then .inr (hit k) else .inl ((k + 1:Nat):Int))) (he:body (xa.length:Int)=some (.inr e)) :
   loop body 0=some (match xa.findIdx? t with | some k=>hit k | none=>e):=by
 rcases fv (fun k=>∃ h:k < xa.length,t xa[k]=true) (fun k:Nat=>(k:Int)) xa.length hit e (fun k hk hp=>by
     rw [hb k hk,if_neg (fun h=>hp ⟨hk,h⟩)]) (fun k hk ⟨_,hp⟩=>by rw [hb k hk,if_pos hp]) he with ⟨k,h1,⟨_,h2⟩,h3,h4⟩ | ⟨h1,h2⟩
 . rw [show ((0:Int))=((0:Nat):Int) from rfl,h4]
   have:xa.findIdx? t=some k:=by
     rw [List.findIdx?_eq_some_iff_getElem]
     exact ⟨h1,h2,fun j hj=>fun hc=>h3 j hj ⟨by omega,by simpa using hc⟩⟩
   rw [this]
 . rw [show ((0:Int))=((0:Nat):Int) from rfl,h2]
   have:xa.findIdx? t=none:=by
     rw [List.findIdx?_eq_none_iff]
     intro x hx
     obtain ⟨k,hk,rfl⟩:=List.getElem_of_mem hx
     cases hc:t xa[k] with
     | false=>rfl
     | true=>exact absurd ⟨hk,hc⟩ (h1 k hk)
   rw [this]
theorem jk {body:Int→Option (Int⊕β)} (xa:List α) (t:α→Bool) (hit e:β) (hb:∀ (k:Nat) (h:k < xa.length),body (k:Int)=some (if t xa[k] then .inr hit else .inl ((k + 1:Nat):Int))) (he:body (xa.length:Int)=some (.inr e)) :
   loop body 0=some (if xa.any t then hit else e):=by
 rw [cW xa t (fun _=>hit) e hb he]
 cases h:xa.findIdx? t with
 | none =>
   have:xa.any t=false:=by
     rw [List.any_eq_false]; intro x hx; have:=List.findIdx?_eq_none_iff.1 h x hx; simp [this]
   rw [this]; rfl
 | some k =>
   obtain ⟨hk,h1,_⟩:=List.findIdx?_eq_some_iff_getElem.1 h
   have:xa.any t=true:=List.any_eq_true.2 ⟨_,List.getElem_mem hk,h1⟩
   rw [this]; rfl
theorem kY {δ:Type} {body:(γ×Int)→Option ((γ×Int)⊕δ)} (xa:List α) (acc:Nat→γ) (out:δ) (hb:∀ (k:Nat) (h:k < xa.length),body (acc k,(k:Int))=some (.inl (acc (k + 1),((k + 1:Nat):Int)))) (he:body (acc xa.length,(xa.length:Int))=some (.inr out)) :
   loop body (acc 0,0)=some out:=cB (fun k=>(acc k,(k:Int))) xa.length hb he
theorem oc [DecidableEq α] {body:Int→Option (Int⊕β)} (xa xb:List α) (hit e:β) (hl:xa.length=xb.length) (hb:∀ (k:Nat) (h:k < xa.length),body (k:Int)=some (if xa[k]=(xb[k]'(by omega)) then .inl ((k + 1:Nat):Int) else .inr hit)) (he:body (xa.length:Int)=some (.inr e)) :
   loop body 0=some (if xa=xb then e else hit):=by
 rw [cW (List.range xa.length) (fun k=>decide (xa[k]?≠xb[k]?)) (fun _=>hit) e (fun k h=>by
     simp at h
     rw [hb k h]
     have h2:k < xb.length:=by omega
     by_cases hq:xa[k]=xb[k] <;> simp [h,h2,hq]) (by simpa using he)]
 by_cases hq:xa=xb
 . subst hq
   have:(List.range xa.length).findIdx? (fun k=>decide (xa[k]?≠xa[k]?))=none:=by rw [List.findIdx?_eq_none_iff]; simp
   rw [this]; simp
 . cases h:(List.range xa.length).findIdx? (fun k=>decide (xa[k]?≠xb[k]?)) with
   | some k=>simp [hq]
   | none =>
     exfalso; apply hq
     rw [List.findIdx?_eq_none_iff] at h
     apply List.ext_getElem?
     intro k
     by_cases hk:k < xa.length
     . simpa using h k (List.mem_range.2 hk)
     . rw [List.getElem?_eq_none (by omega),List.getElem?_eq_none (by omega)]
theorem bY {l:List α} {k:Nat} (h:k < l.length):l.take (k + 1)=l.take k++[l[k]]:=List.take_succ_eq_append_getElem h
theorem iq {a b:Nat} (h:a=b):(!decide ((a:Int)=(b:Int)))=false:=by simp [h]
theorem uW {a b:Nat} (h:¬ a=b):(!decide ((a:Int)=(b:Int)))=true:=by simp; omega
end
theorem br {x:Int} (h:Tp.Ok (.int .i64) x) : -9223372036854775808≤x∧x≤9223372036854775807:=by
 have h':(Lit.int .i64 x).wf=true:=h
 simp only [Lit.wf,IntKind.min,IntKind.max,IntKind.signed,IntKind.bits,Bool.and_eq_true,decide_eq_true_eq] at h'
 simp at h'; omega
theorem hI {α:Type} {l:List α} (h:1≤l.length):subL l 1 ((l.length:Nat):Int)=some (l.drop 1):=by
 rw [da (by omega) (by omega) (by omega)]; simp
end
section
namespace Nu
set_option linter.unusedVariables false
set_option linter.unnecessarySimpa false
set_option linter.unusedSimpArgs false
theorem y3 {α:Type} {l m:List α} (h:l≠[]):(l++m).head? = l.head?:=by cases l with
 | nil=>exact absurd rfl h
 | cons a l=>rfl
def ch (d:Nat):UInt8:=UInt8.ofNat (48 + d)
theorem pD {d:Nat} (h:d < 10):(ch d).toNat=48 + d:=by unfold ch; simp; omega
def dec (n:Nat):List UInt8:=if h:n < 10 then [ch n] else dec (n / 10)++[ch (n % 10)]
termination_by n
theorem bG {n:Nat} (h:n < 10):dec n=[ch n]:=by rw [dec,dif_pos h]
theorem ek {n:Nat} (h:¬ n < 10):dec n=dec (n / 10)++[ch (n % 10)]:=by rw [dec,dif_neg h]
def text (n:Int):List UInt8:=if n < 0 then [] else dec n.toNat
def a8 (c:UInt8):Bool:=decide (48≤c.toNat)&&decide (c.toNat≤57)
def dig (c:UInt8):Nat:=c.toNat - 48
def val (s:List UInt8):Nat:=s.foldl (fun a c=>a * 10 + dig c) 0
theorem ta (s:List UInt8) (c:UInt8):val (s++[c])=val s * 10 + dig c:=by simp [val]
def cP (s:List UInt8):Bool:=s.all a8&&(decide (s.length=1)||(decide (1 < s.length)&&!decide (s.head? = some 48)))
def aT (s:List UInt8) (most:Int):Int×Int:=if cP s=true then (if most < (val s:Int) then (0,5) else ((val s:Int),0)) else (0,3)
theorem sV {d:Nat} (h:d < 10):a8 (ch d)=true:=by unfold a8; rw [pD h]; simp; omega
theorem uA {d:Nat} (h:d < 10):dig (ch d)=d:=by unfold dig; rw [pD h]; omega
theorem lX (n:Nat):dec n≠[]:=by
 by_cases h:n < 10
 . rw [bG h]; simp
 . rw [ek h]; simp
theorem tL (n:Nat):(dec n).all a8=true:=by
 induction n using Nat.strongRecOn with
 | _ n ih =>
   by_cases h:n < 10
   . rw [bG h]; simp [sV h]
   . rw [ek h,List.all_append,ih (n / 10) (by omega)]; simp [sV (show n % 10 < 10 by omega)]
theorem zx (n:Nat):val (dec n)=n:=by
 induction n using Nat.strongRecOn with
 | _ n ih =>
   by_cases h:n < 10
   . rw [bG h]; simp [val,uA h]
   . rw [ek h,ta,ih (n / 10) (by omega),uA (by omega)]; omega
theorem yV (n:Nat) (h0:n≠0):(dec n).head?≠some 48:=by
 induction n using Nat.strongRecOn with
 | _ n ih =>
   by_cases h:n < 10
   . rw [bG h]
     intro hc
     have h1:=pD h
     simp only [List.head?_cons,Option.some.injEq] at hc
     rw [hc] at h1
     simp at h1; omega
   . rw [ek h,y3 (lX _)]
     exact ih (n / 10) (by omega) (by omega)
theorem xx (n:Nat):cP (dec n)=true:=by
 unfold cP
 rw [tL,Bool.true_and]
 by_cases h:n < 10
 . rw [bG h]; simp
 . have h1:=yV n (by omega)
   have h2:1 < (dec n).length:=by
     rw [ek h,List.length_append]
     have:=List.length_pos_iff.2 (lX (n / 10))
     simp; omega
   simp [h1,h2]
theorem kX {n:Int} (h:0≤n) (most:Int):aT (text n) most=if most < n then (0,5) else (n,0):=by
 have e:text n=dec n.toNat:=by unfold text; rw [if_neg (by omega)]
 rw [e]; unfold aT
 rw [if_pos (xx _),zx,Int.toNat_of_nonneg h]
theorem tI:∀ (k n:Nat),n < 10 ^ (k + 1)→(dec n).length≤k + 1:=by
 intro k
 induction k with
 | zero=>intro n h; rw [bG (by simpa using h)]; simp
 | succ k ih =>
   intro n h
   by_cases hn:n < 10
   . rw [bG hn]; simp
   . rw [ek hn,List.length_append]
     have:=ih (n / 10) (by rw [Nat.pow_succ] at h; omega)
     simp; omega
theorem az {n:Int} (h:n≤9223372036854775807):(text n).length≤19:=by
 unfold text; split
 . simp
 . exact tI 18 _ (by omega)
theorem wS (s:List UInt8) (k:Nat):val (s.take k)≤val s:=by
 have key:∀ (l:List UInt8) (a:Nat),a≤l.foldl (fun a c=>a * 10 + dig c) a:=by
   intro l
   induction l with
   | nil=>intro a; exact Nat.le_refl _
   | cons c l ih=>intro a; rw [List.foldl_cons]; exact Nat.le_trans (by show a≤a * 10 + dig c; omega) (ih _)
 conv=>rhs; rw [← List.take_append_drop k s]
 unfold val
 rw [List.foldl_append]
 exact key _ _
theorem dI {n:Int} {c:UInt8} (hc:a8 c=false):c∉text n:=by
 unfold text; split
 . simp
 . intro h
   have:=List.all_eq_true.1 (tL n.toNat) c h
   rw [hc] at this; cases this
theorem k9 (c:UInt8):∀ s:List UInt8,Lib.index s [c]=match s.findIdx? (fun x=>decide (x=c)) with | some k=>(k:Int) | none=>-1
 | []=>by simp [Lib.index]
 | b :: l=>by
   unfold Lib.index
   rw [k9 c l,List.findIdx?_cons]
   by_cases h:b=c
   . subst h; simp
   . have:([c]:List UInt8).isPrefixOf (b :: l)=false:=by simp [List.isPrefixOf]; exact fun e=>h e.symm
     rw [this]
     simp only [Bool.false_eq_true,if_false,h,decide_false]
     cases hq:l.findIdx? (fun x=>decide (x=c)) with
     | none=>simp
     | some k =>
       have:((k:Int) == -1)=false:=by rw [beq_eq_false_iff_ne]; omega
       simp [this]
theorem zB (c:UInt8) (s:List UInt8):Lib.cut s [c]=match s.findIdx? (fun x=>decide (x=c)) with | some k=>(s.take k,s.drop (k + 1),true) | none=>(s,[],false):=by
 unfold Lib.cut
 rw [k9]
 cases s.findIdx? (fun x=>decide (x=c)) with
 | none=>simp
 | some k=>simp
def hd (b:UInt8):List (List UInt8)→List (List UInt8)
 | p :: ps=>(b :: p) :: ps
 | []=>[[b]]
def au (c:UInt8):List UInt8→List (List UInt8)
 | []=>[[]]
 | b :: l=>if b=c then [] :: au c l else hd b (au c l)
theorem gl (c b:UInt8) (l:List UInt8):au c (b :: l)=if b=c then [] :: au c l else hd b (au c l):=rfl
theorem xN (c:UInt8):∀ s,au c s≠[]
 | []=>by simp [au]
 | b :: l=>by
   rw [gl]; split
   . simp
   . cases au c l <;> simp [hd]
theorem oh (c:UInt8):∀ (s:List UInt8) (k:Nat),s.findIdx? (fun x=>decide (x=c))=some k→au c s=s.take k :: au c (s.drop (k + 1))
 | [],k,h=>by simp at h
 | b :: l,k,h=>by
   rw [List.findIdx?_cons] at h
   rw [gl]
   by_cases hb:b=c
   . subst hb; simp at h; subst h; simp
   . simp only [hb,decide_false,Bool.false_eq_true,if_false] at h ⊢
     cases hq:l.findIdx? (fun x=>decide (x=c)) with
     | none=>rw [hq] at h; simp at h
     | some j =>
       rw [hq] at h; simp at h; subst h
       rw [oh c l j hq]; simp [hd]
theorem kT (c:UInt8):∀ (s:List UInt8),s.findIdx? (fun x=>decide (x=c))=none→au c s=[s]
 | [],h=>rfl
 | b :: l,h=>by
   rw [List.findIdx?_cons] at h
   rw [gl]
   by_cases hb:b=c
   . subst hb; simp at h
   . simp only [hb,decide_false,Bool.false_eq_true,if_false] at h ⊢
     cases hq:l.findIdx? (fun x=>decide (x=c)) with
     | none=>rw [kT c l hq]; rfl
     | some j=>rw [hq] at h; simp at h
theorem qS (c:UInt8):∀ (k:Nat) (s:List UInt8),s.count c=k→Lib.splitK [c] 0 k s=au c s:=by
 intro k
 induction k with
 | zero =>
   intro s h
   have:s.findIdx? (fun x=>decide (x=c))=none:=by
     rw [List.findIdx?_eq_none_iff]
     intro x hx
     rw [List.count_eq_zero] at h
     simp only [decide_eq_false_iff_not]
     rintro rfl; exact h hx
   rw [kT c s this]; rfl
 | succ k ih =>
   intro s h
   unfold Lib.splitK
   rw [k9]
   cases hq:s.findIdx? (fun x=>decide (x=c)) with
   | none =>
     rw [List.findIdx?_eq_none_iff] at hq
     have:c∈s:=by rw [← List.count_pos_iff]; omega
     have:=hq c this
     simp at this
   | some j =>
     have:((j:Int) == -1)=false:=by rw [beq_eq_false_iff_ne]; omega
     simp only [this,Bool.false_eq_true,if_false,Int.toNat_natCast,Nat.add_zero,List.length_cons,List.length_nil,Nat.zero_add]
     rw [oh c s j hq]
     have e:(s.drop (j + 1)).count c=k:=by
       obtain ⟨hj,h1,h2⟩:=List.findIdx?_eq_some_iff_getElem.1 hq
       have e1:s=s.take j++s[j] :: s.drop (j + 1):=by rw [List.getElem_cons_drop,List.take_append_drop]
       have e2:(s.take j).count c=0:=by
         rw [List.count_eq_zero]
         intro hm
         obtain ⟨i,hi,e⟩:=List.getElem_of_mem hm
         have hij:i < j:=by rw [List.length_take] at hi; omega
         have:=h2 i hij
         rw [List.getElem_take] at e
         simp [e] at this
       have e3:s[j]=c:=by simpa using h1
       have e4:=congrArg (List.count c) e1
       rw [List.count_append,e2,e3,List.count_cons_self] at e4
       omega
     rw [ih _ e]
theorem jg (c:UInt8):∀ (p s:List UInt8),c∉p→au c (p++c :: s)=p :: au c s
 | [],s,h=>by simp [au]
 | b :: p,s,h=>by
   have hb:b≠c:=fun e=>h (by simp [e])
   rw [List.cons_append,gl,if_neg hb,jg c p s (fun e=>h (by simp [e]))]; rfl
theorem xv (c:UInt8) (p:List UInt8) (h:c∉p):au c p=[p]:=by
 refine kT c p ?_
 rw [List.findIdx?_eq_none_iff]
 intro x hx
 simp only [decide_eq_false_iff_not]
 rintro rfl; exact h hx
def ae (c:UInt8):List (List UInt8)→List UInt8
 | []=>[]
 | p :: ps=>p++ps.flatMap (c :: ·)
theorem r7 (c:UInt8) (l:List (List UInt8)) (x:List UInt8):ae c (l++[x])=if l=[] then x else ae c l++c :: x:=by
 cases l with
 | nil=>simp [ae]
 | cons p ps=>simp [ae]
theorem ol (c:UInt8) (p q:List UInt8) (ps:List (List UInt8)):ae c (p :: q :: ps)=p++c :: ae c (q :: ps):=by simp [ae]
theorem kW (c:UInt8):∀ (l:List (List UInt8)),l≠[]→(∀ p∈l,c∉p)→au c (ae c l)=l
 | [],h,_=>absurd rfl h
 | [p],_,h=>by simp only [ae,List.flatMap_nil,List.append_nil]; exact xv c p (h p (by simp))
 | p :: q :: ps,_,h=>by
   rw [ol,jg c p _ (h p (by simp)),kW c (q :: ps) (by simp) (fun x hx=>h x (by simp at hx ⊢; exact .inr hx))]
theorem rV (c:UInt8):∀ (l:List (List UInt8)),Lib.join l [c]=ae c l
 | []=>by simp [Lib.join,ae]
 | [p]=>by simp [Lib.join,ae,List.intercalate]
 | p :: q :: ps=>by
   have ih:=rV c (q :: ps)
   rw [ol,← ih]
   simp [Lib.join,List.intercalate]
def lst (l:List Int):List UInt8:=ae 44 (l.map text)
end Nu
end
open Go.RowKit
theorem ya (xa xb:List Int) (hn:xa.length≤1073741824):eY xa xb=some (decide (xa=xb)):=by
 unfold eY
 by_cases hl:xa.length=xb.length
 . rw [iq hl,cond_false,oc (body:=kH xa xb) xa xb (.inr false) (.inl ()) hl ?_ ?_]
   . by_cases h:xa=xb <;> simp [h]
   . intro k h; unfold kH
     have h2:k < xb.length:=by omega
     by_cases q:xa[k]=xb[k] <;> simp [an h,an h2,h,q,aq h (by omega)]
   . simp [kH]
 . rw [uW hl,cond_true]
   have:¬ xa=xb:=fun h=>hl (by rw [h])
   simp [this]
set_option linter.unnecessarySimpa false
set_option linter.unusedSimpArgs false
section
open Go.RowKit Nu
theorem An (c:UInt8) (h:a8 c=true):IntKind.wrap .i64 (IntKind.wrap .u8 (((c.toNat:Nat):Int) - 48))=(dig c:Int)∧dig c < 10:=by
 unfold a8 at h; simp only [Bool.and_eq_true,decide_eq_true_eq] at h
 have e:IntKind.wrap .u8 (((c.toNat:Nat):Int) - 48)=(((c.toNat:Nat):Int) - 48) % 256:=IntKind.wrap_u8' _
 have e2:(((c.toNat:Nat):Int) - 48) % 256=((c.toNat:Nat):Int) - 48:=Int.emod_eq_of_lt (by omega) (by omega)
 rw [e,e2,w64 (by omega) (by omega)]
 unfold dig; omega
theorem AE {s:List UInt8} (h:cP s=true):s.all a8=true:=by unfold cP at h; rw [Bool.and_eq_true] at h; exact h.1
theorem A8 {s:List UInt8} (h:cP s=true):s≠[]:=by rintro rfl; simp [cP] at h
theorem yq {s:List UInt8} {k:Nat} (h:k < s.length):val (s.take (k + 1))=val (s.take k) * 10 + dig s[k]:=by rw [bY h,ta]
theorem AZ (c:UInt8):(decide ((((c.toNat:Nat):Int)) < 48)||decide (57 < (((c.toNat:Nat):Int)))) = !a8 c:=by
 unfold a8
 rw [Bool.eq_iff_iff]
 simp only [Bool.or_eq_true,decide_eq_true_eq,Bool.not_eq_true',Bool.and_eq_false_iff,decide_eq_false_iff_not]; omega
theorem zF {s:List UInt8} {β:Type} {body:Int→Option (Int⊕β)} (hit e:β) (hn:s.length≤1000000)
   (hb:∀ i:Int,body i=cond (decide (i < (((s.length:Nat):Int)))) ((aa s i).bind fun x=>(cond (decide ((((x.toNat:Nat):Int)) < 48)) (some (true)) ((aa s i).bind fun x=>some (decide (57 < (((x.toNat:Nat):Int)))))).bind fun t=>cond (t) (some (.inr hit)) (some (.inl (IntKind.wrap .i64 (i + 1))))) (some (.inr e))) :
   loop body 0=some (if s.all a8 then e else hit):=by
 have h:=jk (body:=body) s (fun c=>!a8 c) hit e (fun k hk=>by
   rw [hb,dlt hk,cond_true,an hk,Option.bind_some,aq hk (by omega)]
   rw [← AZ]
   by_cases h1:(((s[k].toNat:Nat):Int)) < 48
   . simp only [h1,decide_true,cond_true,Option.bind_some,Bool.true_or,if_true]
   . simp only [h1,decide_false,cond_false,Option.bind_some,Bool.false_or]
     by_cases h2:57 < (((s[k].toNat:Nat):Int)) <;> simp [h2]) (by rw [hb,dge (by omega),cond_false])
 rw [h]
 congr 1
 cases ha:s.all a8 with
 | true =>
   have:s.any (fun c=>!a8 c)=false:=by rw [List.any_eq_false]; intro x hx; simp [List.all_eq_true.1 ha x hx]
   rw [this]; rfl
 | false =>
   have:s.any (fun c=>!a8 c)=true:=by
     rw [List.all_eq_false] at ha
     obtain ⟨x,hx,h⟩:=ha
     exact List.any_eq_true.2 ⟨x,hx,by simpa using h⟩
   rw [this]; rfl
theorem Bx {s:List UInt8} (h:0 < s.length):aa s 0=some (s[0]'h):=an (k:=0) h
theorem AW {s:List UInt8} (h:0 < s.length):decide ((((s[0]'h).toNat:Nat):Int)=48)=decide (s.head? = some 48):=by
 cases s with
 | nil=>simp at h
 | cons b l =>
   simp only [List.getElem_cons_zero,List.head?_cons,Option.some.injEq]
   by_cases hb:b=48
   . subst hb; rfl
   . have:¬ ((b.toNat:Nat):Int)=48:=fun e=>hb (by apply UInt8.toNat_inj.1; simpa using Int.ofNat.inj e)
     simp [hb,this]
theorem wM (s:List UInt8) (hn:s.length≤1000000):kw s=some (cP s):=by
 unfold kw
 by_cases h0:s=[]
 . subst h0; rfl
 have hp:0 < s.length:=List.length_pos_iff.2 h0
 have hl:=zF (s:=s) (body:=qD s) (.inr false) (.inl ()) hn (fun i=>rfl)
 have he:decide (s=([]:List UInt8))=false:=by simp [h0]
 rw [he,cond_false]
 by_cases h1:1 < s.length
 . have e1:decide (1 < (((s.length:Nat):Int)))=true:=by simp; omega
   rw [e1,cond_true,Bx hp]
   simp only [Option.bind_some,AW hp]
   unfold cP
   have e2:¬ s.length=1:=by omega
   by_cases h2:s.head? = some 48
   . simp [h2,e2]
   . simp only [h2,decide_false,cond_false,hl,e2,h1,decide_true,Bool.false_or,Bool.true_and,Bool.not_false,Bool.and_true]
     cases s.all a8 <;> simp
 . have e1:decide (1 < (((s.length:Nat):Int)))=false:=by simp; omega
   rw [e1,cond_false]
   simp only [Option.bind_some,cond_false,hl]
   unfold cP
   have e2:s.length=1:=by omega
   simp only [e2,decide_true,Bool.true_or,Bool.and_true]
   cases s.all a8 <;> simp
theorem jo (s:List UInt8) (most:Int) (hn:s.length≤1000000) (hm : -9223372036854775808≤most) (hm2:most≤9223372036854775807):dY s most=some (aT s most):=by
 unfold dY
 rw [wM s hn]
 unfold aT
 cases hs:cP s with
 | false=>simp
 | true =>
   have ha:=AE hs
   simp only [Option.bind_some,Bool.not_true,cond_false,if_true]
   have h:=fv (body:=dw s most) (fun k=>most < (val (s.take (k + 1)):Int)) (fun k:Nat=>(((val (s.take k):Nat):Int),(k:Int))) s.length (fun _ => .inr (0,5)) (.inl ((val s:Nat):Int))
   have step:∀ k,k < s.length→(∀ j,j < k→¬ most < (val (s.take (j + 1)):Int))→dw s most (((val (s.take k):Nat):Int),(k:Int))=if most < (val (s.take (k + 1)):Int) then some (.inr (.inr (0,5))) else some (.inl ((((val (s.take (k + 1)):Nat):Int),((k + 1:Nat):Int)))):=by
     intro k hk hprev
     obtain ⟨b1,b2⟩:=An s[k] (List.all_eq_true.1 ha _ (List.getElem_mem hk))
     have hv:=yq hk
     have hpre:k=0∨((val (s.take k):Nat):Int)≤most:=by
       rcases Nat.eq_zero_or_pos k with h | h
       . exact .inl h
       . right
         have:=hprev (k - 1) (by omega)
         rw [show k - 1 + 1=k by omega] at this
         omega
     have hz:k=0→val (s.take k)=0:=fun e=>by subst e; rfl
     unfold dw
     simp only [dlt hk,cond_true,an hk,Option.bind_some,b1]
     rw [hv]
     by_cases h1:most < (dig s[k]:Int)
     . have:most < ((val (s.take k) * 10 + dig s[k]:Nat):Int):=by omega
       rw [if_pos this]; simp [h1]
     . have e1:IntKind.wrap .i64 (most - (dig s[k]:Int))=most - (dig s[k]:Int):=w64 (by omega) (by omega)
       have e2:Int.tdiv (most - (dig s[k]:Int)) 10=(most - (dig s[k]:Int)) / 10:=Int.tdiv_eq_ediv_of_nonneg (by omega)
       have e3:IntKind.wrap .i64 ((most - (dig s[k]:Int)) / 10)=(most - (dig s[k]:Int)) / 10:=w64 (by omega) (by omega)
       rw [e1,e2,e3]
       by_cases h2:most < ((val (s.take k) * 10 + dig s[k]:Nat):Int)
       . have:(most - (dig s[k]:Int)) / 10 < ((val (s.take k):Nat):Int):=by omega
         rw [if_pos h2]; simp [this]
       . have:¬ (most - (dig s[k]:Int)) / 10 < ((val (s.take k):Nat):Int):=by omega
         rw [if_neg h2]
         have w1:IntKind.wrap .i64 (((val (s.take k):Nat):Int) * 10)=((val (s.take k):Nat):Int) * 10:=w64 (by omega) (by omega)
         have w2:IntKind.wrap .i64 (((val (s.take k):Nat):Int) * 10 + (dig s[k]:Int))=((val (s.take k) * 10 + dig s[k]:Nat):Int):=by rw [w64 (by omega) (by omega)]; omega
         simp only [decide_eq_false h1,decide_eq_false this,Bool.or_self,cond_false,w1,w2,aq hk (by omega)]
   rcases aS (fun k=>most < (val (s.take (k + 1)):Int)) s.length with ⟨k,hk,hp,hmin⟩ | hall
   . have hl:loop (dw s most) (0,0)=some (.inr (0,5)):=by
       have:=cB (body:=dw s most) (fun k:Nat=>(((val (s.take k):Nat):Int),(k:Int))) k (b := .inr (0,5)) (fun j hj=>by rw [step j (by omega) (fun i hi=>hmin i (by omega)),if_neg (hmin j hj)]) (by rw [step k hk hmin,if_pos hp])
       exact this
     rw [hl]
     have h9:most < ((val s:Nat):Int):=by have:=wS s (k + 1); omega
     simp [h9]
   . have hl:loop (dw s most) (0,0)=some (.inl ((val s:Nat):Int)):=by
       have:=cB (body:=dw s most) (fun k:Nat=>(((val (s.take k):Nat):Int),(k:Int))) s.length (b := .inl ((val s:Nat):Int)) (fun j hj=>by rw [step j hj (fun i hi=>hall i (by omega)),if_neg (hall j hj)]) (by
         unfold dw
         simp only [dge (show ¬ s.length < s.length by omega),cond_false,List.take_length])
       exact this
     rw [hl]
     have h9:¬ most < ((val s:Nat):Int):=by
       have hp:0 < s.length:=List.length_pos_iff.2 (A8 hs)
       have:=hall (s.length - 1) (by omega)
       rw [show s.length - 1 + 1=s.length by omega,List.take_length] at this
       exact this
     simp [h9]
theorem pP {d:Nat} (h:d < 10):IntKind.wrap .u8 (IntKind.wrap .i64 (48 + (d:Int)))=((48 + d:Nat):Int):=by
 rw [w64 (by omega) (by omega)]
 have e:IntKind.wrap .u8 (48 + (d:Int))=(48 + (d:Int)) % 256:=IntKind.wrap_u8' _
 rw [e,Int.emod_eq_of_lt (by omega) (by omega)]; omega
theorem xB:∀ (k n a:Nat) (l:List Int),n < 10 ^ (k + 1)→n≤9223372036854775807→k < a→a≤20→l.length=20→loop iy ((n:Int),l,(a:Int))=some (dec n++bq (l.drop a)):=by
 intro k
 induction k with
 | zero =>
   intro n a l hn hb ha ha2 hl
   have h10:n < 10:=by simpa using hn
   have e0:IntKind.wrap .i64 ((a:Int) - 1)=((a - 1:Nat):Int):=by rw [w64 (by omega) (by omega)]; omega
   have e1:Int.tmod (n:Int) 10=(n:Int):=by rw [Int.tmod_eq_emod_of_nonneg (by omega)]; omega
   have e2:Int.tdiv (n:Int) 10=0:=by rw [Int.tdiv_eq_ediv_of_nonneg (by omega)]; omega
   refine cC ?_
   unfold iy
   have hs:subL (l.set (a - 1) ((48 + n:Nat):Int)) ((a - 1:Nat):Int) (((20:Nat):Int))=some (((48 + n:Nat):Int) :: l.drop a):=by
     rw [da (by omega) (by omega) (by rw [List.length_set,hl]; omega)]
     simp only [Int.toNat_natCast]
     rw [List.take_of_length_le (by rw [List.length_set,hl]; omega),List.drop_eq_getElem_cons (by rw [List.length_set]; omega),List.getElem_set_self,List.drop_set_of_lt (by omega),show a - 1 + 1=a by omega]
   simp only [e0,an (show a - 1 < l.length by omega),Option.bind_some,e1,pP h10,e2,Int.toNat_natCast,show IntKind.wrap .i64 0=0 from rfl,decide_true,cond_true,hs]
   rw [bG h10]
   simp only [bq,List.map_cons,Int.toNat_natCast]; rfl
 | succ k ih =>
   intro n a l hn hb ha ha2 hl
   by_cases h10:n < 10
   . have e0:IntKind.wrap .i64 ((a:Int) - 1)=((a - 1:Nat):Int):=by rw [w64 (by omega) (by omega)]; omega
     have e1:Int.tmod (n:Int) 10=(n:Int):=by rw [Int.tmod_eq_emod_of_nonneg (by omega)]; omega
     have e2:Int.tdiv (n:Int) 10=0:=by rw [Int.tdiv_eq_ediv_of_nonneg (by omega)]; omega
     refine cC ?_
     unfold iy
     have hs:subL (l.set (a - 1) ((48 + n:Nat):Int)) ((a - 1:Nat):Int) (((20:Nat):Int))=some (((48 + n:Nat):Int) :: l.drop a):=by
       rw [da (by omega) (by omega) (by rw [List.length_set,hl]; omega)]
       simp only [Int.toNat_natCast]
       rw [List.take_of_length_le (by rw [List.length_set,hl]; omega),List.drop_eq_getElem_cons (by rw [List.length_set]; omega),List.getElem_set_self,List.drop_set_of_lt (by omega),show a - 1 + 1=a by omega]
     simp only [e0,an (show a - 1 < l.length by omega),Option.bind_some,e1,pP h10,e2,Int.toNat_natCast,show IntKind.wrap .i64 0=0 from rfl,decide_true,cond_true,hs]
     rw [bG h10]
     simp only [bq,List.map_cons,Int.toNat_natCast]; rfl
   . have e0:IntKind.wrap .i64 ((a:Int) - 1)=((a - 1:Nat):Int):=by rw [w64 (by omega) (by omega)]; omega
     have e1:Int.tmod (n:Int) 10=((n % 10:Nat):Int):=by rw [Int.tmod_eq_emod_of_nonneg (by omega)]; omega
     have e2:IntKind.wrap .i64 (Int.tdiv (n:Int) 10)=((n / 10:Nat):Int):=by rw [Int.tdiv_eq_ediv_of_nonneg (by omega),w64 (by omega) (by omega)]; omega
     have e3:decide (((n / 10:Nat):Int)=0)=false:=by simp; omega
     rw [fi (s':=(((n / 10:Nat):Int),l.set (a - 1) ((48 + n % 10:Nat):Int),((a - 1:Nat):Int))),ih (n / 10) (a - 1) _ (by rw [Nat.pow_succ] at hn; omega) (by omega) (by omega) (by omega) (by rw [List.length_set,hl])]
     . rw [ek h10,List.drop_eq_getElem_cons (by rw [List.length_set]; omega),List.getElem_set_self,List.drop_set_of_lt (by omega),show a - 1 + 1=a by omega]
       simp only [bq,List.map_cons,Int.toNat_natCast,List.append_assoc]; rfl
     . unfold iy
       simp only [e0,an (show a - 1 < l.length by omega),Option.bind_some,e1,pP (show n % 10 < 10 by omega),e2,e3,Int.toNat_natCast,cond_false]
theorem bZ (n:Int) (h:n≤9223372036854775807):be n=some (text n):=by
 unfold be text
 by_cases h0:n < 0
 . simp [h0]
 . obtain ⟨m,rfl⟩:=Int.eq_ofNat_of_zero_le (show 0≤n by omega)
   rw [if_neg h0,decide_eq_false h0,cond_false]
   have:=xB 18 m 20 [0,0,0,0,0,0,0,0,0,0,0,0,0,0,0,0,0,0,0,0] (by omega) (by omega) (by omega) (by omega) rfl
   rw [show ((20:Nat):Int)=20 from rfl] at this
   rw [this]
   simp [bq]
theorem pH {d:Nat} (h:d < 10):subL ([48,49,50,51,52,53,54,55,56,57]:List UInt8) (d:Int) (IntKind.wrap .i64 ((d:Int) + 1))=some [ch d]:=by
 have:d=0∨d=1∨d=2∨d=3∨d=4∨d=5∨d=6∨d=7∨d=8∨d=9:=by omega
 rcases this with h | h | h | h | h | h | h | h | h | h <;> subst h <;> decide
theorem xD:∀ (k n fuel:Nat),n < 10 ^ (k + 1)→k < 19→n≤9223372036854775807→k < fuel→dx fuel (n:Int)=some (dec n):=by
 intro k
 induction k with
 | zero =>
   intro n fuel hn hk hb hf
   have h10:n < 10:=by simpa using hn
   cases fuel with
   | zero=>omega
   | succ fuel =>
     unfold dx
     have e1:decide ((n:Int) < 0)=false:=decide_eq_false (by omega)
     have e2:decide ((n:Int) < 10)=true:=by simp; omega
     simp only [e1,e2,cond_true,cond_false,pH h10,Option.bind_some]
     rw [bG h10]
 | succ k ih =>
   intro n fuel hn hk hb hf
   cases fuel with
   | zero=>omega
   | succ fuel =>
     unfold dx
     have e1:decide ((n:Int) < 0)=false:=decide_eq_false (by omega)
     by_cases h10:n < 10
     . have e2:decide ((n:Int) < 10)=true:=by simp; omega
       simp only [e1,e2,cond_true,cond_false,pH h10,Option.bind_some]
       rw [bG h10]
     . have e2:decide ((n:Int) < 10)=false:=by simp; omega
       have e3:Int.tmod (n:Int) 10=((n % 10:Nat):Int):=by rw [Int.tmod_eq_emod_of_nonneg (by omega)]; omega
       have e4:IntKind.wrap .i64 (Int.tdiv (n:Int) 10)=((n / 10:Nat):Int):=by rw [Int.tdiv_eq_ediv_of_nonneg (by omega),w64 (by omega) (by omega)]; omega
       have e5:=tI k (n / 10) (by rw [Nat.pow_succ] at hn; omega)
       simp only [e1,e2,e3,e4,cond_false,pH (show n % 10 < 10 by omega),Option.bind_some,ih (n / 10) fuel (by rw [Nat.pow_succ] at hn; omega) (by omega) (by omega) (by omega)]
       rw [aj (by simp; omega)]
       simp only [Option.bind_some]
       rw [ek h10]
theorem cD (n:Int) (h:n≤9223372036854775807):bL n=some (text n):=by
 unfold bL text
 by_cases h0:n < 0
 . refine ur 1 (fun m hm=>?_)
   cases m with
   | zero=>omega
   | succ m=>unfold dx; simp [h0]
 . obtain ⟨m,rfl⟩:=Int.eq_ofNat_of_zero_le (show 0≤n by omega)
   rw [if_neg h0]
   exact ur 19 (fun f hf=>xD 18 m f (by omega) (by omega) (by omega) (by omega))
def pair (b:Int×Int):List UInt8:=if b.1 < 0∨b.2 < 0 then [] else text b.1++58 :: text b.2
theorem yX (b:Int×Int) (h1:b.1≤9223372036854775807) (h2:b.2≤9223372036854775807):iJ b=some (pair b):=by
 unfold iJ pair
 by_cases h:b.1 < 0∨b.2 < 0
 . rw [if_pos h]
   have:(decide (b.1 < 0)||decide (b.2 < 0))=true:=by simpa using h
   rw [this]; rfl
 . rw [if_neg h]
   have:(decide (b.1 < 0)||decide (b.2 < 0))=false:=by simp; omega
   have l1:=az h1; have l2:=az h2
   rw [this,cond_false,bZ _ h1,bZ _ h2]
   simp only [Option.bind_some]
   rw [aj (by simp; omega)]
   simp only [Option.bind_some]
   rw [aj (by simp; omega)]
   simp
theorem zd (b:Int×Int) (h1:b.1≤9223372036854775807) (h2:b.2≤9223372036854775807):iU b=some (pair b):=by
 unfold iU pair
 by_cases h:b.1 < 0∨b.2 < 0
 . rw [if_pos h]
   have:(decide (b.1 < 0)||decide (b.2 < 0))=true:=by simpa using h
   rw [this]; rfl
 . rw [if_neg h]
   have:(decide (b.1 < 0)||decide (b.2 < 0))=false:=by simp; omega
   have l1:=az h1; have l2:=az h2
   rw [this,cond_false,cD _ h1,cD _ h2]
   simp only [Option.bind_some]
   rw [aj (by simp; omega)]
   simp only [Option.bind_some]
   rw [aj (by simp; omega)]
   simp
theorem oI {l:List Int} (h:∀ x∈l,x≤9223372036854775807):(lst l).length≤l.length * 20:=by
 have key:∀ l:List Int,(∀ x∈l,x≤9223372036854775807)→(l.map text).flatMap (44 :: ·)=l.flatMap (fun x=>44 :: text x)∧(l.flatMap (fun x=>44 :: text x)).length≤l.length * 20:=by
   intro l
   induction l with
   | nil=>intro _; simp
   | cons x l ih =>
     intro h
     obtain ⟨i1,i2⟩:=ih (fun y hy=>h y (by simp [hy]))
     have:=az (h x (by simp))
     refine ⟨by simp [List.flatMap_map],?_⟩
     simp only [List.flatMap_cons,List.length_append,List.length_cons]; omega
 unfold lst
 cases l with
 | nil=>simp [ae]
 | cons x l =>
   obtain ⟨i1,i2⟩:=key l (fun y hy=>h y (by simp [hy]))
   have:=az (h x (by simp))
   simp only [List.map_cons,ae,i1,List.length_append,List.length_cons]; omega
theorem sF (l:List Int) (x:Int):lst (l++[x])=if l=[] then text x else lst l++44 :: text x:=by
 unfold lst; rw [List.map_append,List.map_singleton,r7]; simp
theorem uJ {a b:List UInt8} (h:a.length + b.length≤100000):wrS a b=some (a++b):=by unfold wrS; rw [aj (by omega)]
theorem xR (l:List Int) (hl:l.length≤1000) (h:∀ x∈l,x≤9223372036854775807):iK l=some (lst l):=by
 unfold iK
 have key:=cB (body:=ix l) (fun k:Nat=>((k:Int),lst (l.take k))) l.length (b:=lst l) ?_ ?_
 . have:loop (ix l) (0,([]:List UInt8))=some (lst l):=key
   rw [this]; rfl
 . intro k hk
   have hx:=h l[k] (List.getElem_mem hk)
   have hlen:=oI (l:=l.take k) (fun x hx=>h x (List.mem_of_mem_take hx))
   have hlt:(l.take k).length=k:=by rw [List.length_take]; omega
   have tl:=az hx
   unfold ix
   simp only [dlt hk,cond_true,an hk,Option.bind_some,bZ _ hx,aq hk (by omega)]
   rw [bY hk,sF]
   by_cases h0:k=0
   . subst h0
     simp only [List.take_zero,if_true,show ((0:Nat):Int)=0 from rfl,show decide ((0:Int) < 0)=false from rfl,cond_false]
     have:lst []=[]:=rfl
     rw [this,uJ (by simp; omega)]; rfl
   . have e1:decide ((0:Int) < (k:Int))=true:=by simp; omega
     have e2:¬ l.take k=[]:=by rw [← List.length_eq_zero_iff]; omega
     rw [e1,cond_true,if_neg e2]
     have e3:wrB (lst (l.take k)) 44=some (lst (l.take k)++[44]):=by unfold wrB; rw [if_pos (by omega),aj (by simp; omega)]; rfl
     rw [e3]
     simp only [Option.bind_some]
     rw [uJ (by simp; omega)]
     simp
 . unfold ix
   simp only [dge (show ¬ l.length < l.length by omega),cond_false,List.take_length]
theorem zb (l:List Int) (hl:l.length≤100) (h:∀ x∈l,x≤9223372036854775807):iK l=some (lst l):=xR l (by omega) h
theorem zm (l:List Int) (hl:l.length≤100) (h:∀ x∈l,x≤9223372036854775807):kO l=some (lst l):=by
 unfold kO
 have key:=cB (body:=iB l) (fun k:Nat=>(lst (l.take k),(k:Int))) l.length (b:=lst l) ?_ ?_
 . have:loop (iB l) (([]:List UInt8),0)=some (lst l):=key
   rw [this]; rfl
 . intro k hk
   have hx:=h l[k] (List.getElem_mem hk)
   have hlen:=oI (l:=l.take k) (fun x hx=>h x (List.mem_of_mem_take hx))
   have hlt:(l.take k).length=k:=by rw [List.length_take]; omega
   have tl:=az hx
   unfold iB
   simp only [dlt hk,cond_true,an hk,Option.bind_some,cD _ hx,aq hk (by omega)]
   rw [bY hk,sF]
   by_cases h0:k=0
   . subst h0
     simp only [List.take_zero,if_true,show ((0:Nat):Int)=0 from rfl,show decide ((0:Int) < 0)=false from rfl,cond_false,Option.bind_some]
     have:lst []=[]:=rfl
     rw [this,aj (by simp; omega)]; rfl
   . have e1:decide ((0:Int) < (k:Int))=true:=by simp; omega
     have e2:¬ l.take k=[]:=by rw [← List.length_eq_zero_iff]; omega
     rw [e1,cond_true,if_neg e2,aj (by simp; omega)]
     simp only [Option.bind_some]
     rw [aj (by simp; omega)]
     simp
 . unfold iB
   simp only [dge (show ¬ l.length < l.length by omega),cond_false,List.take_length]
end
section
open Go.RowKit Nu
def two (a b:List UInt8) (most:Int):Int×Int×Int :=
 if (aT a most).2≠0 then (0,0,(aT a most).2) else if (aT b most).2≠0 then (0,0,(aT b most).2) else ((aT a most).1,(aT b most).1,0)
def fA (s:List UInt8) (most:Int):Int×Int×Int:=match s.findIdx? (fun x=>decide (x=58)) with | some k=>two (s.take k) (s.drop (k + 1)) most | none=>(0,0,3)
theorem yK {α:Type} {s:List α} {k n:Nat} (h:s.length≤n):(s.take k).length≤n:=by rw [List.length_take]; omega
theorem yE {α:Type} {s:List α} {k n:Nat} (h:s.length≤n):(s.drop k).length≤n:=by rw [List.length_drop]; omega
theorem wU (s:List UInt8) (most:Int) (hn:s.length≤1000000) (hm : -9223372036854775808≤most) (hm2:most≤9223372036854775807):kv s most=some (fA s most):=by
 unfold kv j8 fA
 rw [if_pos (by omega),zB]
 cases s.findIdx? (fun x=>decide (x=58)) with
 | none=>rfl
 | some k =>
   simp only [Option.bind_some,Bool.not_true,cond_false,jo _ most (yK (k:=k) hn) hm hm2,jo _ most (yE (k:=k + 1) hn) hm hm2]
   unfold two
   by_cases h1:(aT (s.take k) most).2=0
   . by_cases h2:(aT (s.drop (k + 1)) most).2=0 <;> simp [h1,h2]
   . simp [h1]
def bT (most:Int):List (List UInt8)→List Int→List Int×Int
 | [],acc=>(acc,0)
 | p :: ps,acc=>if (aT p most).2≠0 then ([],(aT p most).2) else bT most ps (acc++[(aT p most).1])
def jw (s:List UInt8) (most:Int):List Int×Int:=if s=[] then ([],0) else bT most (au 44 s) []
theorem jf (c:UInt8):∀ s,(au c s).length≤s.length + 1
 | []=>by simp [au]
 | b :: l=>by
   have:=jf c l
   rw [gl]; split
   . simp; omega
   . cases hq:au c l with
     | nil=>simp [hd]
     | cons p ps=>rw [hq] at this; simp [hd] at this ⊢; omega
theorem q9 (c:UInt8) (n:Nat):∀ s,s.length≤n→∀ p∈au c s,p.length≤n:=by
 intro s hs p hp
 have key:∀ s:List UInt8,∀ p∈au c s,p.length≤s.length:=by
   intro s
   induction s with
   | nil=>intro p hp; simp [au] at hp; subst hp; simp
   | cons b l ih =>
     intro p hp
     rw [gl] at hp
     split at hp
     . rcases List.mem_cons.1 hp with rfl | hp
       . simp
       . have:=ih p hp; simp; omega
     . cases hq:au c l with
       | nil=>exact absurd hq (xN c l)
       | cons q qs =>
         rw [hq] at hp ih
         rcases List.mem_cons.1 hp with rfl | hp
         . have:=ih q (by simp); simp; omega
         . have:=ih p (by simp [hp]); simp; omega
 have:=key s p hp
 omega
theorem yd (most:Int) (l:List (List UInt8)) (hl:l.length≤1000001) (hs:∀ p∈l,p.length≤1000000) (hm : -9223372036854775808≤most) (hm2:most≤9223372036854775807) :
   ∀ (m k:Nat) (acc:List Int),k + m=l.length→acc.length=k→loop (ir most l) (acc,(k:Int))=some (if (bT most (l.drop k) acc).2=0 then .inl (bT most (l.drop k) acc).1 else .inr (bT most (l.drop k) acc)):=by
 intro m
 induction m with
 | zero =>
   intro k acc hk ha
   refine cC ?_
   unfold ir
   rw [List.drop_eq_nil_of_le (by omega)]
   simp only [dge (show ¬ k < l.length by omega),cond_false,bT,if_true]
 | succ m ih =>
   intro k acc hk ha
   have hk':k < l.length:=by omega
   have hp:=jo l[k] most (hs _ (List.getElem_mem hk')) hm hm2
   rw [List.drop_eq_getElem_cons hk']
   by_cases h1:(aT l[k] most).2=0
   . have e:bT most (l[k] :: l.drop (k + 1)) acc=bT most (l.drop (k + 1)) (acc++[(aT l[k] most).1]):=by simp [bT,h1]
     rw [e,fi (s':=(acc++[(aT l[k] most).1],((k + 1:Nat):Int))),ih (k + 1) _ (by omega) (by simp [ha])]
     unfold ir
     simp only [dlt hk',cond_true,an hk',Option.bind_some,hp,aq hk' (by omega),h1,decide_true,Bool.not_true,cond_false]
     rw [aj (by simp; omega)]
     rfl
   . have e:bT most (l[k] :: l.drop (k + 1)) acc=([],(aT l[k] most).2):=by simp [bT,h1]
     rw [e]
     simp only [h1,if_false]
     refine cC ?_
     unfold ir
     simp only [dlt hk',cond_true,an hk',Option.bind_some,hp,h1,decide_false,Bool.not_false]
theorem xp (s:List UInt8) (most:Int) (hn:s.length≤1000000) (hm : -9223372036854775808≤most) (hm2:most≤9223372036854775807):iu s most=some (jw s most):=by
 unfold iu jw
 by_cases h0:s=[]
 . subst h0; rfl
 . rw [if_neg h0,decide_eq_false h0,cond_false]
   have e:cJ s [44]=some (au 44 s):=by
     unfold cJ
     rw [if_pos ⟨by omega,by simp⟩,Lib.splitB_data]
     congr 1
     show Lib.splitK [44] 0 (Lib.count s [44]) s=_
     rw [Lib.count_one]
     exact qS 44 _ s rfl
   rw [e]
   have:=yd most (au 44 s) (by have:=jf 44 s; omega) (q9 44 _ s hn) hm hm2 (au 44 s).length 0 [] (by omega) rfl
   rw [show ((0:Nat):Int)=0 from rfl,List.drop_zero] at this
   simp only [Option.bind_some]
   rw [this]
   by_cases h1:(bT most (au 44 s) []).2=0
   . simp only [h1,if_true,Option.bind_some]; rw [← h1]
   . simp only [h1,if_false,Option.bind_some]
theorem d58:a8 58=false:=rfl
theorem d44:a8 44=false:=rfl
theorem Ae {c:UInt8} {a b:List UInt8} (h:c∉a):(a++c :: b).findIdx? (fun x=>decide (x=c))=some a.length:=by
 rw [List.findIdx?_eq_some_iff_getElem]
 refine ⟨by simp,by simp,fun j hj=>?_⟩
 rw [List.getElem_append_left hj]
 simp only [Bool.not_eq_true,decide_eq_false_iff_not]
 intro e; exact h (e ▸ List.getElem_mem hj)
theorem wq {b:Int×Int} {most:Int} (h1:0≤b.1) (h2:0≤b.2) (m1:b.1≤most) (m2:b.2≤most):fA (pair b) most=(b.1,b.2,0):=by
 unfold fA pair
 rw [if_neg (by omega),Ae (dI d58)]
 simp only [List.take_left,List.drop_append,Nat.add_sub_cancel_left]
 have e:(text b.1).drop ((text b.1).length + 1)=[]:=List.drop_eq_nil_of_le (by omega)
 rw [e]
 have p1:=kX h1 most; have p2:=kX h2 most
 rw [if_neg (by omega)] at p1 p2
 unfold two
 simp [p1,p2]
theorem ru (most:Int):∀ (l acc:List Int),(∀ x∈l,0≤x∧x≤most)→bT most (l.map text) acc=(acc++l,0)
 | [],acc,_=>by simp [bT]
 | x :: l,acc,h=>by
   have hx:=h x (by simp)
   have p1:=kX hx.1 most
   rw [if_neg (by omega)] at p1
   rw [List.map_cons]
   unfold bT
   rw [p1]
   simp only [ne_eq,not_true_eq_false,if_false]
   rw [ru most l _ (fun y hy=>h y (by simp [hy]))]
   simp
theorem wF {l:List Int} {most:Int} (h:∀ x∈l,0≤x∧x≤most):jw (lst l) most=(l,0):=by
 unfold jw
 by_cases hl:l=[]
 . subst hl; rfl
 . have hne:l.map text≠[]:=by simpa using hl
   have hp:au 44 (lst l)=l.map text:=kW 44 _ hne (fun p hp=>by obtain ⟨x,_,rfl⟩:=List.mem_map.1 hp; exact dI d44)
   have hnn:lst l≠[]:=by
     intro e
     rw [e] at hp
     cases l with
     | nil=>exact hl rfl
     | cons x l =>
       simp only [au,List.map_cons,List.cons.injEq] at hp
       have:text x=[]:=hp.1.symm
       have h0:=(h x (by simp)).1
       unfold text at this
       rw [if_neg (by omega)] at this
       exact lX _ this
   rw [if_neg hnn,hp,ru most l [] h]; simp
end
abbrev St:=Int×Bool
def shp (xa xb:List St):Bool:=decide (xa.map (·.2)=xb.map (·.2))
theorem wP (xa xb:List St) {body:Int→Option (Int⊕(Unit⊕Bool))} (hl:xa.length=xb.length) (hb:∀ (k:Nat) (h:k < xa.length),body (k:Int)=some (if xa[k].2=(xb[k]'(by omega)).2 then .inl ((k + 1:Nat):Int) else .inr (.inr false))) (he:body (xa.length:Int)=some (.inr (.inl ()))) :
   loop body 0=some (if shp xa xb then .inl () else .inr false):=by
 have:=oc (body:=body) (xa.map (·.2)) (xb.map (·.2)) (.inr false) (.inl ()) (by simp [hl]) (fun k h=>by simpa using hb k (by simpa using h)) (by simpa using he)
 rw [this]; unfold shp
 by_cases h:xa.map (·.2)=xb.map (·.2) <;> simp [h]
theorem zC {xa xb:List St} (h:¬ xa.length=xb.length):shp xa xb=false:=by
 unfold shp; simp only [decide_eq_false_iff_not]
 intro e; exact h (by simpa using congrArg List.length e)
theorem oH {xa xb:List St} (h:shp xa xb=true):xa.length=xb.length:=by
 unfold shp at h; simpa using congrArg List.length (of_decide_eq_true h)
theorem li (xa xb:List St):shp xa xb=shp xb xa:=by unfold shp; simp only [eq_comm]
theorem pI (xa:List St) (n:Int):fd xa n=some (decide ((xa.length:Int)≤n)):=rfl
theorem jd (xa xb:List St) (hn:xa.length≤1073741824):dZ xa xb=some (shp xa xb):=by
 unfold dZ
 by_cases hl:xa.length=xb.length
 . rw [iq hl,cond_false,wP xa xb hl ?_ ?_]
   . cases shp xa xb <;> rfl
   . intro k h; unfold nD
     have h2:k < xb.length:=by omega
     by_cases q:xa[k].2=xb[k].2 <;> simp [an h,an h2,h,q,aq h (by omega),zz]
   . simp [nD]
 . rw [uW hl,cond_true,zC hl]
theorem xO (xa:List St) (n:Int) (m:Bool) (hn:xa.length≤1000000000):kR xa n m=some ((n,false) :: xa.map fun x=>(x.1,x.2||m)):=by
 unfold kR
 have:=yL xa (fun x:St=>(x.1,x.2||m)) [(n,false)] (by simp; omega) (body:=nP xa m) (fun c i=>by
   unfold nP
   cases hg:aa xa i with
   | none=>simp [hg]
   | some x=>cases h2:x.2 <;> simp [hg,h2])
 rw [this]; rfl
def rin (n:Int) (xa:List St):Bool:=xa.any fun x=>decide (x.1 < 0)||decide (n≤x.1)
def rck (n:Int) (xa:List St):Int:=if 16 < xa.length then 6 else if rin n xa then 7 else 0
def sbs (xb:List Int) (x:St):St:=(xb.getD x.1.toNat 0,x.2)
theorem pm {xb:List Int} {i:Int} (h:0≤i) (h2:i < (xb.length:Nat)):aa xb i=some (xb.getD i.toNat 0):=by
 unfold aa; rw [if_pos h]
 have:i.toNat < xb.length:=by omega
 simp [this]
theorem kV (xa:List St) (n:Int):eW xa n=some (rck n xa):=by
 unfold eW rck
 by_cases h:16 < xa.length
 . rw [decide_eq_true (by omega),if_pos h]; rfl
 . rw [decide_eq_false (by omega),if_neg h,cond_false]
   rw [jk (body:=kF xa n) xa (fun x=>decide (x.1 < 0)||decide (n≤x.1)) (.inr 7) (.inl ()) ?_ ?_]
   . unfold rin; cases (xa.any fun x=>decide (x.1 < 0)||decide (n≤x.1)) <;> rfl
   . intro k hk
     unfold kF
     by_cases q:xa[k].1 < 0 <;> by_cases q2:n≤xa[k].1 <;> simp [hk,an hk,aq hk (by omega:xa.length≤9223372036854775807),q,q2]
   . simp [kF]
theorem n5 (xa:List St) (xb:List Int) (hn:xa.length≤1073741824):iN xa xb=some (if rin xb.length xa then ([],7) else (xa.map (sbs xb),0)):=by
 unfold iN
 have hl:=fv (body:=iz xa xb)
   (fun k=>∃ x,xa[k]? = some x∧(x.1 < 0∨(xb.length:Int)≤x.1)) (fun k:Nat=>((xa.take k).map (sbs xb),(k:Int))) xa.length (fun _ => .inr ([],7)) (.inl (xa.map (sbs xb))) ?_ ?_ ?_
 . simp only [List.take_zero,List.map_nil] at hl
   rcases hl with ⟨k,h1,⟨x,h2,h2'⟩,_,h3⟩ | ⟨h1,h3⟩
   . have:rin xb.length xa=true:=List.any_eq_true.2 ⟨x,List.mem_of_getElem? h2,by simpa using h2'⟩
     rw [this]; erw [h3]; rfl
   . have:rin xb.length xa=false:=by
       cases hh:rin xb.length xa with
       | false=>rfl
       | true =>
         obtain ⟨x,h4,h5⟩:=List.any_eq_true.1 hh
         obtain ⟨k,h6,rfl⟩:=List.getElem_of_mem h4
         exact absurd ⟨xa[k],by simp [h6],by simpa using h5⟩ (h1 k h6)
     rw [this]; erw [h3]; rfl
 . intro k hk hp
   have hx:¬ (xa[k].1 < 0∨(xb.length:Int)≤xa[k].1):=fun h=>hp ⟨_,by simp [hk],h⟩
   have h1:((decide (xa[k].1 < 0))||(decide (((xb.length:Nat):Int)≤xa[k].1)))=false:=by simp; omega
   have ha:=aj (a:=(xa.take k).map (sbs xb)) (b:=[sbs xb xa[k]]) (by simp; omega)
   have h5:aa xb xa[k].1=some (xb.getD xa[k].1.toNat 0):=pm (by omega) (by omega)
   unfold iz
   dsimp only
   simp only [Option.bind_some,an hk,h1,cond_false,h5,Int.ofNat_lt.2 hk,decide_true,cond_true,aq hk (by omega:xa.length≤9223372036854775807)]
   rw [show app ((xa.take k).map (sbs xb)) [(xb.getD xa[k].1.toNat 0,xa[k].2)]=_ from ha,List.take_succ_eq_append_getElem hk,List.map_append]
   rfl
 . rintro k hk ⟨x,h1,h2⟩
   have hx:xa[k]=x:=by rw [List.getElem?_eq_getElem hk] at h1; exact Option.some.inj h1
   have h1:((decide (xa[k].1 < 0))||(decide (((xb.length:Nat):Int)≤xa[k].1)))=true:=by rw [hx]; simpa using h2
   unfold iz
   dsimp only
   simp only [Option.bind_some,an hk,h1,cond_true,Int.ofNat_lt.2 hk,decide_true]
 . simp [iz]
section
open Go.RowKit Nu
theorem oF {c:UInt8} {l:List (List UInt8)} (h:(ae c l).length≤140737488355328) (h2:l.length≤140737488355328):dM l [c]=some (ae c l):=by
 unfold dM; rw [rV,if_pos ⟨h,h2⟩]
theorem lC (c:UInt8) (n:Nat):∀ (l:List (List UInt8)),(∀ p∈l,p.length≤n)→(ae c l).length≤l.length * (n + 1):=by
 intro l h
 cases l with
 | nil=>simp [ae]
 | cons p ps =>
   have key:∀ ps:List (List UInt8),(∀ p∈ps,p.length≤n)→(ps.flatMap (c :: ·)).length≤ps.length * (n + 1):=by
     intro ps
     induction ps with
     | nil=>intro _; simp
     | cons q qs ih =>
       intro hq
       have h1:=ih (fun x hx=>hq x (by simp [hx]))
       have h2:=hq q (by simp)
       simp only [List.flatMap_cons,List.length_append,List.length_cons,Nat.succ_mul]; omega
   have h1:=key ps (fun x hx=>h x (by simp [hx]))
   have h2:=h p (by simp)
   show (p++ps.flatMap (c :: ·)).length≤_
   rw [List.length_append,List.length_cons,Nat.succ_mul]; omega
def aE (x:St):List UInt8:=text x.1++if x.2 then [33] else []
def tyW (t:List St):List UInt8:=if t=[] then [45] else ae 47 (t.map aE)
def liW (l:List Int):List UInt8:=if l=[] then [45] else lst l
abbrev I64 (n:Int):Prop:=n≤9223372036854775807
theorem ou {x:St} (h:I64 x.1):(aE x).length≤20:=by
 have:=az h; unfold aE; split <;> simp <;> omega
theorem tW {t:List St} (h:∀ x∈t,I64 x.1):(tyW t).length≤t.length * 21 + 1:=by
 unfold tyW; split
 . simp
 . have:=lC 47 20 (t.map aE) (fun p hp=>by obtain ⟨x,hx,rfl⟩:=List.mem_map.1 hp; exact ou (h x hx))
   rw [List.length_map] at this; omega
theorem db {l:List Int} (h:∀ x∈l,I64 x):(liW l).length≤l.length * 20 + 1:=by
 unfold liW; split
 . simp
 . have:=oI h; omega
theorem dl0 {α:Type} (t:List α):decide (((t.length:Nat):Int)=0)=decide (t=[]):=by
 cases t <;> simp; omega
theorem jG (t:List St) (hn:t.length≤100000) (h:∀ x∈t,I64 x.1):dz t=some (tyW t):=by
 unfold dz tyW
 rw [dl0]
 by_cases h0:t=[]
 . rw [if_pos h0,decide_eq_true h0]; rfl
 . rw [if_neg h0,decide_eq_false h0,cond_false]
   have hc:=kY (body:=iL t) t (fun k=>(t.take k).map aE) (t.map aE) (fun k hk=>by
     unfold iL
     have hx:=h t[k] (List.getElem_mem hk)
     have hl:=az hx
     simp only [dlt hk,cond_true,an hk,Option.bind_some,bZ _ hx,aq hk (by omega)]
     have hll:((t.take k).map aE).length≤100000:=by rw [List.length_map,List.length_take]; omega
     rw [bY hk,List.map_append,List.map_singleton]
     generalize (t.take k).map aE=G at hll
     cases hb:t[k].2 with
     | true =>
       simp only [cond_true]
       rw [aj (by simp; omega)]
       simp only [Option.bind_some]
       rw [aj (by simp; omega)]
       simp [aE,hb]
     | false =>
       simp only [cond_false,Option.bind_some]
       rw [aj (by simp; omega)]
       simp [aE,hb]) (by unfold iL; simp only [dge (show ¬ t.length < t.length by omega),cond_false,List.take_length])
   rw [show loop (iL t) ([],0)=some (t.map aE) from hc]
   simp only [Option.bind_some]
   have hg:=lC 47 20 (t.map aE) (fun p hp=>by obtain ⟨x,hx,rfl⟩:=List.mem_map.1 hp; exact ou (h x hx))
   rw [List.length_map] at hg
   rw [oF (by omega) (by simp; omega)]; rfl
theorem lu (t:List St) (hn:t.length≤100000) (h:∀ x∈t,I64 x.1):eZ t=some (tyW t):=by
 unfold eZ tyW
 rw [dl0]
 by_cases h0:t=[]
 . rw [if_pos h0,decide_eq_true h0]; rfl
 . rw [if_neg h0,decide_eq_false h0,cond_false]
   have hc:=kY (body:=iC t) t (fun k=>ae 47 ((t.take k).map aE)) (ae 47 (t.map aE)) (fun k hk=>by
     unfold iC
     have hx:=h t[k] (List.getElem_mem hk)
     have hl:=az hx
     have hg:=lC 47 20 ((t.take k).map aE) (fun p hp=>by obtain ⟨x,hx,rfl⟩:=List.mem_map.1 hp; exact ou (h x (List.mem_of_mem_take hx)))
     rw [List.length_map,List.length_take] at hg
     have hg':(ae 47 ((t.take k).map aE)).length≤2200000:=by omega
     simp only [dlt hk,cond_true,an hk,Option.bind_some,cD _ hx,aq hk (by omega)]
     rw [bY hk,List.map_append,List.map_singleton,r7]
     rcases Nat.eq_zero_or_pos k with hk0 | hk0
     . subst hk0
       simp only [List.take_zero,List.map_nil,if_true,show ((0:Nat):Int)=0 from rfl,show decide ((0:Int) < 0)=false from rfl,cond_false,Option.bind_some,show ae 47 []=[] from rfl]
       rw [aj (by simp; omega)]
       cases hb:t[0].2 with
       | true =>
         simp only [Option.bind_some,cond_true]
         rw [aj (by simp; omega)]
         simp [aE,hb]
       | false=>simp [aE,hb]
     . have e1:decide ((0:Int) < (k:Int))=true:=by simp; omega
       have e2:¬ (t.take k).map aE=[]:=by
         intro e; have:=congrArg List.length e; rw [List.length_map,List.length_take] at this; rw [List.length_nil] at this; omega
       rw [e1,cond_true,if_neg e2]
       clear hg e2
       generalize ae 47 ((t.take k).map aE)=G at hg'
       rw [aj (by simp; omega)]
       simp only [Option.bind_some]
       rw [aj (by simp; omega)]
       cases hb:t[k].2 with
       | true =>
         simp only [Option.bind_some,cond_true]
         rw [aj (by simp; omega)]
         simp [aE,hb]
       | false=>simp [aE,hb]) (by unfold iC; simp only [dge (show ¬ t.length < t.length by omega),cond_false,List.take_length])
   rw [show loop (iC t) ([],0)=some (ae 47 (t.map aE)) from hc]; rfl
theorem pF (l:List Int) (hl:l.length≤100) (h:∀ x∈l,I64 x):dA l=some (liW l):=by
 unfold dA liW
 rw [dl0]
 by_cases h0:l=[]
 . rw [if_pos h0,decide_eq_true h0]; rfl
 . rw [if_neg h0,decide_eq_false h0,cond_false,zb l hl h]; rfl
theorem po (l:List Int) (hl:l.length≤100) (h:∀ x∈l,I64 x):dy l=some (liW l):=by
 unfold dy liW
 rw [dl0]
 by_cases h0:l=[]
 . rw [if_pos h0,decide_eq_true h0]; rfl
 . rw [if_neg h0,decide_eq_false h0,cond_false,zm l hl h]; rfl
abbrev Wd:=List UInt8
abbrev bS:=Int×Int×Int×Int×Bool
abbrev cv:=Int×Int×Int×List Int×List Int×List Int
def fV:Wd:=[110,111,112]
def fZ:Wd:=[97,115,115,105,103,110]
def co:Wd:=[98,111,114,114,111,119]
def cI:Wd:=[114,101,98,111,114,114,111,119]
def fX:Wd:=[117,115,101]
def fM:Wd:=[100,101,97,100]
def bg:Wd:=[109,117,116]
def gW:Wd:=[103,111,116,111]
def kSw:Wd:=[115,119,105,116,99,104]
def fY:Wd:=[114,101,116,117,114,110]
def er:Wd:=[99,97,108,108]
def aL (x:bS):List Wd :=
 if x.1=0 then [fV] else if x.1=1 then [fZ,text x.2.1,text x.2.2.1] else if x.1=2 then [co,text x.2.1,text x.2.2.1,text x.2.2.2.1]++(if x.2.2.2.2 then [bg] else [])
 else if x.1=3 then [cI,text x.2.1,text x.2.2.1,text x.2.2.2.1]++(if x.2.2.2.2 then [bg] else []) else if x.1=4 then [fX,text x.2.2.1] else if x.1=5 then [fM,text x.2.1] else [[63]]
def bW (x:cv):List Wd :=
 if x.1=1 then [gW,liW x.2.2.2.1] else if x.1=2 then [kSw,liW x.2.2.2.1,liW x.2.2.2.2.1] else if x.1=3 then [fY]
 else if x.1=4 then [er,text x.2.1,text x.2.2.1,liW x.2.2.2.1,liW x.2.2.2.2.2,liW x.2.2.2.2.1] else [[63]]
theorem b7 {l:List Wd} (h:(ae 32 l).length≤1000000000) (h2:l.length≤1000000000):dM l [32]=some (ae 32 l):=oF (by omega) (by omega)
theorem uL (w:Wd) (x:bS) (hw:w.length≤100) (h1:I64 x.2.1) (h2:I64 x.2.2.1) (h3:I64 x.2.2.2.1):fc w x=some (ae 32 ([w,text x.2.1,text x.2.2.1,text x.2.2.2.1]++if x.2.2.2.2 then [bg] else [])):=by
 unfold fc aN
 have l1:=az h1; have l2:=az h2; have l3:=az h3
 simp only [bZ _ h1,bZ _ h2,bZ _ h3,Option.bind_some]
 cases x.2.2.2.2 with
 | true =>
   simp only [cond_true]
   rw [aj (by simp)]
   simp only [Option.bind_some]
   rw [b7 (by simp [ae]; omega) (by simp)]; rfl
 | false =>
   simp only [cond_false]
   rw [b7 (by simp [ae]; omega) (by simp)]; rfl
theorem uw (x:bS) (h1:I64 x.2.1) (h2:I64 x.2.2.1) (h3:I64 x.2.2.2.1):fg x=some (ae 32 (aL x)):=by
 unfold fg aL
 have l1:=az h1; have l2:=az h2
 have b1:=uL [98,111,114,114,111,119] x (by simp) h1 h2 h3
 have b2:=uL [114,101,98,111,114,114,111,119] x (by simp) h1 h2 h3
 simp only [bZ _ h1,bZ _ h2,Option.bind_some]
 by_cases c0:x.1=0
 . simp only [c0,decide_true,cond_true,if_true]; rfl
 rw [decide_eq_false c0,cond_false,if_neg c0]
 by_cases c1:x.1=1
 . simp only [c1,decide_true,cond_true,if_true,aN]
   rw [b7 (by simp [ae]; omega) (by simp)]; rfl
 rw [decide_eq_false c1,cond_false,if_neg c1]
 by_cases c2:x.1=2
 . rw [decide_eq_true c2,cond_true,if_pos c2,show fc [98,111,114,114,111,119] (x.1,x.2.1,x.2.2.1,x.2.2.2.1,x.2.2.2.2)=_ from b1]; rfl
 rw [decide_eq_false c2,cond_false,if_neg c2]
 by_cases c3:x.1=3
 . rw [decide_eq_true c3,cond_true,if_pos c3,show fc [114,101,98,111,114,114,111,119] (x.1,x.2.1,x.2.2.1,x.2.2.2.1,x.2.2.2.2)=_ from b2]; rfl
 rw [decide_eq_false c3,cond_false,if_neg c3]
 by_cases c4:x.1=4
 . simp only [c4,decide_true,cond_true,if_true,aN]
   rw [b7 (by simp [ae]; omega) (by simp)]; rfl
 rw [decide_eq_false c4,cond_false,if_neg c4]
 by_cases c5:x.1=5
 . simp only [c5,decide_true,cond_true,if_true,aN]
   rw [b7 (by simp [ae]; omega) (by simp)]; rfl
 rw [decide_eq_false c5,cond_false,if_neg c5]; rfl
theorem zp (x:bS) (h1:I64 x.2.1) (h2:I64 x.2.2.1) (h3:I64 x.2.2.2.1):iS x=some (ae 32 (aL x)):=by
 unfold iS aL
 have l1:=az h1; have l2:=az h2; have l3:=az h3
 simp only [cD _ h1,cD _ h2,cD _ h3,Option.bind_some]
 have hm:(cond x.2.2.2.2 (some ([32,109,117,116]:List UInt8)) (some []))=some (if x.2.2.2.2 then 32 :: bg else []):=by cases x.2.2.2.2 <;> rfl
 rw [hm]
 have lm:(if x.2.2.2.2=true then 32 :: bg else ([]:List UInt8)).length≤4:=by cases x.2.2.2.2 <;> simp [bg]
 simp only [Option.bind_some]
 generalize hq:(if x.2.2.2.2=true then 32 :: bg else ([]:List UInt8))=q at lm
 by_cases c0:x.1=0
 . simp only [c0,decide_true,cond_true,if_true]; rfl
 rw [decide_eq_false c0,cond_false,if_neg c0]
 by_cases c1:x.1=1
 . rw [decide_eq_true c1,cond_true,if_pos c1,aj (by simp; omega)]
   simp only [Option.bind_some]
   rw [aj (by simp; omega)]
   simp only [Option.bind_some]
   rw [aj (by simp; omega)]
   simp [ae,fZ]
 rw [decide_eq_false c1,cond_false,if_neg c1]
 by_cases c2:x.1=2
 . rw [decide_eq_true c2,cond_true,if_pos c2,aj (by simp; omega)]
   simp only [Option.bind_some]
   rw [aj (by simp; omega)]
   simp only [Option.bind_some]
   rw [aj (by simp; omega)]
   simp only [Option.bind_some]
   rw [aj (by simp; omega)]
   simp only [Option.bind_some]
   rw [aj (by simp; omega)]
   simp only [Option.bind_some]
   rw [aj (by simp; omega)]
   subst hq
   cases x.2.2.2.2 <;> simp [ae,co,bg]
 rw [decide_eq_false c2,cond_false,if_neg c2]
 by_cases c3:x.1=3
 . rw [decide_eq_true c3,cond_true,if_pos c3,aj (by simp; omega)]
   simp only [Option.bind_some]
   rw [aj (by simp; omega)]
   simp only [Option.bind_some]
   rw [aj (by simp; omega)]
   simp only [Option.bind_some]
   rw [aj (by simp; omega)]
   simp only [Option.bind_some]
   rw [aj (by simp; omega)]
   simp only [Option.bind_some]
   rw [aj (by simp; omega)]
   subst hq
   cases x.2.2.2.2 <;> simp [ae,cI,bg]
 rw [decide_eq_false c3,cond_false,if_neg c3]
 by_cases c4:x.1=4
 . rw [decide_eq_true c4,cond_true,if_pos c4,aj (by simp; omega)]
   simp [ae,fX]
 rw [decide_eq_false c4,cond_false,if_neg c4]
 by_cases c5:x.1=5
 . rw [decide_eq_true c5,cond_true,if_pos c5,aj (by simp; omega)]
   simp [ae,fM]
 rw [decide_eq_false c5,cond_false,if_neg c5]; rfl
structure TmS (x:cv):Prop where
 sig:I64 x.2.1
 dst:I64 x.2.2.1
 nto:x.2.2.2.1.length≤30
 args:x.2.2.2.2.1.length≤30
 par:x.2.2.2.2.2.length≤30
 hto:∀ n∈x.2.2.2.1,I64 n
 hargs:∀ n∈x.2.2.2.2.1,I64 n
 hpar:∀ n∈x.2.2.2.2.2,I64 n
theorem AF (x:cv) (h:TmS x):iZ x=some (ae 32 (bW x)):=by
 unfold iZ bW
 have l1:=az h.sig; have l2:=az h.dst; have l3:=db h.hto; have l4:=db h.hargs; have l5:=db h.hpar
 have p1:=h.nto; have p2:=h.args; have p3:=h.par
 simp only [bZ _ h.sig,bZ _ h.dst,pF _ (show x.2.2.2.1.length≤100 by omega) h.hto,pF _ (show x.2.2.2.2.1.length≤100 by omega) h.hargs,pF _ (show x.2.2.2.2.2.length≤100 by omega) h.hpar,Option.bind_some,aN]
 by_cases c1:x.1=1
 . rw [decide_eq_true c1,cond_true,if_pos c1,b7 (by simp [ae]; omega) (by simp)]; rfl
 rw [decide_eq_false c1,cond_false,if_neg c1]
 by_cases c2:x.1=2
 . rw [decide_eq_true c2,cond_true,if_pos c2,b7 (by simp [ae]; omega) (by simp)]; rfl
 rw [decide_eq_false c2,cond_false,if_neg c2]
 by_cases c3:x.1=3
 . rw [decide_eq_true c3,cond_true,if_pos c3]; rfl
 rw [decide_eq_false c3,cond_false,if_neg c3]
 by_cases c4:x.1=4
 . rw [decide_eq_true c4,cond_true,if_pos c4,b7 (by simp [ae]; omega) (by simp)]; rfl
 rw [decide_eq_false c4,cond_false,if_neg c4]; rfl
theorem zq (x:cv) (h:TmS x):iX x=some (ae 32 (bW x)):=by
 unfold iX bW
 have l1:=az h.sig; have l2:=az h.dst; have l3:=db h.hto; have l4:=db h.hargs; have l5:=db h.hpar
 have p1:=h.nto; have p2:=h.args; have p3:=h.par
 simp only [cD _ h.sig,cD _ h.dst,po _ (show x.2.2.2.1.length≤100 by omega) h.hto,po _ (show x.2.2.2.2.1.length≤100 by omega) h.hargs,po _ (show x.2.2.2.2.2.length≤100 by omega) h.hpar,Option.bind_some]
 by_cases c1:x.1=1
 . rw [decide_eq_true c1,cond_true,if_pos c1,aj (by simp; omega)]
   simp [ae,gW]
 rw [decide_eq_false c1,cond_false,if_neg c1]
 by_cases c2:x.1=2
 . rw [decide_eq_true c2,cond_true,if_pos c2,aj (by simp; omega)]
   simp only [Option.bind_some]
   rw [aj (by simp; omega)]
   simp only [Option.bind_some]
   rw [aj (by simp; omega)]
   simp [ae,kSw]
 rw [decide_eq_false c2,cond_false,if_neg c2]
 by_cases c3:x.1=3
 . rw [decide_eq_true c3,cond_true,if_pos c3]; rfl
 rw [decide_eq_false c3,cond_false,if_neg c3]
 by_cases c4:x.1=4
 . rw [decide_eq_true c4,cond_true,if_pos c4,aj (by simp; omega)]
   simp only [Option.bind_some]
   rw [aj (by simp; omega)]
   simp only [Option.bind_some]
   rw [aj (by simp; omega)]
   simp only [Option.bind_some]
   rw [aj (by simp; omega)]
   simp only [Option.bind_some]
   rw [aj (by simp; omega)]
   simp only [Option.bind_some]
   rw [aj (by simp; omega)]
   simp only [Option.bind_some]
   rw [aj (by simp; omega)]
   simp only [Option.bind_some]
   rw [aj (by simp; omega)]
   simp only [Option.bind_some]
   rw [aj (by simp; omega)]
   simp [ae,er]
 rw [decide_eq_false c4,cond_false,if_neg c4]; rfl
def pSl (p:Wd):St×Int:=let i:=decide (p.getLast? = some 33); let r:=aT (if i then p.dropLast else p) 1048576; ((r.1,i),r.2)
def pgo:List Wd→List St→List St×Int
 | [],acc=>(acc,0)
 | p :: ps,acc=>if (pSl p).2≠0 then ([],(pSl p).2) else pgo ps (acc++[(pSl p).1])
def pTy (s:Wd):List St×Int:=if s=[45] then ([],0) else pgo (au 47 s) []
theorem AQ (x:Wd) (c:UInt8) (h:0 < x.length):x.drop (x.length - 1)=[x[x.length - 1]]∧x.getLast? = some x[x.length - 1]∧x.take (x.length - 1)=x.dropLast:=by
 refine ⟨?_,?_,?_⟩
 . rw [List.drop_eq_getElem_cons (by omega),List.drop_eq_nil_of_le (by omega)]
 . rw [List.getLast?_eq_getElem?,List.getElem?_eq_getElem (by omega)]
 . rw [List.dropLast_eq_take]
theorem vk (x:Wd) (hn:x.length≤1000000):ku x [33]=some (if decide (x.getLast? = some 33) then x.dropLast else x,decide (x.getLast? = some 33)):=by
 unfold ku ni nh
 by_cases h0:x=[]
 . subst h0; rfl
 . have hp:0 < x.length:=List.length_pos_iff.2 h0
   obtain ⟨q1,q2,q3⟩:=AQ x 33 hp
   have e1:decide (((([33]:List UInt8).length:Nat):Int)≤(((x.length:Nat):Int)))=true:=by simp; omega
   have e2:IntKind.wrap .i64 ((((x.length:Nat):Int)) - ((([33]:List UInt8).length:Nat):Int))=((x.length - 1:Nat):Int):=by
     simp only [List.length_cons,List.length_nil]; rw [w64 (by omega) (by omega)]; omega
   simp only [e1,e2,cond_true]
   rw [da (by omega) (by omega) (by omega),da (by omega) (by omega) (by omega)]
   simp only [Option.bind_some,Int.toNat_natCast,List.take_length,q1,q2,q3,show ((0:Int).toNat)=0 from rfl,List.drop_zero]
   by_cases hc:x[x.length - 1]=33
   . simp [hc]
   . simp [hc]
theorem yc {s:Wd} (hn:s.length≤1000000):∀ p∈au 47 s,p.length≤1000000:=q9 47 _ s hn
theorem wB {x:Wd} {n:Nat} (h:x.length≤n):x.dropLast.length≤n:=by rw [List.length_dropLast]; omega
theorem Ah {x:Wd} {n:Nat} {b:Bool} (h:x.length≤n):(if b=true then x.dropLast else x).length≤n:=by split; exact wB h; exact h
theorem pd (c:UInt8) (s:Wd) (hn:s.length≤4000000):cJ s [c]=some (au c s):=by
 unfold cJ
 rw [if_pos ⟨by omega,by simp⟩,Lib.splitB_data]
 congr 1
 show Lib.splitK [c] 0 (Lib.count s [c]) s=_
 rw [Lib.count_one]
 exact qS c _ s rfl
theorem zw (l:List Wd) (hl:l.length≤1000001) (hs:∀ p∈l,p.length≤1000000):∀ (m k:Nat) (acc:List St),k + m=l.length→acc.length=k →
   loop (iv l) ((k:Int),acc)=some (if (pgo (l.drop k) acc).2=0 then .inl (pgo (l.drop k) acc).1 else .inr (pgo (l.drop k) acc)):=by
 intro m
 induction m with
 | zero =>
   intro k acc hk ha
   refine cC ?_
   unfold iv
   rw [List.drop_eq_nil_of_le (by omega)]
   simp only [dge (show ¬ k < l.length by omega),cond_false,pgo,if_true]
 | succ m ih =>
   intro k acc hk ha
   have hk':k < l.length:=by omega
   have hx:=hs _ (List.getElem_mem hk')
   have hp:=jo (if decide (l[k].getLast? = some 33)=true then l[k].dropLast else l[k]) 1048576 (Ah hx) (by omega) (by omega)
   rw [List.drop_eq_getElem_cons hk']
   by_cases h1:(pSl l[k]).2=0
   . have e:pgo (l[k] :: l.drop (k + 1)) acc=pgo (l.drop (k + 1)) (acc++[(pSl l[k]).1]):=by simp [pgo,h1]
     rw [e,fi (s':=(((k + 1:Nat):Int),acc++[(pSl l[k]).1])),ih (k + 1) _ (by omega) (by simp [ha])]
     unfold iv
     simp only [dlt hk',cond_true,an hk',Option.bind_some,vk _ hx,hp,aq hk' (by omega)]
     unfold pSl at h1
     simp only at h1
     rw [h1]
     simp only [decide_true,Bool.not_true,cond_false]
     rw [aj (by simp; omega)]
     rfl
   . have e:pgo (l[k] :: l.drop (k + 1)) acc=([],(pSl l[k]).2):=by simp [pgo,h1]
     rw [e]
     simp only [h1,if_false]
     refine cC ?_
     unfold iv
     simp only [dlt hk',cond_true,an hk',Option.bind_some,vk _ hx,hp]
     unfold pSl at h1 ⊢
     simp only at h1 ⊢
     rw [decide_eq_false h1]; rfl
theorem zN (s:Wd) (hn:s.length≤1000000):kB s=some (pTy s):=by
 unfold kB pTy
 by_cases h0:s=[45]
 . subst h0; rfl
 . rw [if_neg h0,decide_eq_false h0,cond_false,pd 47 s (by omega)]
   have:=zw (au 47 s) (by have:=jf 47 s; omega) (yc hn) (au 47 s).length 0 [] (by omega) rfl
   rw [show ((0:Nat):Int)=0 from rfl,List.drop_zero] at this
   simp only [Option.bind_some]
   rw [this]
   by_cases h1:(pgo (au 47 s) []).2=0
   . simp only [h1,if_true,Option.bind_some]; rw [← h1]
   . simp only [h1,if_false,Option.bind_some]
end
set_option maxRecDepth 20000
set_option linter.unusedSectionVars false
section
open Go.RowKit Nu
abbrev aQ:=Int×List (Int×Int)×List (List St)×List St
abbrev aY:=List bS×cv
abbrev PS:=Int×Int×List (Int×Int)×List (List St)×List St×List aQ×List aY×Int
abbrev R38:=Int×Int×List (Int×Int)×List (List St)×List St×List aQ×List aY×Int×Int
def gQ (ws:List Wd) (p:PS):Option (Int×PS):=du ws p.1 p.2.1 p.2.2.1 p.2.2.2.1 p.2.2.2.2.1 p.2.2.2.2.2.1 p.2.2.2.2.2.2.1 p.2.2.2.2.2.2.2
def wds (l:Wd):List Wd:=(au 32 l).filter (fun w=>!decide (w=[]))
def cS:List Wd→Bool
 | []=>true
 | w :: _=>decide (w.head? = some 35)
def bH (l:Wd) (p:PS):Option (Int×PS):=if cS (wds l) then some (0,p) else gQ (wds l) p
def g9 (p:PS):R38:=if p.2.2.2.2.2.2.2=3∨p.2.2.2.2.2.2.2=5∨p.2.2.2.2.2.2.2=7 then (p.1,p.2.1,p.2.2.1,p.2.2.2.1,p.2.2.2.2.1,p.2.2.2.2.2.1,p.2.2.2.2.2.2.1,0,0) else (0,0,[],[],[],[],[],0,14)
def g8:List Wd→PS→Int→Option R38
 | [],p,n=>some (g9 p)
 | l :: ls,p,n=>(bH l p).bind fun r=>if r.1=0 then g8 ls r.2 (n + 1) else some (0,0,[],[],[],[],[],n + 1,r.1)
theorem yx (l:List Wd) (hn:l.length≤4000000):kl l=some (match l.findIdx? (fun w=>decide (w=[])) with | some k=>(k:Int) | none=>-1):=by
 unfold kl
 rw [cW (body:=ki l) l (fun w=>decide (w=[])) (fun k => .inr (k:Int)) (.inl ()) (fun k hk=>by
   unfold ki iF
   simp only [dlt hk,cond_true,an hk,Option.bind_some,aq hk (by omega)]
   by_cases h:l[k]=[] <;> simp [h]) (by unfold ki; simp only [dge (show ¬ l.length < l.length by omega),cond_false])]
 cases l.findIdx? (fun w=>decide (w=[])) <;> rfl
theorem uk (l:List Wd) (hn:l.length≤4000000):f6 l=some (l.filter (fun w=>!decide (w=[]))):=by
 unfold f6
 rw [yx l hn,Option.bind_some]
 cases hf:l.findIdx? (fun w=>decide (w=[])) with
 | none =>
   have h:=List.findIdx?_eq_none_iff.1 hf
   have e:l.filter (fun w=>!decide (w=[]))=l:=List.filter_eq_self.2 (fun w hw=>by have:=h w hw; simpa using this)
   rw [e]; rfl
 | some k =>
   obtain ⟨hk,hp,hmin⟩:=List.findIdx?_eq_some_iff_getElem.1 hf
   have hpk:l[k]=[]:=by simpa using hp
   have hd:decide ((k:Int) = -1)=false:=decide_eq_false (by omega)
   dsimp only
   rw [hd,cond_false]
   have htk:(l.take k).filter (fun w=>!decide (w=[]))=l.take k:=List.filter_eq_self.2 (fun w hw=>by
     obtain ⟨j,hj,rfl⟩:=List.getElem_of_mem hw
     rw [List.length_take] at hj
     have:=hmin j (by omega)
     rw [List.getElem_take]; simpa using this)
   obtain ⟨b,hb,hq⟩:=yM (body:=m9) (fun s=>∃ i j:Nat,s.2.1=(i:Int)∧s.2.2=(j:Int)∧i < j∧j≤l.length∧s.1.length=l.length∧s.1.take i=(l.take j).filter (fun w=>!decide (w=[]))∧s.1.drop j=l.drop j) (fun s=>l.length - s.2.2.toNat)
     (Q:=fun b=>∃ i:Nat,b.2=(i:Int)∧i≤l.length∧b.1.length=l.length∧b.1.take i=l.filter (fun w=>!decide (w=[])))
     (fun s hs=>by
       obtain ⟨q,i',j'⟩:=s
       obtain ⟨i,j,rfl,rfl,hij,hj,hl,ht,hdr⟩:=hs
       dsimp only at hl ht hdr ⊢
       unfold m9 iF
       by_cases hjl:j < l.length
       . left
         have hjq:j < q.length:=by omega
         have hiq:i < q.length:=by omega
         have ej:q[j]=l[j]:=by
           have:=congrArg List.head? hdr
           rw [List.head?_drop,List.head?_drop,List.getElem?_eq_getElem hjq,List.getElem?_eq_getElem hjl] at this
           exact Option.some.inj this
         have w1:IntKind.wrap .i64 ((j:Int) + 1)=((j + 1:Nat):Int):=aq hjl (by omega)
         have w2:IntKind.wrap .i64 ((i:Int) + 1)=((i + 1:Nat):Int):=aq hiq (by omega)
         have hdr':q.drop (j + 1)=l.drop (j + 1):=by
           rw [← List.drop_drop (i:=1),hdr,List.drop_drop]
         simp only [dlt hjq,cond_true,an hjq,an hiq,Option.bind_some,w1,w2,Int.toNat_natCast]
         by_cases hz:l[j]=[]
         . rw [show decide (q[j]=[])=true from by rw [ej]; simp [hz]]
           refine ⟨(q,(i:Int),((j + 1:Nat):Int)),rfl,⟨i,j + 1,rfl,rfl,by omega,by omega,hl,?_,hdr'⟩,by dsimp only; omega⟩
           rw [bY hjl,List.filter_append,ht]
           simp [hz]
         . rw [show decide (q[j]=[])=false from by rw [ej]; simp [hz]]
           refine ⟨(q.set i q[j],((i + 1:Nat):Int),((j + 1:Nat):Int)),rfl,⟨i + 1,j + 1,rfl,rfl,by omega,by omega,by simp [hl],?_,?_⟩,by dsimp only; omega⟩
           . dsimp only
             rw [bY (by rw [List.length_set]; omega),List.take_set_of_le (by omega),ht,List.getElem_set_self,bY hjl,List.filter_append,ej]
             simp [hz]
           . dsimp only
             rw [List.drop_set_of_lt (by omega),hdr']
       . right
         have hjq:¬ j < q.length:=by omega
         have ejl:j=l.length:=by omega
         refine ⟨(q,(i:Int)),by simp only [dge hjq,cond_false],i,rfl,by omega,hl,?_⟩
         dsimp only; rw [ht,ejl,List.take_length])
     (s:=(l,(k:Int),IntKind.wrap .i64 ((k:Int) + 1))) ⟨k,k + 1,rfl,by dsimp only; exact aq hk (by omega),by omega,by omega,rfl,by rw [bY hk,List.filter_append,htk]; simp [hpk],rfl⟩
   obtain ⟨q,z⟩:=b
   obtain ⟨i,rfl,hi,hl,ht⟩:=hq
   dsimp only at hi hl ht
   rw [hb]
   simp only [Option.bind_some]
   rw [da (by omega) (by omega) (by omega)]
   simp only [Option.bind_some,Int.toNat_natCast]
   rw [da (by omega) (by omega) (by simp [cpy]; omega)]
   simp only [Option.bind_some,Int.toNat_natCast,show ((0:Int).toNat)=0 from rfl,List.drop_zero]
   unfold cpy
   rw [List.take_append_of_le_length (by rw [List.length_take]; omega),List.take_take,Nat.min_self,ht]
theorem tH (ws:List Wd):(cond (decide (((ws.length:Nat):Int)=0)) (some true) ((aa ws 0).bind fun x=>(dX x [35]).bind fun t=>some t))=some (cS ws):=by
 cases ws with
 | nil=>rfl
 | cons w ws =>
   have e1:decide ((((w :: ws).length:Nat):Int)=0)=false:=decide_eq_false (by simp; omega)
   have e2:aa (w :: ws) 0=some w:=rfl
   rw [e1,cond_false,e2,Option.bind_some]
   unfold dX nj cS
   cases w with
   | nil=>rfl
   | cons c w =>
     have e3:decide (((([35]:List UInt8).length:Nat):Int)≤(((c :: w).length:Nat):Int))=true:=by simp; omega
     rw [e3,cond_true,da (by omega) (by omega) (by simp; omega)]
     simp
def cG (p:PS) (n:Int) (s:Wd):Int×Int×List (Int×Int)×List (List St)×List St×List aQ×List aY×Int×Int×Wd:=(p.1,p.2.1,p.2.2.1,p.2.2.2.1,p.2.2.2.2.1,p.2.2.2.2.2.1,p.2.2.2.2.2.2.1,p.2.2.2.2.2.2.2,n,s)
theorem CO (s:Wd) (c:UInt8) (hn:s.length≤2000000):ib s [c]=some (match s.findIdx? (fun x=>decide (x=c)) with | some k=>(k:Int) | none=>-1):=by
 unfold ib; rw [if_pos (by omega)]; exact (congrArg some (k9 c s)).trans (by cases s.findIdx? (fun x=>decide (x=c)) <;> rfl)
theorem Aw:∀ (m:Nat) (s:Wd) (p:PS) (n:Nat) (r:R38),s.length≤m→n + m≤2000000→g8 (au 10 s) p n=some r →
   loop (eQ [10] 0) (cG p n s)=some (.inr r)∨∃ (p':PS) (n':Nat) (s':Wd),loop (eQ [10] 0) (cG p n s)=some (.inl (cG p' n' s'))∧n'≤2000000∧s'.length≤2000000∧g8 [s'] p' n'=some r:=by
 intro m
 induction m with
 | zero =>
   intro s p n r hs hn h
   right
   obtain rfl:s=[]:=List.length_eq_zero_iff.1 (by omega)
   refine ⟨p,n,[],cC ?_,by omega,by simp,h⟩
   unfold eQ cG
   rfl
 | succ m ih =>
   intro s p n r hs hn h
   have hx:=CO s 10 (by omega)
   cases hf:s.findIdx? (fun x=>decide (x=10)) with
   | none =>
     right
     rw [kT 10 s hf] at h
     rw [hf] at hx
     refine ⟨p,n,s,cC ?_,by omega,by omega,h⟩
     unfold eQ cG
     simp only [hx,Option.bind_some]
     rfl
   | some k =>
     obtain ⟨hk,_,_⟩:=List.findIdx?_eq_some_iff_getElem.1 hf
     rw [oh 10 s k hf] at h
     rw [hf] at hx
     dsimp only at hx
     have q1:IntKind.wrap .i64 ((k:Int) + 0)=(k:Int):=w64 (by omega) (by omega)
     have q2:IntKind.wrap .i64 ((k:Int) + ((([10]:List UInt8).length:Nat):Int))=((k + 1:Nat):Int):=aq hk (by omega)
     have q3:IntKind.wrap .i64 ((n:Int) + 1)=((n + 1:Nat):Int):=aq (n:=2000000) (by omega) (by omega)
     have hkl:(s.take k).length≤2000000:=by rw [List.length_take]; omega
     have hsp:=pd 32 (s.take k) (by omega)
     have hde:=uk (au 32 (s.take k)) (by have:=jf 32 (s.take k); omega)
     have hsub:subL s ((k + 1:Nat):Int) ((s.length:Nat):Int)=some (s.drop (k + 1)):=by rw [da (by omega) (by omega) (by omega)]; simp
     have hsub0:subL s 0 (k:Int)=some (s.take k):=by rw [da (by omega) (by omega) (by omega)]; simp
     obtain ⟨y,hy,h⟩:=ob h
     obtain ⟨e,p1⟩:=y
     unfold bH at hy
     have hbody:∀ (b:(Int×Int×List (Int×Int)×List (List St)×List St×List aQ×List aY×Int×Int×Wd)⊕((Int×Int×List (Int×Int)×List (List St)×List St×List aQ×List aY×Int×Int×Wd)⊕R38)),
         (if cS (wds (s.take k))=true then b = .inl (cG p ((n + 1:Nat):Int) (s.drop (k + 1))) else b=(if e=0 then .inl (cG p1 ((n + 1:Nat):Int) (s.drop (k + 1))) else .inr (.inr (0,0,[],[],[],[],[],((n + 1:Nat):Int),e)))) →
         eQ [10] 0 (cG p n s)=some b:=by
       intro b hb
       unfold eQ cG
       have hneg:decide ((k:Int) < 0)=false:=decide_eq_false (by omega)
       simp only [hx,Option.bind_some,hneg,cond_false,q1,q2,q3,hsub0,hsp,hde,hsub]
       rw [show (cond (decide (((((au 32 (s.take k)).filter (fun w=>!decide (w=[]))).length:Nat):Int)=0)) (some true) ((aa ((au 32 (s.take k)).filter (fun w=>!decide (w=[]))) 0).bind fun x=>(dX x [35]).bind fun t=>some t))=some (cS (wds (s.take k))) from tH _]
       cases hsk:cS (wds (s.take k)) with
       | true =>
         rw [hsk,if_pos rfl] at hb
         rw [hb]; rfl
       | false =>
         rw [hsk] at hb hy
         simp only [Bool.false_eq_true,if_false] at hb hy
         rw [hb]
         have hy':du ((au 32 (s.take k)).filter (fun w=>!decide (w=[]))) p.1 p.2.1 p.2.2.1 p.2.2.2.1 p.2.2.2.2.1 p.2.2.2.2.2.1 p.2.2.2.2.2.2.1 p.2.2.2.2.2.2.2=some (e,p1):=hy
         simp only [Option.bind_some,cond_false,hy']
         by_cases h0:e=0
         . simp only [h0,decide_true,Bool.not_true,cond_false,if_true]; rfl
         . simp only [h0,decide_false,Bool.not_false,cond_true,if_false]
     have hdl:(s.drop (k + 1)).length≤m:=by rw [List.length_drop]; omega
     by_cases h0:e=0
     . simp only [h0,if_true] at h
       have hp1:cS (wds (s.take k))=true→p1=p:=fun hsk=>by
         rw [if_pos hsk] at hy
         injection hy with hy
         exact (congrArg Prod.snd hy).symm
       have hb:=hbody (.inl (cG p1 ((n + 1:Nat):Int) (s.drop (k + 1)))) (by
         split
         . rename_i hsk; rw [hp1 hsk]
         . first | rfl | rw [if_pos h0])
       rw [fi hb]
       exact ih _ p1 (n + 1) r hdl (by omega) h
     . simp only [h0,if_false] at h
       injection h with h
       left
       have hns:¬ cS (wds (s.take k))=true:=fun hsk=>by
         rw [if_pos hsk] at hy
         injection hy with hy
         exact h0 (congrArg Prod.fst hy).symm
       have hb:=hbody (.inr (.inr r)) (by
         rw [if_neg hns,if_neg h0,← h]; rfl)
       exact cC hb
theorem tT (s:Wd) (r:R38) (hn:s.length≤1048576) (h:g8 (au 10 s) (0,0,[],[],[],[],[],0) 0=some r):d5 s=some r:=by
 unfold d5
 have e1:decide (1048576 < ((s.length:Nat):Int))=false:=decide_eq_false (by omega)
 rw [e1,cond_false]
 have e2:nt s [10]=some ([10],s,0):=rfl
 rw [e2,Option.bind_some]
 dsimp only
 rw [show decide (((([10]:List UInt8).length:Nat):Int)=0)=false from rfl,cond_false]
 have key:=Aw s.length s (0,0,[],[],[],[],[],0) 0 r (Nat.le_refl _) (by omega) h
 have hst:cG (0,0,[],[],[],[],[],0) ((0:Nat):Int) s=(0,0,[],[],[],[],[],0,0,s):=rfl
 rw [hst] at key
 rcases key with key | ⟨p,n,s',key,hn',hs',hr⟩
 . rw [key]; rfl
 . rw [key]
   unfold cG
   simp only [Option.bind_some]
   obtain ⟨y,hy,hr⟩:=ob hr
   obtain ⟨e,p1⟩:=y
   unfold bH at hy
   have q3:IntKind.wrap .i64 ((n:Int) + 1)=((n + 1:Nat):Int):=aq (n:=3000000) (by omega) (by omega)
   have hsp:=pd 32 s' (by omega)
   have hde:=uk (au 32 s') (by have:=jf 32 s'; omega)
   simp only [hsp,hde,Option.bind_some,q3]
   rw [show (cond (decide (((((au 32 s').filter (fun w=>!decide (w=[]))).length:Nat):Int)=0)) (some true) ((aa ((au 32 s').filter (fun w=>!decide (w=[]))) 0).bind fun x=>(dX x [35]).bind fun t=>some t))=some (cS (wds s')) from tH _]
   have fin:∀ p:PS,(((f7 p.1 p.2.1 p.2.2.1 p.2.2.2.1 p.2.2.2.2.1 p.2.2.2.2.2.1 p.2.2.2.2.2.2.1 p.2.2.2.2.2.2.2).bind fun (t5069,l5070,l5071,l5072,l5073,l5074)=>cond (!t5069) (some ((0,0,[],[],[],[],[],0,14))) (some ((p.1,p.2.1,l5070,l5071,l5072,l5073,l5074,0,0)))):Option R38)=some (g9 p):=by
     intro p
     unfold f7 g9
     simp only [Option.bind_some]
     by_cases hc:p.2.2.2.2.2.2.2=3∨p.2.2.2.2.2.2.2=5∨p.2.2.2.2.2.2.2=7
     . rw [if_pos hc]
       have:(decide (p.2.2.2.2.2.2.2=3)||decide (p.2.2.2.2.2.2.2=5)||decide (p.2.2.2.2.2.2.2=7))=true:=by simp only [Bool.or_eq_true,decide_eq_true_eq]; omega
       rw [this]; rfl
     . rw [if_neg hc]
       have:(decide (p.2.2.2.2.2.2.2=3)||decide (p.2.2.2.2.2.2.2=5)||decide (p.2.2.2.2.2.2.2=7))=false:=by simp only [Bool.or_eq_false_iff,decide_eq_false_iff_not]; omega
       rw [this]; rfl
   cases hsk:cS (wds s') with
   | true =>
     rw [hsk,if_pos rfl] at hy
     injection hy with hy
     obtain ⟨rfl,rfl⟩:0=e∧p=p1:=⟨congrArg Prod.fst hy,congrArg Prod.snd hy⟩
     simp only [if_true] at hr
     simp only [Option.bind_some,cond_true]
     rw [← hr]
     exact fin p
   | false =>
     rw [hsk] at hy
     simp only [Bool.false_eq_true,if_false] at hy
     have hy':du ((au 32 s').filter (fun w=>!decide (w=[]))) p.1 p.2.1 p.2.2.1 p.2.2.2.1 p.2.2.2.2.1 p.2.2.2.2.2.1 p.2.2.2.2.2.2.1 p.2.2.2.2.2.2.2=some (e,p1):=hy
     simp only [Option.bind_some,cond_false,hy']
     by_cases h0:e=0
     . simp only [h0,if_true] at hr
       simp only [h0,decide_true,Bool.not_true,cond_false]
       rw [← hr]
       exact fin p1
     . simp only [h0,if_false] at hr
       simp only [h0,decide_false,Bool.not_false,cond_true]
       rw [← hr]; rfl
def rdL (w:Wd):List Int×Int:=if w=[45] then ([],0) else jw w 1048576
section
variable {w:Wd} {ws:List Wd} (hw:w.length≤1000000) (hl:ws.length≤4000000)
include hw hl
theorem take1:subL (w :: ws) 1 ((((w :: ws).length:Nat)):Int)=some ws:=by rw [hI (by simp)]; rfl
theorem bd:bw (w :: ws) 0=some ((aT w 1048576).1,ws,(aT w 1048576).2):=by
 unfold bw nc nq
 have e:aa (w :: ws) 0=some w:=rfl
 simp only [decide_true,Bool.not_true,cond_false,e,Option.bind_some,jo w 1048576 hw (by omega) (by omega),take1 hw hl]
theorem mS:cg (w :: ws) 0=some ((pTy w).1,ws,(pTy w).2):=by
 unfold cg nd
 have e:aa (w :: ws) 0=some w:=rfl
 simp only [decide_true,Bool.not_true,cond_false,e,Option.bind_some,zN w hw,take1 hw hl]
theorem ip:dv (w :: ws) 0=some ((rdL w).1,ws,(rdL w).2):=by
 unfold dv nf nr
 have e:aa (w :: ws) 0=some w:=rfl
 have h1:(cond (decide (w=[45])) (some (([]:List Int),(0:Int))) ((iu w 1048576).bind fun (l23,i24)=>some (l23,i24)))=some (rdL w):=by
   unfold rdL
   by_cases h0:w=[45]
   . rw [if_pos h0,decide_eq_true h0]; rfl
   . rw [if_neg h0,decide_eq_false h0,cond_false,xp w 1048576 hw (by omega) (by omega)]; rfl
 simp only [decide_true,Bool.not_true,cond_false,e,Option.bind_some,take1 hw hl]
 rw [h1]; rfl
theorem Bj:kj (w :: ws) 0=some ((fA w 1048576).1,(fA w 1048576).2.1,ws,(fA w 1048576).2.2):=by
 unfold kj np
 have e:aa (w :: ws) 0=some w:=rfl
 simp only [decide_true,Bool.not_true,cond_false,e,Option.bind_some,wU w 1048576 hw (by omega) (by omega),take1 hw hl]
end
theorem Ex {α:Type} (x:α) (l:List α):decide ((0:Int) < (((x :: l).length:Nat):Int))=true:=by simp
theorem vq (ws:List (Int×Int)) (h:∀ b∈ws,(0≤b.1∧b.1≤1048576)∧0≤b.2∧b.2≤1048576) (hl:ws.length≤1000000):eM (ws.map pair) 0=some (ws,[],0):=by
 unfold eM
 have key:∀ (l acc:List (Int×Int)),(∀ b∈l,(0≤b.1∧b.1≤1048576)∧0≤b.2∧b.2≤1048576)→acc.length + l.length≤1000000→loop kp (acc,l.map pair,0)=some (acc++l,[],0):=by
   intro l
   induction l with
   | nil =>
     intro acc _ _
     refine cC ?_
     unfold kp
     simp
   | cons b l ih =>
     intro acc hb ha
     obtain ⟨⟨b1,b2⟩,b3,b4⟩:=hb b (by simp)
     have hp:=wq (b:=b) (most:=1048576) b1 b3 b2 b4
     have hpl:(pair b).length≤1000000:=by
       have:=az (show b.1≤9223372036854775807 by omega); have:=az (show b.2≤9223372036854775807 by omega)
       unfold pair; split
       . simp
       . simp; omega
     simp only [List.length_cons] at ha
     rw [fi (s':=(acc++[b],l.map pair,0)),ih _ (fun x hx=>hb x (by simp [hx])) (by rw [List.length_append,List.length_singleton]; omega)]
     . simp
     . unfold kp
       simp only [List.map_cons,Ex,decide_true,Bool.and_self,cond_true,Bj hpl (show (l.map pair).length≤4000000 by simp; omega),Option.bind_some,hp]
       rw [aj (by simp; omega)]
       rfl
 have:=key ws [] h (by simp; omega)
 rw [this]; rfl
theorem oJ {n:Int} (h:0≤n) (h2:n≤1048576):aT (text n) 1048576=(n,0):=by rw [kX h,if_neg (by omega)]
theorem o5 {n:Int} (h:0≤n):text n≠[]:=by unfold text; rw [if_neg (by omega)]; exact lX _
theorem k8 {x:St} {c:UInt8} (hc:a8 c=false) (h33:c≠33):c∉aE x:=by
 unfold aE
 simp only [List.mem_append,not_or]
 refine ⟨dI hc,?_⟩
 cases x.2 <;> simp [h33]
theorem jt {d c:UInt8} (hd:d≠c):∀ {l:List Wd},(∀ p∈l,d∉p)→d∉ae c l
 | [],_=>by simp [ae]
 | p :: ps,h=>by
   unfold ae
   simp only [List.mem_append,List.mem_flatMap,List.mem_cons,not_or,not_exists,not_and]
   exact ⟨h p (by simp),fun q hq=>⟨hd,h q (by simp [hq])⟩⟩
theorem sa {c:UInt8} {p:Wd} {ps:List Wd} (h:p≠[]):ae c (p :: ps)≠[]:=by
 unfold ae; intro e; exact h (List.append_eq_nil_iff.1 e).1
theorem xZ {x:St} (h:0≤x.1) (h2:x.1≤1048576):pSl (aE x)=(x,0):=by
 obtain ⟨n,b⟩:=x
 unfold pSl aE
 cases b with
 | true =>
   have:(text n++[33]).getLast? = some 33:=by simp
   simp only [if_true,this,decide_true,List.dropLast_concat,oJ h h2]
 | false =>
   have:decide ((text n++([]:Wd)).getLast? = some 33)=false:=decide_eq_false (by
     rw [List.append_nil]
     intro e
     exact dI (n:=n) (c:=33) rfl (List.mem_of_getLast? e))
   simp only [Bool.false_eq_true,if_false]
   rw [this,List.append_nil]
   simp only [Bool.false_eq_true,if_false,oJ h h2]
theorem rU:∀ (t acc:List St),(∀ x∈t,0≤x.1∧x.1≤1048576)→pgo (t.map aE) acc=(acc++t,0)
 | [],acc,_=>by simp [pgo]
 | x :: t,acc,h=>by
   obtain ⟨h1,h2⟩:=h x (by simp)
   rw [List.map_cons]
   unfold pgo
   rw [xZ h1 h2]
   simp only [ne_eq,not_true_eq_false,if_false]
   rw [rU t _ (fun y hy=>h y (by simp [hy]))]
   simp
theorem ly {t:List St} (h:∀ x∈t,0≤x.1∧x.1≤1048576):pTy (tyW t)=(t,0):=by
 unfold pTy tyW
 by_cases h0:t=[]
 . subst h0; rfl
 . rw [if_neg h0]
   have hm:(45:UInt8)∉ae 47 (t.map aE):=jt (by decide) (fun p hp=>by obtain ⟨x,_,rfl⟩:=List.mem_map.1 hp; exact k8 rfl (by decide))
   rw [if_neg (fun e=>hm (by rw [e]; simp)),kW 47 _ (by simpa using h0) (fun p hp=>by obtain ⟨x,_,rfl⟩:=List.mem_map.1 hp; exact k8 rfl (by decide)),rU t [] h]; simp
theorem oV {l:List Int} {c:UInt8} (hc:a8 c=false) (h:c≠44):c∉lst l:=by
 unfold lst; exact jt h (fun p hp=>by obtain ⟨x,_,rfl⟩:=List.mem_map.1 hp; exact dI hc)
theorem gI {l:List Int} (h:∀ x∈l,0≤x∧x≤1048576):rdL (liW l)=(l,0):=by
 unfold rdL liW
 by_cases h0:l=[]
 . subst h0; rfl
 . rw [if_neg h0,if_neg (fun e=>oV (l:=l) (c:=45) rfl (by decide) (by rw [e]; simp)),wF h]
structure WdOk (w:Wd):Prop where
 ne:w≠[]
 sp:(32:UInt8)∉w
 nl:(10:UInt8)∉w
theorem WdOk.text {n:Int} (h:0≤n):WdOk (text n):=⟨o5 h,dI rfl,dI rfl⟩
theorem WdOk.tyW {t:List St} (h:∀ x∈t,0≤x.1):WdOk (tyW t):=by
 unfold Go.Proofs.YteciehjlefldmaaGreatDoor.tyW
 cases t with
 | nil=>exact ⟨by simp,by decide,by decide⟩
 | cons x t =>
   rw [if_neg (by simp)]
   refine ⟨sa ?_,jt (by decide) (fun p hp=>?_),jt (by decide) (fun p hp=>?_)⟩
   . unfold aE; intro e; exact o5 (h x (by simp)) (List.append_eq_nil_iff.1 e).1
   . obtain ⟨x,_,rfl⟩:=List.mem_map.1 hp; exact k8 rfl (by decide)
   . obtain ⟨x,_,rfl⟩:=List.mem_map.1 hp; exact k8 rfl (by decide)
theorem WdOk.liW {l:List Int} (h:∀ x∈l,0≤x):WdOk (liW l):=by
 unfold Go.Proofs.YteciehjlefldmaaGreatDoor.liW
 cases l with
 | nil=>exact ⟨by simp,by decide,by decide⟩
 | cons x l =>
   rw [if_neg (by simp)]
   refine ⟨?_,oV rfl (by decide),oV rfl (by decide)⟩
   unfold lst; rw [List.map_cons]; exact sa (o5 (h x (by simp)))
theorem WdOk.pair {b:Int×Int} (h1:0≤b.1) (h2:0≤b.2):WdOk (pair b):=by
 unfold Go.Proofs.YteciehjlefldmaaGreatDoor.pair
 rw [if_neg (by omega)]
 refine ⟨by simp,?_,?_⟩ <;> (simp only [List.mem_append,List.mem_cons,not_or]; exact ⟨dI rfl,by decide,dI rfl⟩)
theorem yP {w:Wd} {ws:List Wd} (h:∀ p∈w :: ws,WdOk p):wds (ae 32 (w :: ws))=w :: ws:=by
 unfold wds
 rw [kW 32 _ (by simp) (fun p hp=>(h p hp).sp)]
 exact List.filter_eq_self.2 (fun p hp=>by simpa using (h p hp).ne)
theorem dJ {ws:List Wd} (h:∀ p∈ws,WdOk p):(10:UInt8)∉ae 32 ws:=jt (by decide) (fun p hp=>(h p hp).nl)
end
section
open Go.RowKit Nu
abbrev kc:Wd:=[114,101,103,105,111,110,115]
abbrev eG:Wd:=[98,111,117,110,100,115]
abbrev bV:Wd:=[108,111,99,97,108]
abbrev eF:Wd:=[103,105,118,101,115]
abbrev eI:Wd:=[115,105,103]
abbrev fO:Wd:=[110,101,101,100,115]
abbrev cq:Wd:=[97,114,103]
abbrev cw:Wd:=[98,108,111,99,107]
def fC (a:Int):List Wd:=if a=0 then [kc] else if a=1 then [eG] else if a=2 then [bV,eF] else if a=3 then [eI,cw] else if a=4 then [fO] else if a=5 then [cq,eI,cw]
 else if a=6 then [fV,fZ,co,cI,fX,fM,gW,kSw,fY,er] else if a=7 then [cw] else []
theorem dB (l : List Wd) (x : Wd) (hn : l.length ≤ 1000) : aW l x = some (decide (x ∈ l)) := by
 unfold aW nk
 rw [cW (body:=ko l x) l (fun w=>decide (x=w)) (fun k => .inr (k:Int)) (.inl ()) (fun k hk=>by
   unfold ko
   simp only [dlt hk,cond_true,an hk,Option.bind_some,aq hk (by omega)]
   by_cases h:x=l[k] <;> simp [h]) (by unfold ko; simp only [dge (show ¬ l.length < l.length by omega),cond_false])]
 cases hf:l.findIdx? (fun w=>decide (x=w)) with
 | none =>
   have h:=List.findIdx?_eq_none_iff.1 hf
   have:¬ x∈l:=fun hx=>by have:=h x hx; simp at this
   rw [decide_eq_false this]; rfl
 | some k =>
   obtain ⟨hk,hp,_⟩:=List.findIdx?_eq_some_iff_getElem.1 hf
   have : x ∈ l := by have e : x = l[k] := by simpa using hp
                      rw [e]; exact List.getElem_mem hk
   rw [decide_eq_true this]
   have:decide ((0:Int)≤(k:Int))=true:=decide_eq_true (by omega)
   simp only [Option.bind_some,this]
theorem tv (w:Wd) (u n:Int) (B:List (Int×Int)) (L:List (List St)) (R:List St) (S:List aQ) (X:List aY) (a:Int) :
   km w u n B L R S X a=some (decide (w∈fC a),B,L,R,S,X):=by
 unfold km fC
 simp only [dB _ w (show [kc].length≤1000 by decide),dB _ w (show [eG].length≤1000 by decide),dB _ w (show [bV,eF].length≤1000 by decide),dB _ w (show [eI,cw].length≤1000 by decide),dB _ w (show [fO].length≤1000 by decide),dB _ w (show [cq,eI,cw].length≤1000 by decide),dB _ w (show [cw].length≤1000 by decide),dB _ w (show ([]:List Wd).length≤1000 by decide),Option.bind_some]
 by_cases h0:a=0
 . simp only [h0,decide_true,cond_true,if_true]
 rw [decide_eq_false h0,cond_false,if_neg h0]
 by_cases h1:a=1
 . simp only [h1,decide_true,cond_true,if_true]
 rw [decide_eq_false h1,cond_false,if_neg h1]
 by_cases h2:a=2
 . simp only [h2,decide_true,cond_true,if_true]
 rw [decide_eq_false h2,cond_false,if_neg h2]
 by_cases h3:a=3
 . simp only [h3,decide_true,cond_true,if_true]
 rw [decide_eq_false h3,cond_false,if_neg h3]
 by_cases h4:a=4
 . simp only [h4,decide_true,cond_true,if_true]
 rw [decide_eq_false h4,cond_false,if_neg h4]
 by_cases h5:a=5
 . simp only [h5,decide_true,cond_true,if_true]
 rw [decide_eq_false h5,cond_false,if_neg h5]
 by_cases h6:a=6
 . rw [decide_eq_true h6,cond_true,if_pos h6]
   have:=dB [fV,fZ,co,cI,fX,fM,gW,kSw,fY,er] w (by decide)
   rw [show aW [[110,111,112],[97,115,115,105,103,110],[98,111,114,114,111,119],[114,101,98,111,114,114,111,119],[117,115,101],[100,101,97,100],[103,111,116,111],[115,119,105,116,99,104],[114,101,116,117,114,110],[99,97,108,108]] w=_ from this]; rfl
 rw [decide_eq_false h6,cond_false,if_neg h6]
 by_cases h7:a=7
 . simp only [h7,decide_true,cond_true,if_true]
 rw [decide_eq_false h7,cond_false,if_neg h7]
section
variable {w:Wd} {ws:List Wd} {u n:Int} {B:List (Int×Int)} {L:List (List St)} {R:List St} {S:List aQ} {X:List aY} {a aS most:Int}
 (hm:gg w=some (aS,most)) (hs:decide (w∈fC a)=true) (h1:aS≤((w :: ws).length:Nat)) (h2:(((w :: ws).length:Nat):Int)≤most)
include hm hs h1 h2
theorem eC (ha:a≠6) {u' n':Int} {B':List (Int×Int)} {L':List (List St)} {R':List St} {S':List aQ} {X':List aY} {a' e:Int} {q:List Wd}
   (h:bh w u n B L R S X a ws 0=some (u',n',B',L',R',S',X',a',q,e)):gQ (w :: ws) (u,n,B,L,R,S,X,a)=some (e,u',n',B',L',R',S',X',a'):=by
 unfold gQ du
 have g0:aa (w :: ws) 0=some w:=rfl
 have d1:decide ((((w :: ws).length:Nat):Int) < aS)=false:=decide_eq_false (by omega)
 have d2:decide (most < (((w :: ws).length:Nat):Int))=false:=decide_eq_false (by omega)
 have d3:subL (w :: ws) 1 ((((w :: ws).length:Nat)):Int)=some ws:=by rw [hI (by simp)]; rfl
 simp only [g0,Option.bind_some,hm,tv,hs,d1,d2,Bool.not_true,Bool.or_self,cond_false,d3,decide_eq_false ha,h]
theorem vb (ha:a=6) {B':List (Int×Int)} {L':List (List St)} {R':List St} {S':List aQ} {X':List aY} {a' e:Int} {q:List Wd}
   (h:eL (w :: ws) u n B L R S X a ws 0=some (B',L',R',S',X',a',q,e)):gQ (w :: ws) (u,n,B,L,R,S,X,a)=some (e,u,n,B',L',R',S',X',a'):=by
 unfold gQ du
 have g0:aa (w :: ws) 0=some w:=rfl
 have d1:decide ((((w :: ws).length:Nat):Int) < aS)=false:=decide_eq_false (by omega)
 have d2:decide (most < (((w :: ws).length:Nat):Int))=false:=decide_eq_false (by omega)
 have d3:subL (w :: ws) 1 ((((w :: ws).length:Nat)):Int)=some ws:=by rw [hI (by simp)]; rfl
 simp only [g0,Option.bind_some,hm,tv,hs,d1,d2,Bool.not_true,Bool.or_self,cond_false,d3,decide_eq_true ha,cond_true,h]
end
theorem mB {α:Type} (X:List α) (x:α) (h:X.length≤1000000):IntKind.wrap .i64 (((((X++[x]).length:Nat)):Int) - 1)=((X.length:Nat):Int):=by
 rw [List.length_append,List.length_singleton,w64 (by omega) (by omega)]; omega
theorem mL {α:Type} (X:List α) (x:α):aa (X++[x]) ((X.length:Nat):Int)=some x:=by rw [an (by simp)]; simp
theorem mF {α:Type} (X:List α) (x y:α):(X++[x]).set X.length y=X++[y]:=by rw [List.set_append_right _ _ (Nat.le_refl _)]; simp
theorem lK (i:Int):aD i i=some ():=by unfold aD; simp
theorem dp {α:Type} (x:α) (l:List α):aa (x :: l) 0=some x:=rfl
abbrev In (n:Int):Prop:=0≤n∧n≤1048576
theorem In.i64 {n:Int} (h:In n):I64 n:=by have:=h.2; show n≤_; omega
theorem In.len {n:Int} (h:In n):(text n).length≤1000000:=by have:=az h.i64; omega
theorem pa {n:Int} (h:In n):aT (text n) 1048576=(n,0):=oJ h.1 h.2
theorem mn {t:List St} (h:∀ x∈t,In x.1) (hl:t.length≤1000):(tyW t).length≤1000000:=by have:=tW (t:=t) (fun x hx=>(h x hx).i64); omega
theorem gX {t:List Int} (h:∀ x∈t,In x) (hl:t.length≤1000):(liW t).length≤1000000:=by have:=db (l:=t) (fun x hx=>(h x hx).i64); omega
section
variable {u n:Int} {B:List (Int×Int)} {L:List (List St)} {R:List St} {S:List aQ} {X:List aY} {a:Int}
theorem Bl {x y:Int} (hx:In x) (hy:In y):bh kc u n B L R S X a [text x,text y] 0=some (x,y,B,L,R,S,X,1,[],0):=by
 unfold bh
 simp only [decide_true,cond_true,bd (w:=text x) (ws:=[text y]) hx.len (by simp),pa hx,Option.bind_some,bd (w:=text y) (ws:=[]) hy.len (by simp),pa hy]
theorem A7 {l:List (Int×Int)} (h:∀ b∈l,In b.1∧In b.2) (hl:l.length≤1000):bh eG u n B L R S X a (l.map pair) 0=some (u,n,l,L,R,S,X,2,[],0):=by
 unfold bh
 simp (decide:=true) only [decide_true,decide_false,cond_true,cond_false,vq l h (show l.length≤1000000 by omega),Option.bind_some]
theorem Bd {t:List St} (h:∀ x∈t,In x.1) (hl:t.length≤1000) (hL:L.length≤1000):bh bV u n B L R S X a [tyW t] 0=some (u,n,B,L++[t],R,S,X,a,[],0):=by
 unfold bh
 have ha:app L [t]=some (L++[t]):=aj (by simp; omega)
 simp (decide:=true) only [decide_true,decide_false,cond_true,cond_false,mS (w:=tyW t) (ws:=[]) (mn h hl) (by simp),ly h,Option.bind_some,ha]
theorem Be {t:List St} (h:∀ x∈t,In x.1) (hl:t.length≤1000):bh eF u n B L R S X a [tyW t] 0=some (u,n,B,L,t,S,X,3,[],0):=by
 unfold bh
 simp (decide:=true) only [decide_true,decide_false,cond_true,cond_false,mS (w:=tyW t) (ws:=[]) (mn h hl) (by simp),ly h,Option.bind_some]
theorem Bg {x:Int} {t:List St} (hx:In x) (h:∀ x∈t,In x.1) (hl:t.length≤1000) (hS:S.length≤1000):bh eI u n B L R S X a [text x,tyW t] 0=some (u,n,B,L,R,S++[(x,[],[],t)],X,4,[],0):=by
 unfold bh
 have ha:app S [(x,([]:List (Int×Int)),([]:List (List St)),t)]=some (S++[(x,[],[],t)]):=aj (by simp; omega)
 simp (decide:=true) only [decide_true,decide_false,cond_true,cond_false,bd (w:=text x) (ws:=[tyW t]) hx.len (by simp),pa hx,mS (w:=tyW t) (ws:=[]) (mn h hl) (by simp),ly h,Option.bind_some,ha]
theorem AG {s:aQ} {l:List (Int×Int)} (h:∀ b∈l,In b.1∧In b.2) (hl:l.length≤1000) (hS:S.length≤1000):bh fO u n B L R (S++[s]) X a (l.map pair) 0=some (u,n,B,L,R,S++[(s.1,l,s.2.2.1,s.2.2.2)],X,5,[],0):=by
 unfold bh
 simp (decide:=true) only [decide_true,decide_false,cond_true,cond_false,vq l h (show l.length≤1000000 by omega),mB S s (by omega),mL,lK,Option.bind_some,Int.toNat_natCast,mF]
theorem A4 {s:aQ} {t:List St} (h:∀ x∈t,In x.1) (hl:t.length≤1000) (hS:S.length≤1000) (hA:s.2.2.1.length≤1000):bh cq u n B L R (S++[s]) X a [tyW t] 0=some (u,n,B,L,R,S++[(s.1,s.2.1,s.2.2.1++[t],s.2.2.2)],X,a,[],0):=by
 unfold bh
 have ha:app s.2.2.1 [t]=some (s.2.2.1++[t]):=aj (by simp; omega)
 simp (decide:=true) only [decide_true,decide_false,cond_true,cond_false,mS (w:=tyW t) (ws:=[]) (mn h hl) (by simp),ly h,mB S s (by omega),mL,lK,Option.bind_some,ha,Int.toNat_natCast,mF,sj]
theorem Bc (hX:X.length≤1000):bh cw u n B L R S X a [] 0=some (u,n,B,L,R,S,X++[([],(0,0,0,[],[],[]))],6,[],0):=by
 unfold bh
 have ha:app X [(([]:List bS),((0,0,0,[],[],[]):cv))]=some (X++[([],(0,0,0,[],[],[]))]):=aj (by simp; omega)
 simp (decide:=true) only [decide_true,decide_false,cond_true,cond_false,Option.bind_some,ha]
structure StOk (x:bS):Prop where
 kind:0≤x.1∧x.1≤5
 dst:In x.2.1
 src:In x.2.2.1
 reg:In x.2.2.2.1
 d0:x.1=0∨x.1=4→x.2.1=0
 s0:x.1=0∨x.1=5→x.2.2.1=0
 r0:x.1≠2→x.1≠3→x.2.2.2.1=0∧x.2.2.2.2=false
structure TmOk (x:cv):Prop where
 kind:1≤x.1∧x.1≤4
 sig:In x.2.1
 dst:In x.2.2.1
 tos:∀ n∈x.2.2.2.1,In n
 args:∀ n∈x.2.2.2.2.1,In n
 par:∀ n∈x.2.2.2.2.2,In n
 nto:x.2.2.2.1.length≤1000
 nargs:x.2.2.2.2.1.length≤1000
 npar:x.2.2.2.2.2.length≤1000
 c0:x.1≠4→x.2.1=0∧x.2.2.1=0∧x.2.2.2.2.2=[]
 t0:x.1=3→x.2.2.2.1=[]
 a0:x.1=1∨x.1=3→x.2.2.2.2.1=[]
theorem AJ {x:cv} (h:TmOk x) {w:Wd} {ws:List Wd} (e:bW x=w :: ws):eN w ws 0=some (x.1,x.2.1,x.2.2.1,x.2.2.2.1,x.2.2.2.2.1,x.2.2.2.2.2,true,[],0):=by
 obtain ⟨k,s,d,T,A,P⟩:=x
 obtain ⟨⟨k1,k2⟩,hs,hd,hT,hA,hP,lT,lA,lP,c0,t0,a0⟩:=h
 dsimp only at k1 k2 hs hd hT hA hP lT lA lP c0 t0 a0 ⊢
 unfold bW at e
 dsimp only at e
 have hk:k=1∨k=2∨k=3∨k=4:=by omega
 unfold eN
 rcases hk with rfl | rfl | rfl | rfl
 . simp only [if_true,List.cons.injEq] at e
   obtain ⟨rfl,rfl⟩:=e
   obtain ⟨rfl,rfl,rfl⟩:=c0 (by omega)
   obtain rfl:=a0 (by omega)
   simp only [gW,decide_true,cond_true,ip (w:=liW T) (ws:=[]) (gX hT lT) (by simp),gI hT,Option.bind_some]
 . simp (decide:=true) only [if_true,if_false,List.cons.injEq] at e
   obtain ⟨rfl,rfl⟩:=e
   obtain ⟨rfl,rfl,rfl⟩:=c0 (by omega)
   simp (decide:=true) only [kSw,decide_true,decide_false,cond_true,cond_false,ip (w:=liW T) (ws:=[liW A]) (gX hT lT) (by simp),gI hT,ip (w:=liW A) (ws:=[]) (gX hA lA) (by simp),gI hA,Option.bind_some]
 . simp (decide:=true) only [if_true,if_false,List.cons.injEq] at e
   obtain ⟨rfl,rfl⟩:=e
   obtain ⟨rfl,rfl,rfl⟩:=c0 (by omega)
   obtain rfl:=a0 (by omega)
   obtain rfl:=t0 rfl
   simp (decide:=true) only [fY,decide_true,decide_false,cond_true,cond_false]
 . simp (decide:=true) only [if_true,if_false,List.cons.injEq] at e
   obtain ⟨rfl,rfl⟩:=e
   simp (decide:=true) only [er,decide_true,decide_false,cond_true,cond_false,bd (w:=text s) (ws:=[text d,liW T,liW P,liW A]) hs.len (by simp),pa hs,bd (w:=text d) (ws:=[liW T,liW P,liW A]) hd.len (by simp),pa hd,
     ip (w:=liW T) (ws:=[liW P,liW A]) (gX hT lT) (by simp),gI hT,ip (w:=liW P) (ws:=[liW A]) (gX hP lP) (by simp),gI hP,ip (w:=liW A) (ws:=[]) (gX hA lA) (by simp),gI hA,Option.bind_some]
theorem A3 {x:bS} (h:StOk x) {w:Wd} {ws:List Wd} (e:aL x=w :: ws):eN w ws 0=some (0,0,0,[],[],[],false,ws,0):=by
 obtain ⟨k,d,s,r,m⟩:=x
 obtain ⟨⟨k1,k2⟩,_⟩:=h
 dsimp only at k1 k2
 unfold aL at e
 dsimp only at e
 have hk:k=0∨k=1∨k=2∨k=3∨k=4∨k=5:=by omega
 unfold eN
 rcases hk with rfl | rfl | rfl | rfl | rfl | rfl <;> (simp (decide:=true) only [if_true,if_false,List.cons.injEq,List.cons_append] at e; obtain ⟨rfl,rfl⟩:=e; simp (decide:=true) only [fV,fZ,co,cI,fX,fM,decide_false,cond_false])
theorem AU {x:bS} (h:StOk x) {w:Wd} {ws:List Wd} (e:aL x=w :: ws):∃ q,eO (w :: ws) ws 0=some (x.1,x.2.1,x.2.2.1,x.2.2.2.1,x.2.2.2.2,q,0):=by
 obtain ⟨k,d,s,r,m⟩:=x
 obtain ⟨⟨k1,k2⟩,hd,hs,hr,d0,s0,r0⟩:=h
 dsimp only at k1 k2 hd hs hr d0 s0 r0 ⊢
 unfold aL at e
 dsimp only at e
 have hk:k=0∨k=1∨k=2∨k=3∨k=4∨k=5:=by omega
 have g4:∀ c:Wd,aa [c,text d,text s,text r,[109,117,116]] 4=some [109,117,116]:=fun _=>rfl
 unfold eO
 rcases hk with rfl | rfl | rfl | rfl | rfl | rfl
 . simp (decide:=true) only [if_true,if_false,List.cons.injEq] at e
   obtain ⟨rfl,rfl⟩:=e
   obtain rfl:=d0 (by omega)
   obtain rfl:=s0 (by omega)
   obtain ⟨rfl,rfl⟩:=r0 (by omega) (by omega)
   exact ⟨[],by simp (decide:=true) only [dp,Option.bind_some,fV,decide_true,decide_false,cond_true,cond_false]⟩
 . simp (decide:=true) only [if_true,if_false,List.cons.injEq] at e
   obtain ⟨rfl,rfl⟩:=e
   obtain ⟨rfl,rfl⟩:=r0 (by omega) (by omega)
   exact ⟨[],by simp (decide:=true) only [dp,Option.bind_some,fZ,decide_true,decide_false,cond_true,cond_false,bd (w:=text d) (ws:=[text s]) hd.len (by simp),pa hd,bd (w:=text s) (ws:=[]) hs.len (by simp),pa hs]⟩
 . cases m with
   | true =>
     simp (decide:=true) only [if_true,if_false,List.cons.injEq,List.cons_append,List.nil_append] at e
     obtain ⟨rfl,rfl⟩:=e
     exact ⟨[bg],by simp (decide:=true) only [dp,g4,Option.bind_some,co,bg,decide_true,decide_false,cond_true,cond_false,Bool.not_true,List.length_cons,List.length_nil,bd (w:=text d) (ws:=[text s,text r,[109,117,116]]) hd.len (by simp),pa hd,bd (w:=text s) (ws:=[text r,[109,117,116]]) hs.len (by simp),pa hs,bd (w:=text r) (ws:=[[109,117,116]]) hr.len (by simp),pa hr]⟩
   | false =>
     simp (decide:=true) only [if_true,if_false,List.cons.injEq,List.cons_append,List.append_nil] at e
     obtain ⟨rfl,rfl⟩:=e
     exact ⟨[],by simp (decide:=true) only [dp,Option.bind_some,co,decide_true,decide_false,cond_true,cond_false,Bool.not_true,List.length_cons,List.length_nil,bd (w:=text d) (ws:=[text s,text r]) hd.len (by simp),pa hd,bd (w:=text s) (ws:=[text r]) hs.len (by simp),pa hs,bd (w:=text r) (ws:=[]) hr.len (by simp),pa hr]⟩
 . cases m with
   | true =>
     simp (decide:=true) only [if_true,if_false,List.cons.injEq,List.cons_append,List.nil_append] at e
     obtain ⟨rfl,rfl⟩:=e
     exact ⟨[bg],by simp (decide:=true) only [dp,g4,Option.bind_some,cI,bg,decide_true,decide_false,cond_true,cond_false,Bool.not_true,List.length_cons,List.length_nil,bd (w:=text d) (ws:=[text s,text r,[109,117,116]]) hd.len (by simp),pa hd,bd (w:=text s) (ws:=[text r,[109,117,116]]) hs.len (by simp),pa hs,bd (w:=text r) (ws:=[[109,117,116]]) hr.len (by simp),pa hr]⟩
   | false =>
     simp (decide:=true) only [if_true,if_false,List.cons.injEq,List.cons_append,List.append_nil] at e
     obtain ⟨rfl,rfl⟩:=e
     exact ⟨[],by simp (decide:=true) only [dp,Option.bind_some,cI,decide_true,decide_false,cond_true,cond_false,Bool.not_true,List.length_cons,List.length_nil,bd (w:=text d) (ws:=[text s,text r]) hd.len (by simp),pa hd,bd (w:=text s) (ws:=[text r]) hs.len (by simp),pa hs,bd (w:=text r) (ws:=[]) hr.len (by simp),pa hr]⟩
 . simp (decide:=true) only [if_true,if_false,List.cons.injEq] at e
   obtain ⟨rfl,rfl⟩:=e
   obtain rfl:=d0 (by omega)
   obtain ⟨rfl,rfl⟩:=r0 (by omega) (by omega)
   exact ⟨[],by simp (decide:=true) only [dp,Option.bind_some,fX,decide_true,decide_false,cond_true,cond_false,bd (w:=text s) (ws:=[]) hs.len (by simp),pa hs]⟩
 . simp (decide:=true) only [if_true,if_false,List.cons.injEq] at e
   obtain ⟨rfl,rfl⟩:=e
   obtain rfl:=s0 (by omega)
   obtain ⟨rfl,rfl⟩:=r0 (by omega) (by omega)
   exact ⟨[],by simp (decide:=true) only [dp,Option.bind_some,fM,decide_true,decide_false,cond_true,cond_false,bd (w:=text d) (ws:=[]) hd.len (by simp),pa hd]⟩
theorem Ay {x:cv} {b:aY} (h:TmOk x) (hX:X.length≤1000) {w:Wd} {ws:List Wd} (e:bW x=w :: ws):eL (w :: ws) u n B L R S (X++[b]) a ws 0=some (B,L,R,S,X++[(b.1,x)],7,[],0):=by
 unfold eL
 simp only [mB X b (by omega),mL,lK,Option.bind_some,dp,AJ h e,cond_true,Int.toNat_natCast,mF]
theorem Au {x:bS} {b:aY} (h:StOk x) (hX:X.length≤1000) (hb:b.1.length≤1000) {w:Wd} {ws:List Wd} (e:aL x=w :: ws):∃ q,eL (w :: ws) u n B L R S (X++[b]) a ws 0=some (B,L,R,S,X++[(b.1++[x],b.2)],a,q,0):=by
 obtain ⟨q,hq⟩:=AU h e
 refine ⟨q,?_⟩
 unfold eL
 have ha:app b.1 [(x.1,x.2.1,x.2.2.1,x.2.2.2.1,x.2.2.2.2)]=some (b.1++[x]):=aj (by simp; omega)
 simp only [mB X b (by omega),mL,lK,Option.bind_some,dp,A3 h e,hq,cond_false,ha,Int.toNat_natCast,mF,sj]
end
end
section
open Go.RowKit Nu
abbrev bN:=Int×Int×List (Int×Int)×List (List St)×List St×List aQ×List aY
def ba (s:aQ):List Wd:=ae 32 [eI,text s.1,tyW s.2.2.2] :: ae 32 (fO :: s.2.1.map pair) :: s.2.2.1.map (fun t=>ae 32 [cq,tyW t])
def bJ (x:aY):List Wd:=cw :: (x.1.map (fun s=>ae 32 (aL s))++[ae 32 (bW x.2)])
def bz (b:bN):List Wd:=ae 32 [kc,text b.1,text b.2.1] :: ae 32 (eG :: b.2.2.1.map pair) :: (b.2.2.2.1.map (fun t=>ae 32 [bV,tyW t])++(ae 32 [eF,tyW b.2.2.2.2.1] :: (b.2.2.2.2.2.1.flatMap ba++b.2.2.2.2.2.2.flatMap bJ)))
structure SgOk (s:aQ):Prop where
 par:In s.1
 bnd:∀ b∈s.2.1,In b.1∧In b.2
 nb:s.2.1.length≤1000
 args:∀ t∈s.2.2.1,(∀ x∈t,In x.1)∧t.length≤1000
 na:s.2.2.1.length≤900
 ret:(∀ x∈s.2.2.2,In x.1)∧s.2.2.2.length≤1000
structure BkOk (x:aY):Prop where
 st:∀ s∈x.1,StOk s
 ns:x.1.length≤900
 tm:TmOk x.2
structure BoOk (b:bN):Prop where
 uni:In b.1
 reg:In b.2.1
 bnd:∀ c∈b.2.2.1,In c.1∧In c.2
 nb:b.2.2.1.length≤1000
 loc:∀ t∈b.2.2.2.1,(∀ x∈t,In x.1)∧t.length≤1000
 nl:b.2.2.2.1.length≤900
 ret:(∀ x∈b.2.2.2.2.1,In x.1)∧b.2.2.2.2.1.length≤1000
 sig:∀ s∈b.2.2.2.2.2.1,SgOk s
 nsg:b.2.2.2.2.2.1.length≤900
 blk:∀ x∈b.2.2.2.2.2.2,BkOk x
 nx:b.2.2.2.2.2.2.length≤900
def adv:List Wd→PS→Option PS
 | [],p=>some p
 | l :: ls,p=>(bH l p).bind fun r=>if r.1=0 then adv ls r.2 else none
theorem ef:∀ (a b:List Wd) (p:PS),adv (a++b) p=(adv a p).bind (adv b)
 | [],b,p=>rfl
 | l :: a,b,p=>by
   show (bH l p).bind _=((bH l p).bind _).bind _
   cases bH l p with
   | none=>rfl
   | some r =>
     simp only [Option.bind_some]
     by_cases h:r.1=0
     . simp only [h,if_true]; exact ef a b r.2
     . simp only [h,if_false]; rfl
theorem o8:∀ (ls:List Wd) (p p':PS) (n:Int),adv ls p=some p'→g8 ls p n=some (g9 p')
 | [],p,p',n,h=>by cases h; rfl
 | l :: ls,p,p',n,h=>by
   obtain ⟨r,h1,h2⟩:=ob h
   unfold g8
   rw [h1,Option.bind_some]
   by_cases h0:r.1=0
   . rw [if_pos h0] at h2 ⊢; exact o8 ls _ _ _ h2
   . rw [if_neg h0] at h2; cases h2
theorem cj {l:Wd} {ls:List Wd} {p p':PS} (h:bH l p=some (0,p')):adv (l :: ls) p=adv ls p':=by
 show (bH l p).bind _=_
 rw [h]; rfl
theorem cX {w:Wd} {ws:List Wd} {p p':PS} (hw:∀ q∈w :: ws,WdOk q) (h35:w.head?≠some 35) (h:gQ (w :: ws) p=some (0,p')):bH (ae 32 (w :: ws)) p=some (0,p'):=by
 unfold bH
 rw [yP hw,if_neg (by unfold cS; simpa using h35)]; exact h
theorem wk {w:Wd} (h:decide (w≠[]∧(32:UInt8)∉w∧(10:UInt8)∉w)=true):WdOk w:=by
 obtain ⟨h1,h2,h3⟩:=of_decide_eq_true h; exact ⟨h1,h2,h3⟩
theorem uS:WdOk kc:=wk (by decide)
theorem uY:WdOk eG:=wk (by decide)
theorem uU:WdOk bV:=wk (by decide)
theorem uT:WdOk eF:=wk (by decide)
theorem u9:WdOk eI:=wk (by decide)
theorem uv:WdOk fO:=wk (by decide)
theorem uV:WdOk cq:=wk (by decide)
theorem A1:WdOk cw:=wk (by decide)
theorem wTy {t:List St} (h:∀ x∈t,In x.1):WdOk (tyW t):=WdOk.tyW (fun x hx=>(h x hx).1)
theorem wLi {l:List Int} (h:∀ x∈l,In x):WdOk (liW l):=WdOk.liW (fun x hx=>(h x hx).1)
theorem lS {w:Wd} (hw:WdOk w) {l:List (Int×Int)} (h:∀ b∈l,In b.1∧In b.2):∀ q∈w :: l.map pair,WdOk q:=fun q hq=>by
 rcases List.mem_cons.1 hq with rfl | hq
 . exact hw
 . obtain ⟨b,hb,rfl⟩:=List.mem_map.1 hq; exact WdOk.pair (h b hb).1.1 (h b hb).2.1
theorem w2 {a b:Wd} (ha:WdOk a) (hb:WdOk b):∀ q∈[a,b],WdOk q:=fun q hq=>by
 simp only [List.mem_cons,List.mem_nil_iff,or_false] at hq
 rcases hq with rfl | rfl
 . exact ha
 . exact hb
theorem w3 {a b c:Wd} (ha:WdOk a) (hb:WdOk b) (hc:WdOk c):∀ q∈[a,b,c],WdOk q:=fun q hq=>by
 simp only [List.mem_cons,List.mem_nil_iff,or_false] at hq
 rcases hq with rfl | rfl | rfl
 . exact ha
 . exact hb
 . exact hc
theorem ub {x:bS} (h:StOk x):(∀ q∈aL x,WdOk q)∧∃ w ws,aL x=w :: ws∧decide (w∈fC 6)=true∧w.head?≠some 35∧∃ aS most,gg w=some (aS,most)∧aS≤((w :: ws).length:Nat)∧(((w :: ws).length:Nat):Int)≤most:=by
 obtain ⟨k,d,s,r,m⟩:=x
 obtain ⟨⟨k1,k2⟩,hd,hs,hr,_⟩:=h
 dsimp only at k1 k2 hd hs hr
 have h1:=WdOk.text hd.1; have h2:=WdOk.text hs.1; have h3:=WdOk.text hr.1
 have hk:k=0∨k=1∨k=2∨k=3∨k=4∨k=5:=by omega
 rcases hk with rfl | rfl | rfl | rfl | rfl | rfl
 . refine ⟨fun q hq=>?_,_,_,rfl,by decide,by decide,1,1,rfl,by simp,by simp⟩
   rw [show aL (0,d,s,r,m)=[fV] from rfl,List.mem_singleton] at hq
   subst hq; exact wk (by decide)
 . exact ⟨w3 (wk (by decide)) h1 h2,_,_,rfl,by decide,by decide,3,3,rfl,by simp,by simp⟩
 . cases m with
   | true =>
     refine ⟨fun q hq=>?_,co,[text d,text s,text r,bg],rfl,by decide,by decide,4,5,rfl,by simp,by simp⟩
     rw [show aL (2,d,s,r,true)=[co,text d,text s,text r,bg] from rfl] at hq
     simp only [List.mem_cons,List.mem_nil_iff,or_false] at hq
     rcases hq with rfl | rfl | rfl | rfl | rfl
     . exact wk (by decide)
     . exact h1
     . exact h2
     . exact h3
     . exact wk (by decide)
   | false =>
     refine ⟨fun q hq=>?_,co,[text d,text s,text r],rfl,by decide,by decide,4,5,rfl,by simp,by simp⟩
     rw [show aL (2,d,s,r,false)=[co,text d,text s,text r] from rfl] at hq
     simp only [List.mem_cons,List.mem_nil_iff,or_false] at hq
     rcases hq with rfl | rfl | rfl | rfl
     . exact wk (by decide)
     . exact h1
     . exact h2
     . exact h3
 . cases m with
   | true =>
     refine ⟨fun q hq=>?_,cI,[text d,text s,text r,bg],rfl,by decide,by decide,4,5,rfl,by simp,by simp⟩
     rw [show aL (3,d,s,r,true)=[cI,text d,text s,text r,bg] from rfl] at hq
     simp only [List.mem_cons,List.mem_nil_iff,or_false] at hq
     rcases hq with rfl | rfl | rfl | rfl | rfl
     . exact wk (by decide)
     . exact h1
     . exact h2
     . exact h3
     . exact wk (by decide)
   | false =>
     refine ⟨fun q hq=>?_,cI,[text d,text s,text r],rfl,by decide,by decide,4,5,rfl,by simp,by simp⟩
     rw [show aL (3,d,s,r,false)=[cI,text d,text s,text r] from rfl] at hq
     simp only [List.mem_cons,List.mem_nil_iff,or_false] at hq
     rcases hq with rfl | rfl | rfl | rfl
     . exact wk (by decide)
     . exact h1
     . exact h2
     . exact h3
 . exact ⟨w2 (wk (by decide)) h2,_,_,rfl,by decide,by decide,2,2,rfl,by simp,by simp⟩
 . exact ⟨w2 (wk (by decide)) h1,_,_,rfl,by decide,by decide,2,2,rfl,by simp,by simp⟩
theorem uf {x:cv} (h:TmOk x):(∀ q∈bW x,WdOk q)∧∃ w ws,bW x=w :: ws∧decide (w∈fC 6)=true∧w.head?≠some 35∧∃ aS most,gg w=some (aS,most)∧aS≤((w :: ws).length:Nat)∧(((w :: ws).length:Nat):Int)≤most:=by
 obtain ⟨k,s,d,T,A,P⟩:=x
 obtain ⟨⟨k1,k2⟩,hs,hd,hT,hA,hP,_⟩:=h
 dsimp only at k1 k2 hs hd hT hA hP
 have h1:=WdOk.text hs.1; have h2:=WdOk.text hd.1; have h3:=wLi hT; have h4:=wLi hA; have h5:=wLi hP
 have hk:k=1∨k=2∨k=3∨k=4:=by omega
 rcases hk with rfl | rfl | rfl | rfl
 . exact ⟨w2 (wk (by decide)) h3,_,_,rfl,by decide,by decide,2,2,rfl,by simp,by simp⟩
 . exact ⟨w3 (wk (by decide)) h3 h4,_,_,rfl,by decide,by decide,3,3,rfl,by simp,by simp⟩
 . refine ⟨fun q hq=>?_,_,_,rfl,by decide,by decide,1,1,rfl,by simp,by simp⟩
   rw [show bW (3,s,d,T,A,P)=[fY] from rfl,List.mem_singleton] at hq
   subst hq; exact wk (by decide)
 . refine ⟨fun q hq=>?_,er,[text s,text d,liW T,liW P,liW A],rfl,by decide,by decide,6,6,rfl,by simp,by simp⟩
   rw [show bW (4,s,d,T,A,P)=[er,text s,text d,liW T,liW P,liW A] from rfl] at hq
   simp only [List.mem_cons,List.mem_nil_iff,or_false] at hq
   rcases hq with rfl | rfl | rfl | rfl | rfl | rfl
   . exact wk (by decide)
   . exact h1
   . exact h2
   . exact h3
   . exact h5
   . exact h4
section
variable {u n:Int} {B:List (Int×Int)} {L:List (List St)} {R:List St} {S:List aQ} {X:List aY} {a:Int}
theorem sS:∀ (l:List bS) (ss:List bS) (t:cv),(∀ s∈l,StOk s)→X.length≤1000→ss.length + l.length≤1000→adv (l.map (fun s=>ae 32 (aL s))) (u,n,B,L,R,S,X++[(ss,t)],6)=some (u,n,B,L,R,S,X++[(ss++l,t)],6)
 | [],ss,t,_,_,_=>by simp [adv]
 | x :: l,ss,t,h,hX,hl=>by
   have hx:=h x (by simp)
   obtain ⟨hw,w,ws,e,ha,h35,aS,most,hm,b1,b2⟩:=ub hx
   obtain ⟨q,hq⟩:=Au (u:=u) (n:=n) (B:=B) (L:=L) (R:=R) (S:=S) (X:=X) (a:=6) (b:=(ss,t)) hx hX (by dsimp only; omega) e
   rw [List.length_cons] at hl
   rw [List.map_cons,e,cj (cX (by rw [← e]; exact hw) h35 (vb hm ha b1 b2 rfl hq)),sS l _ t (fun s hs=>h s (by simp [hs])) hX (by dsimp only; rw [List.length_append,List.length_singleton]; omega)]
   simp
theorem AO {x:aY} (h:BkOk x) (hX:X.length≤900) (ha:decide (cw∈fC a)=true) (h6:a≠6):adv (bJ x) (u,n,B,L,R,S,X,a)=some (u,n,B,L,R,S,X++[x],7):=by
 unfold bJ
 have e0:cw=ae 32 [cw]:=by simp [ae]
 have s1:=cX (p:=(u,n,B,L,R,S,X,a)) (w:=cw) (ws:=[]) (fun q hq=>by rw [List.mem_singleton.1 hq]; exact A1) (by decide) (eC (aS:=1) (most:=1) rfl ha (by simp) (by simp) h6 (Bc (show X.length≤1000 by omega)))
 rw [← e0] at s1
 rw [cj s1,ef,sS x.1 [] _ h.st (by omega) (by have:=h.ns; simp; omega),Option.bind_some]
 obtain ⟨hw,w,ws,e,ha,h35,aS,most,hm,b1,b2⟩:=uf h.tm
 have hq:=Ay (u:=u) (n:=n) (B:=B) (L:=L) (R:=R) (S:=S) (X:=X) (a:=6) (b:=(([]:List bS)++x.1,((0,0,0,[],[],[]):cv))) h.tm (by omega) e
 rw [e,cj (cX (by rw [← e]; exact hw) h35 (vb hm ha b1 b2 rfl hq))]
 rfl
theorem tD:∀ (l:List aY),(∀ x∈l,BkOk x)→∀ (X:List aY) (a:Int),X.length + l.length≤900→(a=3∨a=5∨a=7)→∃ a',(a'=3∨a'=5∨a'=7)∧adv (l.flatMap bJ) (u,n,B,L,R,S,X,a)=some (u,n,B,L,R,S,X++l,a')
 | [],_,X,a,_,ha=>⟨a,ha,by simp [adv]⟩
 | x :: l,h,X,a,hl,ha=>by
   rw [List.length_cons] at hl
   obtain ⟨a',h1,h2⟩:=tD l (fun y hy=>h y (by simp [hy])) (X++[x]) 7 (by rw [List.length_append,List.length_singleton]; omega) (by omega)
   refine ⟨a',h1,?_⟩
   rw [List.flatMap_cons,ef,AO (h x (by simp)) (by omega) (by rcases ha with rfl | rfl | rfl <;> decide) (by omega),Option.bind_some,h2]
   simp
theorem tR:∀ (l:List (List St)) (s:aQ),(∀ t∈l,(∀ x∈t,In x.1)∧t.length≤1000)→S.length≤1000→s.2.2.1.length + l.length≤1000→adv (l.map (fun t=>ae 32 [cq,tyW t])) (u,n,B,L,R,S++[s],X,5)=some (u,n,B,L,R,S++[(s.1,s.2.1,s.2.2.1++l,s.2.2.2)],X,5)
 | [],s,_,_,_=>by simp [adv]
 | t :: l,s,h,hS,hl=>by
   obtain ⟨t1,t2⟩:=h t (by simp)
   rw [List.length_cons] at hl
   rw [List.map_cons,cj (cX (w2 uV (wTy t1)) (by decide) (eC (aS:=2) (most:=2) rfl (by decide) (by simp) (by simp) (by decide) (A4 t1 t2 hS (by omega)))),tR l _ (fun y hy=>h y (by simp [hy])) hS (by dsimp only; rw [List.length_append,List.length_singleton]; omega)]
   simp
theorem rN (k:Nat) (h:k≤1000):(1:Int)≤((k + 1:Nat):Int)∧((k + 1:Nat):Int)≤9223372036854775807:=by omega
theorem Ax {s:aQ} (h:SgOk s) (hS:S.length≤900) (ha:decide (eI∈fC a)=true) (h6:a≠6):adv (ba s) (u,n,B,L,R,S,X,a)=some (u,n,B,L,R,S++[s],X,5):=by
 unfold ba
 have hl:=rN (s.2.1.map pair).length (by rw [List.length_map]; exact h.nb)
 rw [cj (cX (w3 u9 (WdOk.text h.par.1) (wTy h.ret.1)) (by decide) (eC (aS:=3) (most:=3) rfl ha (by simp) (by simp) h6 (Bg h.par h.ret.1 h.ret.2 (by omega)))),
   cj (cX (lS uv h.bnd) (by decide) (eC (aS:=1) (most:=9223372036854775807) rfl (by decide) hl.1 hl.2 (by decide) (AG h.bnd h.nb (by omega))))]
 rw [tR s.2.2.1 _ h.args (by omega) (by have:=h.na; simp; omega)]
 rfl
theorem ug:∀ (l:List aQ),(∀ x∈l,SgOk x)→∀ (S:List aQ) (a:Int),S.length + l.length≤900→(a=3∨a=5)→∃ a',(a'=3∨a'=5)∧adv (l.flatMap ba) (u,n,B,L,R,S,X,a)=some (u,n,B,L,R,S++l,X,a')
 | [],_,S,a,_,ha=>⟨a,ha,by simp [adv]⟩
 | x :: l,h,S,a,hl,ha=>by
   rw [List.length_cons] at hl
   obtain ⟨a',h1,h2⟩:=ug l (fun y hy=>h y (by simp [hy])) (S++[x]) 5 (by rw [List.length_append,List.length_singleton]; omega) (by omega)
   refine ⟨a',h1,?_⟩
   rw [List.flatMap_cons,ef,Ax (h x (by simp)) (by omega) (by rcases ha with rfl | rfl <;> decide) (by omega),Option.bind_some,h2]
   simp
theorem tS:∀ (l L:List (List St)),(∀ t∈l,(∀ x∈t,In x.1)∧t.length≤1000)→L.length + l.length≤1000→adv (l.map (fun t=>ae 32 [bV,tyW t])) (u,n,B,L,R,S,X,2)=some (u,n,B,L++l,R,S,X,2)
 | [],L,_,_=>by simp [adv]
 | t :: l,L,h,hl=>by
   obtain ⟨t1,t2⟩:=h t (by simp)
   rw [List.length_cons] at hl
   rw [List.map_cons,cj (cX (w2 uU (wTy t1)) (by decide) (eC (aS:=2) (most:=2) rfl (by decide) (by simp) (by simp) (by decide) (Bd t1 t2 (by omega)))),tS l _ (fun y hy=>h y (by simp [hy])) (by rw [List.length_append,List.length_singleton]; omega)]
   simp
end
theorem rW {b:bN} (h:BoOk b):∃ a,(a=3∨a=5∨a=7)∧adv (bz b) (0,0,[],[],[],[],[],0)=some (b.1,b.2.1,b.2.2.1,b.2.2.2.1,b.2.2.2.2.1,b.2.2.2.2.2.1,b.2.2.2.2.2.2,a):=by
 unfold bz
 have hl:=rN (b.2.2.1.map pair).length (by rw [List.length_map]; exact h.nb)
 rw [cj (cX (w3 uS (WdOk.text h.uni.1) (WdOk.text h.reg.1)) (by decide) (eC (aS:=3) (most:=3) rfl (by decide) (by simp) (by simp) (by decide) (Bl h.uni h.reg))),
   cj (cX (lS uY h.bnd) (by decide) (eC (aS:=1) (most:=9223372036854775807) rfl (by decide) hl.1 hl.2 (by decide) (A7 h.bnd h.nb))),
   ef,tS b.2.2.2.1 [] h.loc (by have:=h.nl; simp; omega),Option.bind_some,
   cj (cX (w2 uT (wTy h.ret.1)) (by decide) (eC (aS:=2) (most:=2) rfl (by decide) (by simp) (by simp) (by decide) (Be h.ret.1 h.ret.2))),ef]
 obtain ⟨a1,h1,e1⟩:=ug (u:=b.1) (n:=b.2.1) (B:=b.2.2.1) (L:=[]++b.2.2.2.1) (R:=b.2.2.2.2.1) (X:=[]) b.2.2.2.2.2.1 h.sig [] 3 (by have:=h.nsg; simp; omega) (by omega)
 rw [e1,Option.bind_some]
 obtain ⟨a2,h2,e2⟩:=tD (u:=b.1) (n:=b.2.1) (B:=b.2.2.1) (L:=[]++b.2.2.2.1) (R:=b.2.2.2.2.1) (S:=[]++b.2.2.2.2.2.1) b.2.2.2.2.2.2 h.blk [] a1 (by have:=h.nx; simp; omega) (by omega)
 exact ⟨a2,h2,e2⟩
theorem uG {b:bN} {a:Int} (h:a=3∨a=5∨a=7):g9 (b.1,b.2.1,b.2.2.1,b.2.2.2.1,b.2.2.2.2.1,b.2.2.2.2.2.1,b.2.2.2.2.2.2,a)=(b.1,b.2.1,b.2.2.1,b.2.2.2.1,b.2.2.2.2.1,b.2.2.2.2.2.1,b.2.2.2.2.2.2,0,0):=by
 unfold g9; rw [if_pos h]
theorem nX (t:Wd):∀ (ls:List Wd),(∀ l∈ls,(10:UInt8)∉l)→au 10 (ls.flatMap (·++[10])++t)=ls++au 10 t
 | [],_=>rfl
 | l :: ls,h=>by
   rw [List.flatMap_cons,List.append_assoc,List.append_assoc,List.singleton_append,jg 10 l _ (h l (by simp)),nX t ls (fun x hx=>h x (by simp [hx]))]; rfl
theorem sI {b:bN} (h:BoOk b):∀ l∈bz b,(10:UInt8)∉l:=by
 intro l hl
 unfold bz at hl
 simp only [List.mem_cons,List.mem_append,List.mem_map,List.mem_flatMap] at hl
 rcases hl with rfl | rfl | ⟨t,ht,rfl⟩ | rfl | ⟨s,hs,hl⟩ | ⟨x,hx,hl⟩
 . exact dJ (w3 uS (WdOk.text h.uni.1) (WdOk.text h.reg.1))
 . exact dJ (lS uY h.bnd)
 . exact dJ (w2 uU (wTy (h.loc t ht).1))
 . exact dJ (w2 uT (wTy h.ret.1))
 . have q:=h.sig s hs
   unfold ba at hl
   simp only [List.mem_cons,List.mem_map] at hl
   rcases hl with rfl | rfl | ⟨t,ht,rfl⟩
   . exact dJ (w3 u9 (WdOk.text q.par.1) (wTy q.ret.1))
   . exact dJ (lS uv q.bnd)
   . exact dJ (w2 uV (wTy (q.args t ht).1))
 . have q:=h.blk x hx
   unfold bJ at hl
   simp only [List.mem_cons,List.mem_append,List.mem_map,List.mem_nil_iff,or_false] at hl
   rcases hl with rfl | ⟨s,hs,rfl⟩ | rfl
   . decide
   . exact dJ (ub (q.st s hs)).1
   . exact dJ (uf q.tm).1
def prW (b:bN):Wd:=(bz b).flatMap (·++[10])
theorem qZ {b:bN} (h:BoOk b) (hn:(prW b).length≤1048576):d5 (prW b)=some (b.1,b.2.1,b.2.2.1,b.2.2.2.1,b.2.2.2.2.1,b.2.2.2.2.2.1,b.2.2.2.2.2.2,0,0):=by
 refine tT _ _ hn ?_
 obtain ⟨a,ha,e⟩:=rW h
 have hp:au 10 (prW b)=bz b++[[]]:=by
   have:=nX [] (bz b) (sI h)
   rw [List.append_nil] at this; exact this
 rw [hp,o8 (p':=(b.1,b.2.1,b.2.2.1,b.2.2.2.1,b.2.2.2.2.1,b.2.2.2.2.2.1,b.2.2.2.2.2.2,a)) _ _ _ (by rw [ef,e]; rfl),uG ha]
theorem wH {b:bN} (h:BoOk b) (hn:(prW b).length≤1000000):d5 (([35,32,115,111,10,10]:Wd)++prW b++[32,32,35,32,116,104,101,32,101,110,100])=some (b.1,b.2.1,b.2.2.1,b.2.2.2.1,b.2.2.2.2.1,b.2.2.2.2.2.1,b.2.2.2.2.2.2,0,0):=by
 refine tT _ _ (by rw [List.length_append,List.length_append]; simp only [List.length_cons,List.length_nil]; omega) ?_
 obtain ⟨a,ha,e⟩:=rW h
 have hp:au 10 (([35,32,115,111,10,10]:Wd)++prW b++[32,32,35,32,116,104,101,32,101,110,100])=[35,32,115,111] :: [] :: (bz b++[[32,32,35,32,116,104,101,32,101,110,100]]):=by
   have h1:([35,32,115,111,10,10]:Wd)++prW b++[32,32,35,32,116,104,101,32,101,110,100]=[35,32,115,111]++10 :: ([]++10 :: (prW b++[32,32,35,32,116,104,101,32,101,110,100])):=by simp
   rw [h1,jg 10 [35,32,115,111] _ (by decide),jg 10 [] _ (by decide)]
   have:=nX [32,32,35,32,116,104,101,32,101,110,100] (bz b) (sI h)
   unfold prW; rw [this]; rfl
 have s1:∀ p,bH [35,32,115,111] p=some (0,p):=fun p=>by unfold bH; rw [if_pos (by decide)]
 have s2:∀ p,bH [] p=some (0,p):=fun p=>by unfold bH; rw [if_pos (by decide)]
 have s3:∀ p,bH [32,32,35,32,116,104,101,32,101,110,100] p=some (0,p):=fun p=>by unfold bH; rw [if_pos (by decide)]
 rw [hp,o8 (p':=(b.1,b.2.1,b.2.2.1,b.2.2.2.1,b.2.2.2.2.1,b.2.2.2.2.2.1,b.2.2.2.2.2.2,a)) _ _ _ (by rw [cj (s1 _),cj (s2 _),ef,e,Option.bind_some,cj (s3 _)]; rfl),uG ha]
def b38:bN:=(1,1,[],[[]],[],[],[([],(3,0,0,[],[],[]))])
theorem zr (hT:dz [(1,false),(2,true)]=some [49,47,50,33]) (hS:fg (2,0,1,3,true)=some [98,111,114,114,111,119,32,48,32,49,32,51,32,109,117,116]):eU=some true:=by
 have hb:BoOk b38:=by
   have i0:In 0:=by constructor <;> decide
   have i1:In 1:=by constructor <;> decide
   refine ⟨i1,i1,by simp [b38],by simp [b38],by simp [b38],by simp [b38],⟨by simp [b38],by simp [b38]⟩,by simp [b38],by simp [b38],?_,by simp [b38]⟩
   intro x hx
   obtain rfl:x=([],(3,0,0,[],[],[])):=by simpa [b38] using hx
   exact ⟨by simp,by simp,⟨by simp,i0,i0,by simp,by simp,by simp,by simp,by simp,by simp,by simp,by simp,by simp⟩⟩
 have hw:prW b38=[114,101,103,105,111,110,115,32,49,32,49,10,98,111,117,110,100,115,10,108,111,99,97,108,32,45,10,103,105,118,101,115,32,45,10,98,108,111,99,107,10,114,101,116,117,114,110,10]:=by
   have t1:text 1=[49]:=by unfold text; rw [if_neg (by decide),show ((1:Int).toNat)=1 from rfl,bG (by decide)]; rfl
   simp [prW,bz,b38,ba,bJ,tyW,bW,ae,t1,fY]
 have hp:=qZ hb (by rw [hw]; simp)
 rw [hw] at hp
 unfold eU
 rw [hp,hT,hS]
 rfl
end
section
open Go.RowKit Nu
theorem Ew:tyW [(1,false),(2,true)]=[49,47,50,33]:=by
 have t1:text 1=[49]:=by unfold text; rw [if_neg (by decide),show ((1:Int).toNat)=1 from rfl,bG (by decide)]; rfl
 have t2:text 2=[50]:=by unfold text; rw [if_neg (by decide),show ((2:Int).toNat)=2 from rfl,bG (by decide)]; rfl
 simp [tyW,ae,aE,t1,t2]
theorem DW:ae 32 (aL (2,0,1,3,true))=[98,111,114,114,111,119,32,48,32,49,32,51,32,109,117,116]:=by
 have t0:text 0=[48]:=by unfold text; rw [if_neg (by decide),show ((0:Int).toNat)=0 from rfl,bG (by decide)]; rfl
 have t1:text 1=[49]:=by unfold text; rw [if_neg (by decide),show ((1:Int).toNat)=1 from rfl,bG (by decide)]; rfl
 have t3:text 3=[51]:=by unfold text; rw [if_neg (by decide),show ((3:Int).toNat)=3 from rfl,bG (by decide)]; rfl
 simp [aL,ae,co,bg,t0,t1,t3]
theorem yy:eU=some true:=by
 refine zr ?_ ?_
 . rw [jG _ (by simp) (fun x hx=>by simp at hx; rcases hx with rfl | rfl <;> decide),Ew]
 . rw [uw _ (by decide) (by decide) (by decide),DW]
theorem pA (xa:List St) (hn:xa.length≤1073741824):gf xa xa=some true:=by
 unfold gf
 have hs:shp xa xa=true:=by unfold shp; simp
 rw [jd xa xa hn,hs]
 have:=oc (body:=kJ xa xa) xa xa (.inr false) (.inl ()) rfl (fun k h=>by
   unfold kJ
   simp [an h,h,aq h (by omega)]) (by unfold kJ; simp)
 simp only [Option.bind_some,Bool.not_true,cond_false,this,if_true]
end
abbrev Nd:=Int×Int×Int×Int×Bool
def kg (kind f:Int) (x y:St):List Nd:=(x.1,y.1,kind,f,false) :: if y.2 then [(y.1,x.1,kind,f,true)] else []
def rel (kind f:Int):List St→List St→List Nd
 | x :: xs,y :: ys=>kg kind f x y++rel kind (f + 1) xs ys
 | _,_=>[]
theorem sG (kind:Int) (x y:St):∀ (xs ys:List St) (f:Int),xs.length=ys.length→rel kind f (xs++[x]) (ys++[y])=rel kind f xs ys++kg kind (f + xs.length) x y
 | [],[],f,_=>by simp [rel]
 | [],_ :: _,f,h=>by simp at h
 | _ :: _,[],f,h=>by simp at h
 | a :: xs,b :: ys,f,h=>by
   simp only [List.cons_append,rel,sG kind x y xs ys (f + 1) (by simpa using h),List.append_assoc,List.length_cons]
   rw [show f + 1 + (xs.length:Int)=f + ((xs.length + 1:Nat):Int) by omega]
theorem lI (kind:Int) (xs ys:List St) (f:Int):(rel kind f xs ys).length≤2 * xs.length:=by
 induction xs generalizing ys f with
 | nil=>simp [rel]
 | cons a xs ih=>cases ys with
   | nil=>simp [rel]
   | cons b ys =>
     have:=ih ys (f + 1)
     cases hb:b.2 <;> simp [rel,kg,hb] <;> omega
theorem oa (xa xb:List St) (kind f:Int) (hl:xa.length=xb.length) (hn:xa.length≤30) (hf : -9223372036854775808≤f) (hf2:f≤1099511627776) (c:List Nd) (hc:c.length≤10) :
   f8 xa xb kind f c=some (c++rel kind f xa xb):=by
 unfold f8
 have h:=kY (body:=kr xa xb kind f) xa (fun k=>c++rel kind f (xa.take k) (xb.take k)) (c++rel kind f xa xb) ?_ ?_
 . simp only [List.take_zero,rel,List.append_nil] at h
   rw [h]; rfl
 . intro k h
   have h2:k < xb.length:=by omega
   have hlen:=lI kind (xa.take k) (xb.take k) f
   simp only [List.length_take] at hlen
   have hw:IntKind.wrap .i64 (f + (k:Int))=f + k:=w64 (by omega) (by omega)
   unfold kr
   rw [bY h,bY h2,sG _ _ _ _ _ _ (by simp; omega)]
   have e:(xa.take k).length=k:=by simp; omega
   rw [e]
   cases hb:xb[k].2 with
   | true =>
     simp [an h,an h2,h,hb,aq h (by omega),hw,kg]
     rw [aj (by simp; omega)]
     simp
     rw [aj (by simp; omega)]
     simp
   | false =>
     simp [an h,an h2,h,hb,aq h (by omega),hw,kg]
     rw [aj (by simp; omega)]
     simp
 . have e:xb.take xa.length=xb:=by rw [hl,List.take_length]
   simp [kr,e]
theorem jh (xa xb:List St) (kind f:Int) (hn:xa.length≤30) (hf : -9223372036854775808≤f) (hf2:f≤1099511627776):eX xa xb kind f=some (if shp xa xb then (rel kind f xa xb,0) else ([],8)):=by
 unfold eX
 rw [jd _ _ (by omega),Option.bind_some]
 cases hs:shp xa xb with
 | false=>rfl
 | true=>rw [Bool.not_true,cond_false,oa xa xb kind f (oH hs) hn hf hf2 [] (by simp)]; simp
def lo (n:Int) (m:Bool) (xa xb:List St):List Nd×Int :=
 if shp ((n,false) :: xa.map fun x=>(x.1,x.2||m)) xb then ((n,(xb.head?.getD (0,false)).1,2,0,false) :: rel 1 1 xa (xb.drop 1),0) else ([],8)
theorem Aq {n:Int} {m:Bool} {xa xb:List St} (h:shp ((n,false) :: xa.map fun x=>(x.1,x.2||m)) xb=true):xb.length=xa.length + 1:=by
 have:=oH h; simp at this; omega
theorem wY (xa xb:List St) (n:Int) (m:Bool) (hn:xa.length≤30):kP xa xb n m=some (lo n m xa xb):=by
 unfold kP lo
 rw [xO _ _ _ (by omega),Option.bind_some,jd _ _ (by simp; omega),Option.bind_some]
 cases hs:shp ((n,false) :: xa.map fun x=>(x.1,x.2||m)) xb with
 | false=>rfl
 | true =>
   have hl:=Aq hs
   cases xb with
   | nil=>simp at hl
   | cons y ys =>
     have hl2:xa.length=ys.length:=by simpa using hl.symm
     rw [Bool.not_true,cond_false,show aa (y :: ys) 0=some y from rfl,Option.bind_some,hI (by simp),Option.bind_some,oa _ _ _ _ (by simpa using hl2) hn (by omega) (by omega) _ (by simp)]
     simp
def ag (n:Int) (m:Bool) (xa xb:List St):List Nd×Int :=
 match xa,xb with
 | x :: xs,y :: ys=>if x.2||!shp (x :: xs) (y :: ys)||(m&&xs.any (fun z=>!z.2)) then ([],8) else ((x.1,n,3,0,false) :: (n,y.1,2,0,false) :: rel 1 1 xs ys,0)
 | _,_=>([],8)
theorem wL (xa xb:List St) (n:Int) (m:Bool) (hn:xa.length≤30):kM xa xb n m=some (ag n m xa xb):=by
 unfold kM
 cases xa with
 | nil=>rfl
 | cons x xs =>
   have e0:decide ((((x :: xs).length:Nat):Int)=0)=false:=by simp; omega
   rw [e0,cond_false,jd _ _ (by omega),Option.bind_some,Option.bind_some]
   cases hs:shp (x :: xs) xb with
   | false=>cases xb <;> simp [ag,hs]
   | true =>
     have hl:=oH hs
     cases xb with
     | nil=>simp at hl
     | cons y ys =>
       have hl2:xs.length=ys.length:=by simpa using hl
       simp only [Bool.not_true,cond_false,show aa (x :: xs) 0=some x from rfl,show aa (y :: ys) 0=some y from rfl,Option.bind_some]
       cases hx:x.2 with
       | true=>simp [ag,hx]
       | false =>
         have hn':xs.length≤29:=by simp at hn; omega
         have hloop:loop (ga (x :: xs) m) 1=some (if (m&&xs.any (fun z=>!z.2)) then .inr ([],8) else .inl ()):=by
           have:=yo (body:=ga (x :: xs) m) (fun k=>(m&&(xs[k]?.any (fun z=>!z.2)))=true) (fun k=>((k + 1:Nat):Int)) xs.length (.inr ([],8)) (.inl ()) ?_ ?_ ?_
           . rw [show ((1:Int))=((0 + 1:Nat):Int) from rfl,this]
             congr 1
             by_cases hq:(m&&xs.any (fun z=>!z.2))=true
             . rw [if_pos hq,if_pos]
               simp only [Bool.and_eq_true] at hq
               obtain ⟨z,hz,hz2⟩:=List.any_eq_true.1 hq.2
               obtain ⟨k,hk,rfl⟩:=List.getElem_of_mem hz
               exact ⟨k,hk,by simp [hq.1,hk]; simpa using hz2⟩
             . rw [if_neg hq,if_neg]
               rintro ⟨k,hk,hk2⟩
               apply hq
               simp [hk] at hk2
               rw [hk2.1,Bool.true_and]
               exact List.any_eq_true.2 ⟨_,List.getElem_mem hk,by simpa using hk2.2⟩
           . intro k hk hp
             have h2:k + 1 < (x :: xs).length:=by simp; omega
             simp [hk] at hp
             unfold ga
             rw [dlt h2,cond_true,aq h2 (by simp; omega)]
             cases m with
             | false=>simp
             | true=>simp [u7 h2,hp rfl]
           . intro k hk hp
             have h2:k + 1 < (x :: xs).length:=by simp; omega
             simp [hk] at hp
             unfold ga
             rw [dlt h2,cond_true]
             simp [u7 h2,hp.1,hp.2]
           . simp [ga]
         rw [hloop]
         by_cases hq:(m&&xs.any (fun z=>!z.2))=true
         . simp [ag,hx,hs,hq]
         . have hq':(m&&xs.any (fun z=>!z.2))=false:=by simpa using hq
           rw [hq']
           simp only [cond_false,Option.bind_some,if_false,hI (show 1≤(x :: xs).length by simp),hI (show 1≤(y :: ys).length by simp),List.drop_succ_cons,List.drop_zero,Bool.false_eq_true]
           rw [oa _ _ _ _ hl2 (by omega) (by omega) (by omega) _ (by simp)]
           simp [ag,hx,hs,hq']
abbrev Sg:=Int×List (Int×Int)×List (List St)×List St
def bK (n:Int) (b:Int×Int):Bool:=(((decide (b.1 < 0))||(decide (n≤b.1)))||(decide (b.2 < 0)))||(decide (n≤b.2))
def lc (n:Int) (A:List (List St)):Unit⊕Int:=match A.findIdx? (fun t=>!decide (rck n t=0)) with | some k => .inr (rck n (A.getD k [])) | none => .inl ()
def chk (s:Sg):Int :=
 if s.1 < 0 then 7 else if 16 < s.1∨16 < s.2.1.length∨16 < s.2.2.1.length then 6 else if s.2.1.any (bK s.1) then 7
 else match lc s.1 s.2.2.1 with | .inr e=>e | .inl ()=>rck s.1 s.2.2.2
theorem Al (a:Int) (b c:Nat):(((decide (16 < a))||(decide (16 < ((b:Nat):Int))))||(decide (16 < ((c:Nat):Int))))=decide (16 < a∨16 < b∨16 < c):=by
 by_cases h1:16 < a <;> by_cases h2:16 < b <;> by_cases h3:16 < c <;> simp [h1,h2,h3] <;> omega
theorem A6 {n:Int} {A:List (List St)} {body:Int→Option (Int⊕(Unit⊕Int))} (hn:A.length≤1000) (hb:∀ (k:Nat) (h:k < A.length),body (k:Int)=cond (!decide (rck n A[k]=0)) (some (.inr (.inr (rck n A[k])))) (some (.inl (IntKind.wrap .i64 ((k:Int) + 1))))) (he:body (A.length:Int)=some (.inr (.inl ()))):loop body 0=some (lc n A):=by
 rw [cW A (fun t=>!decide (rck n t=0)) (fun k => .inr (rck n (A.getD k []))) (.inl ()) ?_ he]
 . rfl
 . intro k hk
   rw [hb k hk,aq hk (by omega:A.length≤9223372036854775807)]
   have:A.getD k []=A[k]:=by simp [List.getD,hk]
   rw [this]
   cases (!decide (rck n A[k]=0)) <;> rfl
theorem qY (s:Sg):eT s=some (chk s):=by
 obtain ⟨n,B,A,R⟩:=s
 unfold eT chk
 dsimp only at *
 by_cases h0:n < 0
 . rw [decide_eq_true h0,if_pos h0]; rfl
 . rw [decide_eq_false h0,if_neg h0,cond_false,Al]
   by_cases h1:16 < n∨16 < B.length∨16 < A.length
   . rw [decide_eq_true h1,if_pos h1]; rfl
   . rw [decide_eq_false h1,if_neg h1,cond_false]
     rw [jk (body:=kD (n,B,A,R)) B (bK n) (.inr 7) (.inl ()) ?_ ?_]
     . cases hb:B.any (bK n) with
       | true=>rfl
       | false =>
         simp only [Bool.false_eq_true,if_false,Option.bind_some]
         rw [A6 (body:=kC (n,B,A,R)) (n:=n) (A:=A) (by omega) ?_ ?_]
         . rw [kV R n]
           simp only [Option.bind_some]
           cases lc n A <;> rfl
         . intro k hk
           unfold kC
           simp only [dlt hk,cond_true,an hk,Option.bind_some]
           rw [kV _ _,Option.bind_some]
         . simp [kC]
     . intro k hk
       unfold kD
       simp only [dlt hk,cond_true,an hk,Option.bind_some,aq hk (by omega:B.length≤9223372036854775807)]
       generalize B[k]=b
       show cond (bK n b) _ _=_
       cases bK n b <;> rfl
     . simp [kD]
theorem ju {n:Int} {t:List St} (h:rck n t=0):t.length≤16∧rin n t=false:=by
 unfold rck at h
 by_cases q:16 < t.length
 . rw [if_pos q] at h; cases h
 . rw [if_neg q] at h
   cases hr:rin n t with
   | true=>rw [hr] at h; cases h
   | false=>exact ⟨by omega,rfl⟩
theorem th {s:Sg} (h:chk s=0):0≤s.1∧s.1≤16∧s.2.1.length≤16∧s.2.2.1.length≤16∧(∀ b∈s.2.1,bK s.1 b=false)∧(∀ t∈s.2.2.1,t.length≤16∧rin s.1 t=false)∧s.2.2.2.length≤16∧rin s.1 s.2.2.2=false:=by
 unfold chk at h
 by_cases h0:s.1 < 0
 . rw [if_pos h0] at h; cases h
 . rw [if_neg h0] at h
   by_cases h1:16 < s.1∨16 < s.2.1.length∨16 < s.2.2.1.length
   . rw [if_pos h1] at h; cases h
   . rw [if_neg h1] at h
     cases hb:s.2.1.any (bK s.1) with
     | true=>rw [hb] at h; cases h
     | false =>
       rw [hb] at h
       simp only [Bool.false_eq_true,if_false] at h
       unfold lc at h
       cases hf:s.2.2.1.findIdx? (fun t=>!decide (rck s.1 t=0)) with
       | some k =>
         rw [hf] at h
         obtain ⟨hk,h2,_⟩:=List.findIdx?_eq_some_iff_getElem.1 hf
         have:s.2.2.1.getD k []=s.2.2.1[k]:=by simp [List.getD,hk]
         simp only [this] at h
         simp [h] at h2
       | none =>
         rw [hf] at h
         have hz:=List.findIdx?_eq_none_iff.1 hf
         refine ⟨by omega,by omega,by omega,by omega,fun b hb2=>?_,fun t ht=>ju (by simpa using hz t ht),(ju h).1,(ju h).2⟩
         have:=List.any_eq_false.1 hb b hb2
         simpa using this
theorem o9 (names:List Int) (xs ys:List St):shp xs (ys.map (sbs names))=shp xs ys:=by
 unfold shp; rw [List.map_map]; rfl
theorem yp (names:List Int) (xs ys:List St):shp (xs.map (sbs names)) ys=shp xs ys:=by
 rw [li,o9,li]
def mis (A C:List (List St)) (k:Nat):Bool:=!shp (C.getD k []) (A.getD k [])
def fl (names:List Int) (A C:List (List St)) (j:Nat):List Nd:=rel 5 (16 * (j:Int)) (C.getD j []) ((A.getD j []).map (sbs names))
def fls (names:List Int) (A C:List (List St)):Nat→List Nd
 | 0=>[]
 | k + 1=>fls names A C k++fl names A C k
theorem pi (names:List Int) (A C:List (List St)) (hc:∀ t∈C,t.length≤20):∀ k,(fls names A C k).length≤40 * k
 | 0=>by simp [fls]
 | k + 1=>by
   have ih:=pi names A C hc k
   have h1:=lI 5 (C.getD k []) ((A.getD k []).map (sbs names)) (16 * (k:Int))
   have h2:(C.getD k []).length≤20:=by
     by_cases h:k < C.length
     . have:C.getD k []=C[k]:=by simp [List.getD,h]
       rw [this]; exact hc _ (List.getElem_mem h)
     . have:C.getD k []=[]:=by simp [List.getD,List.getElem?_eq_none (Nat.not_lt.1 h)]
       rw [this]; simp
   simp only [fls,List.length_append,fl]
   omega
def bds (names:List Int) (B:List (Int×Int)):Nat→List Nd
 | 0=>[]
 | k + 1=>bds names B k++[(names.getD (B.getD k (0,0)).1.toNat 0,names.getD (B.getD k (0,0)).2.toNat 0,4,(k:Int),false)]
theorem oX (names:List Int) (B:List (Int×Int)):∀ k,(bds names B k).length=k
 | 0=>rfl
 | k + 1=>by simp [bds,oX names B k]
def csp (s:Sg) (names:List Int) (C:List (List St)) (D:List St):List Nd×Int :=
 if chk s≠0 then ([],chk s)
 else if ¬ (names.length:Int)=s.1∨¬ C.length=s.2.2.1.length then ([],2)
 else if (List.range s.2.2.1.length).any (mis s.2.2.1 C) then ([],8)
 else if shp D s.2.2.2 then (bds names s.2.1 s.2.1.length++fls names s.2.2.1 C s.2.2.1.length++rel 6 0 (s.2.2.2.map (sbs names)) D,0) else ([],8)
theorem wI {names:List Int} {n:Int} {B:List (Int×Int)} {body:(List Nd×Int)→Option ((List Nd×Int)⊕List Nd)} (hB:B.length≤16) (hn:(names.length:Int)=n) (hb:∀ b∈B,bK n b=false)
   (hgo:∀ (l:List Nd) (k:Nat) (h:k < B.length),body (l,(k:Int))=((aa names B[k].1).bind fun x=>(aa names B[k].2).bind fun y=>(app l [(x,y,4,(k:Int),false)]).bind fun z=>some (.inl (z,IntKind.wrap .i64 ((k:Int) + 1))))) (he:∀ l,body (l,(B.length:Int))=some (.inr l)) :
   loop body ([],0)=some (bds names B B.length):=by
 refine cB (body:=body) (fun k=>(bds names B k,(k:Int))) B.length ?_ (he _)
 intro k hk
 have h1:=hb B[k] (List.getElem_mem hk)
 have e:B.getD k (0,0)=B[k]:=by simp [List.getD,hk]
 unfold bK at h1
 simp at h1
 rw [hgo _ k hk,pm (by omega) (by omega),Option.bind_some,pm (by omega) (by omega),Option.bind_some,aj (by simp [oX]; omega),Option.bind_some,aq hk (by omega)]
 simp only [bds,e]
theorem pq {names:List Int} {n:Int} {t:List St} (hn:(names.length:Int)=n) (h:rin n t=false):rin names.length t=false:=by rw [hn]; exact h
theorem xm (s:Sg) (names:List Int) (C:List (List St)) (D:List St) (hr:s.2.2.2.length≤20) (ha:∀ t∈s.2.2.1,t.length≤20) (hC:∀ t∈C,t.length≤20) (hD:D.length≤20) :
   iW s names C D=some (csp s names C D):=by
 unfold iW csp
 rw [show eT (s.1,s.2.1,s.2.2.1,s.2.2.2)=some (chk s) from qY s]
 obtain ⟨n,B,A,R⟩:=s
 dsimp only at *
 by_cases h0:chk (n,B,A,R)=0
 . obtain ⟨n0,n1,hB,hA,hb,hat,hR,hrin⟩:=th h0
   dsimp only at n0 n1 hB hA hb hat hR hrin
   simp only [h0,Option.bind_some,decide_true,Bool.not_true,cond_false,ne_eq,not_true_eq_false,if_false]
   by_cases h1:¬ (names.length:Int)=n∨¬ C.length=A.length
   . have:((!decide ((((names.length:Nat):Int))=n))||(!decide ((((C.length:Nat):Int))=(((A.length:Nat):Int)))))=true:=by simp; omega
     rw [this,if_pos h1]; rfl
   . have:((!decide ((((names.length:Nat):Int))=n))||(!decide ((((C.length:Nat):Int))=(((A.length:Nat):Int)))))=false:=by simp; omega
     rw [this,if_neg h1,cond_false]
     have hn:(names.length:Int)=n:=by omega
     have hl:C.length=A.length:=by omega
     rw [wI (body:=kL (n,B,A,R) names) hB hn hb ?_ ?_]
     . simp only [Option.bind_some]
       have q2:=oX names B B.length
       have hfl:=fv (body:=iD (n,B,A,R) names C) (fun k=>mis A C k=true) (fun k=>(bds names B B.length++fls names A C k,(k:Int))) A.length (fun _ => .inr ([],8)) (.inl (bds names B B.length++fls names A C A.length)) ?_ ?_ ?_
       . have e0:(bds names B B.length,(0:Int))=(bds names B B.length++fls names A C 0,((0:Nat):Int)):=by simp [fls]
         rw [e0]
         rcases hfl with ⟨k,k1,k2,_,k3⟩ | ⟨k1,k3⟩
         . have:(List.range A.length).any (mis A C)=true:=List.any_eq_true.2 ⟨k,List.mem_range.2 k1,k2⟩
           rw [k3,this]; rfl
         . have:(List.range A.length).any (mis A C)=false:=by
             rw [List.any_eq_false]; intro k hk; exact k1 k (List.mem_range.1 hk)
           rw [k3,this]
           have q1:=pi names A C hC A.length
           have q3:=lI 6 (R.map (sbs names)) D 0
           rw [List.length_map] at q3
           simp only [Option.bind_some,Bool.false_eq_true,if_false]
           rw [n5 R names (by omega),pq hn hrin]
           simp only [Bool.false_eq_true,if_false,Option.bind_some]
           rw [jh _ _ _ _ (by simp; omega) (by omega) (by omega),yp,li]
           cases hs:shp D R with
           | false=>rfl
           | true =>
             simp only [if_true,Option.bind_some,decide_true,Bool.not_true,cond_false]
             rw [aj (by simp only [List.length_append]; omega)]
             rfl
       . intro k hk hp
         have hkC:k < C.length:=by omega
         have ht:=hat A[k] (List.getElem_mem hk)
         have hc:=hC C[k] (List.getElem_mem hkC)
         have e1:A.getD k []=A[k]:=by simp [List.getD,hk]
         have e2:C.getD k []=C[k]:=by simp [List.getD,hkC]
         have hsh:shp C[k] A[k]=true:=by
           unfold mis at hp
           rw [e1,e2] at hp
           simpa using hp
         have q1:=pi names A C hC k
         have q3:=lI 5 C[k] (A[k].map (sbs names)) (16 * (k:Int))
         unfold iD
         simp only [dlt hk,cond_true,an hk,Option.bind_some]
         rw [n5 _ names (by omega),pq hn ht.2]
         simp only [Bool.false_eq_true,if_false,Option.bind_some,an hkC]
         rw [w64 (x:=16 * (k:Int)) (by omega) (by omega),jh _ _ _ _ (by omega) (by omega) (by omega),o9,hsh]
         simp only [if_true,Option.bind_some,decide_true,Bool.not_true,cond_false]
         rw [aj (by simp only [List.length_append]; omega),Option.bind_some,aq hk (by omega)]
         simp only [fls,fl,e1,e2,List.append_assoc]
       . intro k hk hp
         have hkC:k < C.length:=by omega
         have ht:=hat A[k] (List.getElem_mem hk)
         have hc:=hC C[k] (List.getElem_mem hkC)
         have e1:A.getD k []=A[k]:=by simp [List.getD,hk]
         have e2:C.getD k []=C[k]:=by simp [List.getD,hkC]
         have hsh:shp C[k] A[k]=false:=by
           unfold mis at hp
           rw [e1,e2] at hp
           simpa using hp
         unfold iD
         simp only [dlt hk,cond_true,an hk,Option.bind_some]
         rw [n5 _ names (by omega),pq hn ht.2]
         simp only [Bool.false_eq_true,if_false,Option.bind_some,an hkC]
         rw [w64 (x:=16 * (k:Int)) (by omega) (by omega),jh _ _ _ _ (by omega) (by omega) (by omega),o9,hsh]
         rfl
       . simp [iD]
     . intro l k hk
       unfold kL
       simp only [dlt hk,cond_true,an hk,Option.bind_some]
     . intro l; simp [kL]
 . simp [h0]
abbrev Stm:=Int×Int×Int×Int×Bool
def dQ (k:Int):Bool:=(((decide (k=1))||(decide (k=2)))||(decide (k=3)))||(decide (k=5))
def dU (k:Int):Bool:=(decide (1≤k))&&(decide (k≤4))
def eJ (k:Int):Bool:=(decide (k=2))||(decide (k=3))
def fOk (x:Stm):Bool:=decide (0≤x.1)&&decide (x.1≤5)&&(dQ x.1||decide (x.2.1=0))&&(dU x.1||decide (x.2.2.1=0))&&(eJ x.1||(decide (x.2.2.2.1=0)&&!x.2.2.2.2))
theorem six {k:Int} (h:decide (0≤k)&&decide (k≤5)):k=0∨k=1∨k=2∨k=3∨k=4∨k=5:=by simp at h; omega
theorem xf (x:Stm):kN x=some (fOk x):=by
 obtain ⟨k,d,s,r,m⟩:=x
 have h1:jc k=some (dQ k):=rfl
 have h2:jb k=some (dU k):=rfl
 have h3:iI k=some (eJ k):=rfl
 unfold kN fOk
 simp only [h1,h2,h3,Option.bind_some]
 cases (decide (0≤k)&&decide (k≤5)) <;> simp
 cases (dQ k||decide (d=0)) <;> simp
 cases (dU k||decide (s=0)) <;> simp
def loc (xb:List (List St)) (d:Int):Bool:=decide (0≤d)&&decide (d < ((xb.length:Nat):Int))
theorem zE (xb:List (List St)) (d:Int):(decide (d < 0)||decide (((xb.length:Nat):Int)≤d)) = !loc xb d:=by
 unfold loc
 by_cases h1:d < 0 <;> by_cases h2:((xb.length:Nat):Int)≤d <;> simp [h1,h2] <;> omega
theorem gO {xb:List (List St)} {d:Int} (h:loc xb d=true) (hb:∀ t∈xb,t.length≤20):∃ t:List St,aa xb d=some t∧t.length≤20:=by
 unfold loc at h
 simp at h
 exact ⟨_,mY h.1 h.2,hb _ (List.getElem_mem _)⟩
theorem zW {R:Int} {t:List St} (h:rin R t=false) {x:St} (hx:x∈t):0≤x.1∧x.1 < R:=by
 have:=List.any_eq_false.1 h x hx
 simp at this; omega
abbrev Tm:=Int×Int×Int×List Int×List Int×List Int
def gN (x:Tm):Bool:=((!decide (x.2.1=0))||(!decide (x.2.2.1=0)))||(decide (0 < x.2.2.2.2.2.length))
def lZ (x:Tm):Bool :=
 if x.1=1 then decide (x.2.2.2.1.length=1)&&decide (x.2.2.2.2.1.length=0)&&!gN x
 else if x.1=2 then decide (0 < x.2.2.2.1.length)&&!gN x
 else if x.1=3 then decide (x.2.2.2.1.length=0)&&decide (x.2.2.2.2.1.length=0)&&!gN x
 else if x.1=4 then decide (x.2.2.2.1.length=1) else false
def ew (x:Tm):Int:=if lZ x=true then if 16 < x.2.2.2.1.length∨16 < x.2.2.2.2.1.length∨16 < x.2.2.2.2.2.length then 6 else 0 else 3
theorem bnd (a b:Bool):(cond a (some b) (some false):Option Bool)=some (a&&b):=by cases a <;> rfl
theorem dn1 (n:Nat):decide ((n:Int)=1)=decide (n=1):=by by_cases h:n=1 <;> simp [h] <;> omega
theorem dn0 (n:Nat):decide ((n:Int)=0)=decide (n=0):=by by_cases h:n=0 <;> simp [h] <;> omega
theorem dp0 (n:Nat):decide (0 < (n:Int))=decide (0 < n):=by by_cases h:0 < n <;> simp [h] <;> omega
theorem d16 (n:Nat):decide (16 < (n:Int))=decide (16 < n):=by by_cases h:16 < n <;> simp [h] <;> omega
theorem xk {x:Tm} (h:ew x=0):lZ x=true∧x.2.2.2.1.length≤16∧x.2.2.2.2.1.length≤16∧x.2.2.2.2.2.length≤16:=by
 unfold ew at h
 split at h
 . split at h
   . cases h
   . rename_i q; exact ⟨by assumption,by omega,by omega,by omega⟩
 . cases h
theorem xF (xa:List Int) (n:Int) (hn:xa.length≤1073741824):cU xa n=some (!xa.any (fun x=>decide (x < 0)||decide (n≤x))):=by
 unfold cU
 rw [jk (body:=kz xa n) xa (fun x=>decide (x < 0)||decide (n≤x)) (.inr false) (.inl ()) ?_ ?_]
 . cases xa.any (fun x=>decide (x < 0)||decide (n≤x)) <;> rfl
 . intro k hk
   unfold kz
   by_cases q:xa[k] < 0 <;> by_cases q2:n≤xa[k] <;> simp [hk,an hk,aq hk (by omega:xa.length≤9223372036854775807),q,q2]
 . simp [kz]
theorem wN (x:Tm):iT x=some (ew x):=by
 obtain ⟨k,g,d,tos,args,ps⟩:=x
 unfold iT ew lZ gN
 dsimp only
 simp only [dn1,dn0,d16,dp0]
 have hps:decide (0 < ps.length) = !decide (ps.length=0):=by by_cases h:ps.length=0 <;> simp [h] <;> omega
 have hto:decide (0 < tos.length) = !decide (tos.length=0):=by by_cases h:tos.length=0 <;> simp [h] <;> omega
 rw [hps,hto]
 have last:(cond (((decide (16 < tos.length))||(decide (16 < args.length)))||(decide (16 < ps.length))) (some 6) (some 0):Option Int)=some (if 16 < tos.length∨16 < args.length∨16 < ps.length then 6 else 0):=by
   by_cases h1:16 < tos.length <;> by_cases h2:16 < args.length <;> by_cases h3:16 < ps.length <;> simp [h1,h2,h3]
 rw [last]
 generalize (if 16 < tos.length∨16 < args.length∨16 < ps.length then (6:Int) else 0)=z
 generalize decide (tos.length=1)=t1
 generalize decide (tos.length=0)=t0
 generalize decide (args.length=0)=a0
 generalize decide (ps.length=0)=p0
 generalize decide (g=0)=g0
 generalize decide (d=0)=d0
 by_cases k1:k=1
 . subst k1; cases t1 <;> cases t0 <;> cases a0 <;> cases p0 <;> cases g0 <;> cases d0 <;> simp
 . by_cases k2:k=2
   . subst k2; cases t1 <;> cases t0 <;> cases a0 <;> cases p0 <;> cases g0 <;> cases d0 <;> simp
   . by_cases k3:k=3
     . subst k3; cases t1 <;> cases t0 <;> cases a0 <;> cases p0 <;> cases g0 <;> cases d0 <;> simp
     . by_cases k4:k=4
       . subst k4; cases t1 <;> cases t0 <;> cases a0 <;> cases p0 <;> cases g0 <;> cases d0 <;> simp
       . have:(decide (k < 1)||decide (4 < k))=true:=by simp; omega
         simp [this,k1,k2,k3,k4]
theorem vi {xa:List (List St)} {body:Int→Option (Int⊕(Unit⊕Bool))} (hn:xa.length≤1000) (hb:∀ i,body i=cond (decide (i < (((xa.length:Nat):Int)))) ((aa xa i).bind fun x=>(fd x 20).bind fun t=>cond (!t) (some (.inr ((.inr (false))))) (some (.inl (IntKind.wrap .i64 (i + 1))))) (some (.inr ((.inl ()))))) :
   loop body 0=some (if xa.any (fun t=>!decide (t.length≤20)) then (Sum.inr false:Unit⊕Bool) else .inl ()):=by
 refine jk (β:=Unit⊕Bool) xa (fun t=>!decide (t.length≤20)) (.inr false) (.inl ()) ?_ ?_
 . intro k hk
   rw [hb]
   simp only [dlt hk,cond_true,an hk,Option.bind_some,aq hk (by omega:xa.length≤9223372036854775807),pI]
   by_cases q:xa[k].length≤20
   . have:decide (((xa[k].length:Nat):Int)≤20)=true:=by simp; omega
     simp [this,q]
   . have:decide (((xa[k].length:Nat):Int)≤20)=false:=by simp; omega
     simp [this,q]
 . rw [hb]; simp
theorem tG {xa:List (List St)} (h:xa.any (fun t=>!decide (t.length≤20))=false):∀ t∈xa,t.length≤20:=by
 intro t ht
 have:=List.any_eq_false.1 h t ht
 simpa using this
theorem u4 (s:Sg):d6 s=some false∨(d6 s=some true∧s.2.1.length≤20∧s.2.2.1.length≤20∧s.2.2.2.length≤20∧∀ t∈s.2.2.1,t.length≤20):=by
 unfold d6
 by_cases h:20 < s.2.1.length∨20 < s.2.2.1.length
 . have:((decide (20 < (((s.2.1.length:Nat):Int))))||(decide (20 < (((s.2.2.1.length:Nat):Int)))))=true:=by simp; omega
   rw [this]; exact .inl rfl
 . have:((decide (20 < (((s.2.1.length:Nat):Int))))||(decide (20 < (((s.2.2.1.length:Nat):Int)))))=false:=by simp; omega
   rw [this,cond_false,pI]
   by_cases q:s.2.2.2.length≤20
   . have e:decide (((s.2.2.2.length:Nat):Int)≤20)=true:=by simp; omega
     simp only [Option.bind_some,e,Bool.not_true,cond_false]
     rw [vi (body:=qL s) (xa:=s.2.2.1) (by omega) (fun i=>rfl)]
     cases hf:s.2.2.1.any (fun t=>!decide (t.length≤20)) with
     | true=>exact .inl rfl
     | false=>exact .inr ⟨rfl,by omega,by omega,q,tG hf⟩
   . have e:decide (((s.2.2.2.length:Nat):Int)≤20)=false:=by simp; omega
     simp only [Option.bind_some,e]; exact .inl rfl
def bad (n:Int) (xa:List Int):Bool:=xa.any (fun x=>decide (x < 0)||decide (n≤x))
theorem kQ (xa:List Int) (n:Int) (hn:xa.length≤1000):cU xa n=some (!bad n xa):=xF xa n (by omega)
abbrev Ar:=Int×Int×List (List St)×List St×List Sg
abbrev BL:Tp := .cons (.int .i64) (.cons (.sl (.cons (.int .i64) (.one (.int .i64)))) (.cons (.sl (.one (.sl (.cons (.int .i64) (.one .bool))))) (.one (.one (.sl (.cons (.int .i64) (.one .bool)))))))
abbrev CR:Tp := .cons (.int .i64) (.cons (.int .i64) (.cons (.int .i64) (.cons (.sl (.int .i64)) (.cons (.sl (.int .i64)) (.one (.sl (.int .i64)))))))
abbrev lM:Tp := .cons (.int .i64) (.cons (.int .i64) (.cons (.sl (.cons (.int .i64) (.one (.int .i64)))) (.cons (.sl (.one (.sl (.cons (.int .i64) (.one .bool))))) (.cons (.one (.sl (.cons (.int .i64) (.one .bool)))) (.cons (.sl BL) (.one (.sl (.cons (.sl (.cons (.int .i64) (.cons (.int .i64) (.cons (.int .i64) (.cons (.int .i64) (.one .bool)))))) (.one CR)))))))))
abbrev Blk:=List Stm×Tm
abbrev Bo:=Int×Int×List (Int×Int)×List (List St)×List St×List Sg×List Blk
def stm (l:List Blk):Nat:=(l.map (fun x=>x.1.length)).sum
structure Sm (b:Bo):Prop where
 bounds:b.2.2.1.length≤20
 locals:b.2.2.2.1.length≤10
 loc:∀ t∈b.2.2.2.1,t.length≤20
 ret:b.2.2.2.2.1.length≤20
 sigs:b.2.2.2.2.2.1.length≤4
 sig:∀ s∈b.2.2.2.2.2.1,s.2.1.length≤20∧s.2.2.1.length≤20∧s.2.2.2.length≤20∧∀ t∈s.2.2.1,t.length≤20
 blocks:b.2.2.2.2.2.2.length≤8
 term:∀ x∈b.2.2.2.2.2.2,x.2.2.2.2.1.length≤20∧x.2.2.2.2.2.1.length≤20∧x.2.2.2.2.2.2.length≤20
 many:stm b.2.2.2.2.2.2≤24
theorem ua {α:Type} (f:α→Nat):∀ (l:List α) (x:α),x∈l→f x≤(l.map f).sum
 | [],x,h=>by cases h
 | y :: l,x,h=>by
   rcases List.mem_cons.1 h with rfl | h
   . simp
   . have:=ua f l x h; simp; omega
theorem yY {α:Type} (f:α→Nat) (l:List α) (k:Nat):((l.take k).map f).sum≤(l.map f).sum:=by
 have:l.map f=(l.take k).map f++(l.drop k).map f:=by rw [← List.map_append,List.take_append_drop]
 rw [this,List.sum_append]; omega
theorem Sm.stmts {b:Bo} (h:Sm b) {x:Blk} (hx:x∈b.2.2.2.2.2.2):x.1.length≤24:=by
 have:=ua (fun x:Blk=>x.1.length) _ x hx
 have:=h.many; unfold stm at this; omega
theorem sZ {X:List Blk} {k:Nat} (hk:k < X.length):stm (X.take (k + 1))=stm (X.take k) + X[k].1.length:=by
 unfold stm; rw [bY hk,List.map_append,List.sum_append]; simp
theorem yO {b:Bo} (h:Tp.Fit lM b):∀ x∈b.2.2.2.2.2.2,x.1.length≤140737488351232:=by
 obtain ⟨_,_,_,_,_,_,_,h2⟩:=h
 exact fun x hx=>(h2 x hx).1.1
theorem zQ (b:Bo) (hb:∀ x∈b.2.2.2.2.2.2,x.1.length≤140737488351232):eV b=some false∨(eV b=some true∧Sm b):=by
 obtain ⟨u,n,B,L,R,S,X⟩:=b
 unfold eV
 dsimp only at *
 have e1:((((decide (20 < (((B.length:Nat):Int))))||(decide (10 < (((L.length:Nat):Int)))))||(decide (4 < (((S.length:Nat):Int)))))||(decide (8 < (((X.length:Nat):Int)))))=decide (20 < B.length∨10 < L.length∨4 < S.length∨8 < X.length):=by
   by_cases h1:20 < B.length <;> by_cases h2:10 < L.length <;> by_cases h3:4 < S.length <;> by_cases h4:8 < X.length <;> simp [h1,h2,h3,h4] <;> omega
 rw [e1]
 by_cases h0:20 < B.length∨10 < L.length∨4 < S.length∨8 < X.length
 . rw [decide_eq_true h0]; exact .inl rfl
 . rw [decide_eq_false h0,cond_false,pI]
   by_cases q:R.length≤20
   . have e:decide (((R.length:Nat):Int)≤20)=true:=by simp; omega
     simp only [Option.bind_some,e,Bool.not_true,cond_false]
     rw [vi (body:=qJ (u,n,B,L,R,S,X)) (xa:=L) (by omega) (fun i=>rfl)]
     cases hf:L.any (fun t=>!decide (t.length≤20)) with
     | true=>exact .inl rfl
     | false =>
       simp only [Bool.false_eq_true,if_false,Option.bind_some]
       have hS:∃ t,loop (f9 (u,n,B,L,R,S,X)) 0=some t∧(t = .inr false∨(t = .inl ()∧∀ s∈S,s.2.1.length≤20∧s.2.2.1.length≤20∧s.2.2.2.length≤20∧∀ t∈s.2.2.1,t.length≤20)):=by
         have hl:=fv (body:=f9 (u,n,B,L,R,S,X)) (fun k=>∃ h:k < S.length,d6 S[k]=some false) (fun k:Nat=>(k:Int)) S.length (fun _ => .inr false) (.inl ()) ?_ ?_ ?_
         . rcases hl with ⟨k,_,_,_,h4⟩ | ⟨h1,h2⟩
           . exact ⟨_,h4,.inl rfl⟩
           . refine ⟨_,h2,.inr ⟨rfl,fun s hs=>?_⟩⟩
             obtain ⟨k,hk,rfl⟩:=List.getElem_of_mem hs
             rcases u4 S[k] with h | ⟨h,f1,f2,f3,f4⟩
             . exact absurd ⟨hk,h⟩ (h1 k hk)
             . exact ⟨f1,f2,f3,f4⟩
         . intro k hk hp
           unfold f9
           rcases u4 S[k] with h | ⟨h,_⟩
           . exact absurd ⟨hk,h⟩ hp
           . simp only [dlt hk,cond_true,an hk,Option.bind_some,show d6 (S[k].1,S[k].2.1,S[k].2.2.1,S[k].2.2.2)=_ from h,aq hk (by omega:S.length≤9223372036854775807)]
             rfl
         . rintro k hk ⟨_,hp⟩
           unfold f9
           simp only [dlt hk,cond_true,an hk,Option.bind_some,show d6 (S[k].1,S[k].2.1,S[k].2.2.1,S[k].2.2.2)=_ from hp]
           rfl
         . simp [f9]
       obtain ⟨t,ht,hS⟩:=hS
       rw [ht]
       rcases hS with rfl | ⟨rfl,hS⟩
       . exact .inl rfl
       . simp only [Option.bind_some]
         have hX:=fv (body:=eP (u,n,B,L,R,S,X)) (fun k=>∃ h:k < X.length,(((decide (20 < ((((X[k]).2.2.2.2.1.length:Nat):Int))))||(decide (20 < ((((X[k]).2.2.2.2.2.1.length:Nat):Int)))))||(decide (20 < ((((X[k]).2.2.2.2.2.2.length:Nat):Int)))))=true) (fun k:Nat=>(((stm (X.take k):Nat):Int),(k:Int))) X.length (fun _ => .inr false) (.inl ((stm X:Nat):Int)) ?_ ?_ ?_
         . rcases hX with ⟨k,_,_,_,h4⟩ | ⟨h1,h2⟩
           . have h4':loop (eP (u,n,B,L,R,S,X)) (0,0)=some (.inr false):=by simpa [stm] using h4
             rw [h4']; exact .inl rfl
           . have h2':loop (eP (u,n,B,L,R,S,X)) (0,0)=some (.inl ((stm X:Nat):Int)):=by simpa [stm] using h2
             rw [h2']
             by_cases hm:stm X≤24
             . refine .inr ⟨by simp; omega,⟨by dsimp only; omega,by dsimp only; omega,tG hf,q,by dsimp only; omega,hS,by dsimp only; omega,fun x hx=>?_,hm⟩⟩
               obtain ⟨k,hk,rfl⟩:=List.getElem_of_mem hx
               have hn:=h1 k hk
               dsimp only at hk hn
               have hn2:(((decide (20 < ((((X[k]).2.2.2.2.1.length:Nat):Int))))||(decide (20 < ((((X[k]).2.2.2.2.2.1.length:Nat):Int)))))||(decide (20 < ((((X[k]).2.2.2.2.2.2.length:Nat):Int)))))=false:=by
                 cases hc:(((decide (20 < ((((X[k]).2.2.2.2.1.length:Nat):Int))))||(decide (20 < ((((X[k]).2.2.2.2.2.1.length:Nat):Int)))))||(decide (20 < ((((X[k]).2.2.2.2.2.2.length:Nat):Int))))) with
                 | false=>rfl
                 | true=>exact absurd ⟨hk,hc⟩ hn
               simp at hn2
               dsimp only
               omega
             . refine .inl ?_
               simp; omega
         . intro k hk hp
           have hn2:(((decide (20 < ((((X[k]).2.2.2.2.1.length:Nat):Int))))||(decide (20 < ((((X[k]).2.2.2.2.2.1.length:Nat):Int)))))||(decide (20 < ((((X[k]).2.2.2.2.2.2.length:Nat):Int)))))=false:=by
             cases hc:(((decide (20 < ((((X[k]).2.2.2.2.1.length:Nat):Int))))||(decide (20 < ((((X[k]).2.2.2.2.2.1.length:Nat):Int)))))||(decide (20 < ((((X[k]).2.2.2.2.2.2.length:Nat):Int))))) with
             | false=>rfl
             | true=>exact absurd ⟨hk,hc⟩ hp
           have a1:=hb X[k] (List.getElem_mem hk)
           have a2:stm (X.take k)≤k * 140737488351232:=by
             unfold stm
             have:∀ q:List Blk,(∀ x∈q,x∈X)→(q.map (fun x=>x.1.length)).sum≤q.length * 140737488351232:=by
               intro q
               induction q with
               | nil=>intro _; simp
               | cons x q ih =>
                 intro hq
                 have:=ih (fun y hy=>hq y (by simp [hy]))
                 have:=hb x (hq x (by simp))
                 simp only [List.map_cons,List.sum_cons,List.length_cons,Nat.succ_mul]; omega
             have h3:=this (X.take k) (fun x hx=>List.mem_of_mem_take hx)
             rw [List.length_take,Nat.min_eq_left (by omega)] at h3
             exact h3
           have a3:k≤8:=by omega
           have a4:k * 140737488351232≤8 * 140737488351232:=Nat.mul_le_mul_right _ a3
           unfold eP
           simp only [dlt hk,cond_true,an hk,Option.bind_some,hn2,cond_false,aq hk (by omega:X.length≤9223372036854775807)]
           rw [w64 (by omega) (by omega),sZ hk]
           simp
         . rintro k hk ⟨_,hp⟩
           unfold eP
           simp only [dlt hk,cond_true,an hk,Option.bind_some,hp]
         . unfold eP
           simp
   . have e:decide (((R.length:Nat):Int)≤20)=false:=by simp; omega
     simp only [Option.bind_some,e]; exact .inl rfl
section
abbrev Flt:=Int×Int×Int×Int
def sE (L:List (List St)) (R:Int) (x:Stm):Int:=((eS x L R).getD ([],0)).2
def tE (a:Ar) (x:Tm):Int:=((eR x a).getD ([],0)).2
def cd (b:Bo):Ar:=(((b.2.2.2.2.2.2.length:Nat):Int),b.2.1,b.2.2.2.1,b.2.2.2.2.1,b.2.2.2.2.2.1)
def jO (b:Bo):Flt:=if b.1 < 1∨b.2.1 < b.1 then (7,0,0,0) else if 65536 < b.2.1 then (6,0,0,0) else (0,0,0,0)
def jA (b:Bo):Flt:=match b.2.2.1.findIdx? (bK b.1) with | some k=>(7,1,(k:Int),0) | none=>(0,0,0,0)
def j6 (b:Bo):Flt:=if b.2.2.2.1=[] then (14,2,0,0) else match b.2.2.2.1.findIdx? (fun t=>!decide (rck b.2.1 t=0)) with | some k=>(rck b.2.1 (b.2.2.2.1.getD k []),2,(k:Int),0) | none=>(0,0,0,0)
def jZ (b:Bo):Flt:=if rck b.1 b.2.2.2.2.1=0 then if shp b.2.2.2.2.1 (b.2.2.2.1.getD 0 []) then (0,3,0,0) else (8,3,0,0) else (rck b.1 b.2.2.2.2.1,3,0,0)
def j5 (b:Bo):Flt:=match b.2.2.2.2.2.1.findIdx? (fun s=>!decide (chk s=0)) with | some k=>(chk (b.2.2.2.2.2.1.getD k (0,[],[],[])),4,(k:Int),0) | none=>(0,0,0,0)
def mQ (b:Bo):Flt:=if b.2.2.2.2.2.2=[] then (14,5,0,0) else (0,0,0,0)
def dq (b:Bo) (x:Blk):Option (Int×Int×Int) :=
 match x.1.findIdx? (fun s=>!decide (sE b.2.2.2.1 b.2.1 s=0)) with
 | some j=>some (sE b.2.2.2.1 b.2.1 (x.1.getD j (0,0,0,0,false)),6,(j:Int))
 | none=>if tE (cd b) x.2=0 then none else some (tE (cd b) x.2,7,0)
def jQ (k:Nat) (o:Option (Int×Int×Int)):Flt:=match o with | some (e,p,j)=>(e,p,(k:Int),j) | none=>(0,0,0,0)
def gS (b:Bo):Flt:=match b.2.2.2.2.2.2.findIdx? (fun x=>(dq b x).isSome) with | some k=>jQ k (dq b (b.2.2.2.2.2.2.getD k ([],0,0,0,[],[],[]))) | none=>(0,0,0,0)
def or0 (a b:Flt):Flt:=if a.1=0 then b else a
def vck (b:Bo):Flt:=or0 (jO b) (or0 (jA b) (or0 (j6 b) (or0 (jZ b) (or0 (j5 b) (or0 (mQ b) (gS b))))))
section
variable {b:Bo} (h:Sm b)
include h
theorem xw:iV b=some (or0 (jO b) (jA b)):=by
 have h1:=h.bounds
 obtain ⟨u,n,B,L,R,S,X⟩:=b
 unfold iV jO jA or0
 dsimp only at *
 by_cases q:u < 1∨n < u
 . have:(decide (u < 1)||decide (n < u))=true:=by simpa using q
   rw [this,if_pos q]; rfl
 . have:(decide (u < 1)||decide (n < u))=false:=by simpa using q
   rw [this,if_neg q,cond_false]
   by_cases q2:65536 < n
   . rw [decide_eq_true q2,if_pos q2]; rfl
   . rw [decide_eq_false q2,if_neg q2,cond_false,decide_eq_false (by omega),cond_false,cW (body:=kI (u,n,B,L,R,S,X)) B (bK u) (fun k=>(.inr (7,1,(k:Int),0):Unit⊕Flt)) (.inl ()) ?_ ?_]
     . cases B.findIdx? (bK u) <;> rfl
     . intro k hk
       unfold kI
       simp only [dlt hk,cond_true,an hk,Option.bind_some,aq hk (by omega:B.length≤9223372036854775807)]
       show cond (bK u B[k]) _ _=_
       cases bK u B[k] <;> rfl
     . simp [kI]
theorem wy:iO b=some (or0 (j6 b) (or0 (jZ b) (j5 b))):=by
 have h1:=h.locals
 have h2:=h.sigs
 have h3:=h.ret
 have h4:=h.loc
 obtain ⟨u,n,B,L,R,S,X⟩:=b
 unfold iO j6 jZ j5
 dsimp only at *
 by_cases q:L=[]
 . subst q; rfl
 . have q' : ¬ ((L.length : Nat) : Int) = 0 := fun hc => q (List.length_eq_zero_iff.1 (by omega))
   rw [if_neg q,decide_eq_false q',cond_false,decide_eq_false (by omega),cond_false,cW (body:=kA (u,n,B,L,R,S,X)) L (fun t=>!decide (rck n t=0)) (fun k=>(.inr (rck n (L.getD k []),2,(k:Int),0):Unit⊕Flt)) (.inl ()) ?_ ?_]
   . cases hf:L.findIdx? (fun t=>!decide (rck n t=0)) with
     | some k =>
       obtain ⟨hk,h5,_⟩:=List.findIdx?_eq_some_iff_getElem.1 hf
       have e:L.getD k []=L[k]:=by simp [List.getD,hk]
       have:¬ rck n L[k]=0:=by simpa using h5
       simp only [or0,e,if_neg this]; rfl
     | none =>
       have hp:0 < L.length:=List.length_pos_iff.2 q
       have e0:L.getD 0 []=L[0]:=by simp [List.getD,hp]
       simp only [Option.bind_some,kV]
       by_cases q2:rck u R=0
       . have g0:aa L 0=some L[0]:=an (k:=0) hp
         simp only [q2,decide_true,Bool.not_true,cond_false,g0,Option.bind_some,e0]
         rw [jd _ _ (by have:=h4 L[0] (List.getElem_mem hp); omega),li,Option.bind_some]
         cases hs:shp R L[0] with
         | false=>rfl
         | true =>
           simp only [Bool.not_true,cond_false]
           rw [decide_eq_false (by omega),cond_false,cW (body:=kE (u,n,B,L,R,S,X)) S (fun s=>!decide (chk s=0)) (fun k=>(.inr (chk (S.getD k (0,[],[],[])),4,(k:Int),0):Unit⊕Flt)) (.inl ()) ?_ ?_]
           . cases S.findIdx? (fun s=>!decide (chk s=0)) <;> rfl
           . intro k hk
             unfold kE
             have e:S.getD k (0,[],[],[])=S[k]:=by simp [List.getD,hk]
             simp only [dlt hk,cond_true,an hk,Option.bind_some,aq hk (by omega:S.length≤9223372036854775807),e,show eT (S[k].1,S[k].2.1,S[k].2.2.1,S[k].2.2.2)=_ from qY S[k]]
             cases (!decide (chk S[k]=0)) <;> rfl
           . simp [kE]
       . simp [q2,or0]
   . intro k hk
     unfold kA
     have e:L.getD k []=L[k]:=by simp [List.getD,hk]
     simp only [dlt hk,cond_true,an hk,Option.bind_some,aq hk (by omega:L.length≤9223372036854775807),e,kV]
     cases (!decide (rck n L[k]=0)) <;> rfl
   . simp [kA]
end
end
section
theorem rn (x:Stm) (xb:List (List St)) (xc:Int) (hb:∀ t∈xb,t.length≤20):∃ l e,eS x xb xc=some (l,e)∧(e=0→fOk x=true∧(dQ x.1=true→loc xb x.2.1=true)∧(dU x.1=true→loc xb x.2.2.1=true)∧(eJ x.1=true→0≤x.2.2.2.1∧x.2.2.2.1 < xc)):=by
 obtain ⟨k,d,s,r,m⟩:=x
 unfold eS
 have g1:jc k=some (dQ k):=rfl
 have g2:jb k=some (dU k):=rfl
 have g3:iI k=some (eJ k):=rfl
 simp only [xf,Option.bind_some,g1,g2,g3,zE]
 cases hf:fOk (k,d,s,r,m) with
 | false=>exact ⟨[],3,rfl,by simp⟩
 | true =>
   have hk:k=0∨k=1∨k=2∨k=3∨k=4∨k=5:=by
     unfold fOk at hf
     simp only [Bool.and_eq_true] at hf
     exact six (by simpa using hf.1.1.1)
   have hcl (c1 c2 c3:Bool):(cond c1 (some true) (some c2):Option Bool).bind (fun t=>cond t (some true) (some c3))=some (c1||c2||c3):=by cases c1 <;> cases c2 <;> rfl
   simp only [Bool.not_true,cond_false]
   cases h1:(dQ k&&!loc xb d) with
   | true=>exact ⟨[],7,by simp,by simp⟩
   | false =>
     cases h2:(dU k&&!loc xb s) with
     | true=>exact ⟨[],7,by simp,by simp⟩
     | false =>
       cases h3:(eJ k&&(decide (r < 0)||decide (xc≤r))) with
       | true=>exact ⟨[],7,by simp,by simp⟩
       | false =>
         have hg:True∧(dQ k=true→loc xb d=true)∧(dU k=true→loc xb s=true)∧(eJ k=true→0≤r∧r < xc):=by
           refine ⟨trivial,fun h=>by simpa [h] using h1,fun h=>by simpa [h] using h2,fun h=>?_⟩
           rw [h,Bool.true_and,Bool.or_eq_false_iff,decide_eq_false_iff_not,decide_eq_false_iff_not] at h3
           omega
         simp only [cond_false,Option.bind_some]
         rcases hk with rfl | rfl | rfl | rfl | rfl | rfl
         . exact ⟨[],0,rfl,fun _=>hg⟩
         . obtain ⟨t1,a1,b1⟩:=gO (hg.2.1 rfl) hb
           obtain ⟨t2,a2,b2⟩:=gO (hg.2.2.1 rfl) hb
           simp only [a1,a2,decide_true,cond_true,Option.bind_some]
           rw [jh _ _ _ _ (by omega) (by omega) (by omega)]
           exact ⟨_,_,rfl,fun _=>hg⟩
         . obtain ⟨t1,a1,b1⟩:=gO (hg.2.1 rfl) hb
           obtain ⟨t2,a2,b2⟩:=gO (hg.2.2.1 rfl) hb
           refine ⟨(lo r m t2 t1).1,(lo r m t2 t1).2,?_,fun _=>hg⟩
           simp [a1,a2,wY t2 t1 r m (by omega)]
         . obtain ⟨t1,a1,b1⟩:=gO (hg.2.1 rfl) hb
           obtain ⟨t2,a2,b2⟩:=gO (hg.2.2.1 rfl) hb
           refine ⟨(ag r m t2 t1).1,(ag r m t2 t1).2,?_,fun _=>hg⟩
           simp [a1,a2,wL t2 t1 r m (by omega)]
         . exact ⟨[],0,rfl,fun _=>hg⟩
         . exact ⟨[],0,rfl,fun _=>hg⟩
theorem w9 {x:Tm} {a:Ar} (hx:x.2.2.2.2.1.length≤20) (hb:bad (a.2.2.1.length:Int) x.2.2.2.2.1=false) (hL:∀ t∈a.2.2.1,t.length≤20) :
   ∃ C:List (List St),loop (iA x a) ([],0)=some C∧(∀ t∈C,t.length≤20)∧∀ t∈C,t∈a.2.2.1:=by
 have hin (k:Nat) (hk:k < x.2.2.2.2.1.length):0≤x.2.2.2.2.1[k]∧x.2.2.2.2.1[k] < (a.2.2.1.length:Int):=by
   have:=List.any_eq_false.1 hb _ (List.getElem_mem hk)
   simp at this; omega
 have hl:=cB (body:=iA x a) (fun k:Nat=>((x.2.2.2.2.1.take k).map (fun i=>a.2.2.1.getD i.toNat []),(k:Int))) x.2.2.2.2.1.length (b:=x.2.2.2.2.1.map (fun i=>a.2.2.1.getD i.toNat [])) ?_ ?_
 . have hm:∀ t∈x.2.2.2.2.1.map (fun i=>a.2.2.1.getD i.toNat []),t∈a.2.2.1:=by
     intro t ht
     obtain ⟨i,hi,rfl⟩:=List.mem_map.1 ht
     obtain ⟨k,hk,rfl⟩:=List.getElem_of_mem hi
     have h2:=hin k hk
     have:x.2.2.2.2.1[k].toNat < a.2.2.1.length:=by omega
     have e:a.2.2.1.getD x.2.2.2.2.1[k].toNat []=a.2.2.1[x.2.2.2.2.1[k].toNat]:=by simp [List.getD,this]
     rw [e]; exact List.getElem_mem _
   refine ⟨_,hl,fun t ht=>?_,hm⟩
   obtain ⟨i,hi,rfl⟩:=List.mem_map.1 ht
   obtain ⟨k,hk,rfl⟩:=List.getElem_of_mem hi
   have h2:=hin k hk
   have:x.2.2.2.2.1[k].toNat < a.2.2.1.length:=by omega
   have e:a.2.2.1.getD x.2.2.2.2.1[k].toNat []=a.2.2.1[x.2.2.2.2.1[k].toNat]:=by simp [List.getD,this]
   rw [e]; exact hL _ (List.getElem_mem _)
 . intro k hk
   have h2:=hin k hk
   have h3:x.2.2.2.2.1[k].toNat < a.2.2.1.length:=by omega
   have e:a.2.2.1.getD x.2.2.2.2.1[k].toNat []=a.2.2.1[x.2.2.2.2.1[k].toNat]:=by simp [List.getD,h3]
   unfold iA
   simp only [dlt hk,cond_true,an hk,Option.bind_some]
   rw [mY h2.1 h2.2,Option.bind_some,aj (by simp; omega),Option.bind_some,aq hk (by omega),bY hk,List.map_append]
   simp only [List.map_cons,List.map_nil,e]
 . simp [iA]
structure TmG (x:Tm) (a:Ar):Prop where
 form:ew x=0
 tos:bad a.1 x.2.2.2.1=false
 args:bad (a.2.2.1.length:Int) x.2.2.2.2.1=false
 par:bad a.2.1 x.2.2.2.2.2=false
 call:x.1=4→bad (a.2.2.1.length:Int) [x.2.2.1]=false∧bad (a.2.2.2.2.length:Int) [x.2.1]=false
theorem rm (x:Tm) (a:Ar) (l2:x.2.2.2.1.length≤20) (l3:x.2.2.2.2.1.length≤20) (l4:x.2.2.2.2.2.length≤20) (hR:a.2.2.2.1.length≤20) (hL:∀ t∈a.2.2.1,t.length≤20) (hS:∀ s∈a.2.2.2.2,s.2.1.length≤20∧s.2.2.1.length≤20∧s.2.2.2.length≤20∧∀ t∈s.2.2.1,t.length≤20) :
   ∃ l e,eR x a=some (l,e)∧(e=0→TmG x a):=by
 unfold eR
 rw [show iT (x.1,x.2.1,x.2.2.1,x.2.2.2.1,x.2.2.2.2.1,x.2.2.2.2.2)=some (ew x) from wN x]
 by_cases hf:ew x=0
 . have o1 (i n:Int):cU [i] n=some (!bad n [i]):=kQ [i] n (by simp)
   simp only [hf,Option.bind_some,decide_true,Bool.not_true,cond_false,kQ x.2.2.2.1 _ (by omega:x.2.2.2.1.length≤1000),kQ x.2.2.2.2.1 _ (by omega:x.2.2.2.2.1.length≤1000),kQ x.2.2.2.2.2 _ (by omega:x.2.2.2.2.2.length≤1000),o1,Bool.not_not]
   have seven:∃ l e,(some (([]:List Nd),(7:Int)):Option (List Nd×Int))=some (l,e)∧(e=0→TmG x a):=⟨[],7,rfl,by simp⟩
   cases b1:bad a.1 x.2.2.2.1 with
   | true=>exact seven
   | false =>
     cases b2:bad (a.2.2.1.length:Int) x.2.2.2.2.1 with
     | true=>exact seven
     | false =>
       cases b3:bad a.2.1 x.2.2.2.2.2 with
       | true=>exact seven
       | false =>
         by_cases k4:x.1=4
         . have n3:¬ x.1=3:=by omega
           rw [decide_eq_true k4,decide_eq_false n3]
           cases b4:bad (a.2.2.1.length:Int) [x.2.2.1] with
           | true=>exact seven
           | false =>
             cases b5:bad (a.2.2.2.2.length:Int) [x.2.1] with
             | true=>exact seven
             | false =>
               obtain ⟨C,c1,c2,c3⟩:=w9 l3 b2 hL
               have hg:TmG x a:=⟨hf,b1,b2,b3,fun _=>⟨b4,b5⟩⟩
               simp [bad] at b4 b5
               simp only [Bool.or_self,Bool.and_false,Bool.not_false,Bool.not_true,cond_false,cond_true,Option.bind_some,c1,Bool.false_and,Bool.true_and]
               rw [mY b5.1 b5.2,mY b4.1 b4.2]
               have hs:=hS _ (List.getElem_mem (l:=a.2.2.2.2) (n:=x.2.1.toNat) (by omega))
               have ht:=hL _ (List.getElem_mem (l:=a.2.2.1) (n:=x.2.2.1.toNat) (by omega))
               simp only [Option.bind_some]
               generalize a.2.2.2.2[x.2.1.toNat]=S at hs ⊢
               generalize a.2.2.1[x.2.2.1.toNat]=D at ht ⊢
               rw [show iW (S.1,S.2.1,S.2.2.1,S.2.2.2) x.2.2.2.2.2 C D=_ from xm S _ C D hs.2.2.1 hs.2.2.2 c2 ht]
               exact ⟨_,_,rfl,fun _=>hg⟩
         . have hg:TmG x a:=⟨hf,b1,b2,b3,fun h=>absurd h k4⟩
           rw [decide_eq_false k4]
           by_cases k3:x.1=3
           . rw [decide_eq_true k3]
             cases hz:a.2.2.1 with
             | nil=>exact ⟨[],14,by simp,by simp⟩
             | cons t ts =>
               have ht:=hL t (by rw [hz]; simp)
               have hl0:decide ((((t :: ts).length:Nat):Int)=0)=false:=decide_eq_false (by simp; omega)
               simp only [hl0,Bool.or_self,Bool.and_false,Bool.false_and,Bool.not_false,Bool.not_true,cond_false,cond_true,Option.bind_some,show aa (t :: ts) 0=some t from rfl]
               rw [jh _ _ _ _ (by omega) (by omega) (by omega)]
               exact ⟨_,_,rfl,fun _=>hg⟩
           . rw [decide_eq_false k3]
             exact ⟨[],0,rfl,fun _=>hg⟩
 . exact ⟨[],ew x,by simp [hf],fun h=>absurd h hf⟩
section
variable {b:Bo} (h:Sm b)
include h
theorem A5 {x:Stm}:∃ l,eS x b.2.2.2.1 b.2.1=some (l,sE b.2.2.2.1 b.2.1 x):=by
 obtain ⟨l,e,h2,_⟩:=rn x b.2.2.2.1 b.2.1 h.loc
 have:sE b.2.2.2.1 b.2.1 x=e:=by unfold sE; rw [h2]; rfl
 exact ⟨l,by rw [h2,this]⟩
theorem A0 {x:Blk} (hx:x∈b.2.2.2.2.2.2):∃ l,eR x.2 (cd b)=some (l,tE (cd b) x.2):=by
 obtain ⟨a1,a2,a3⟩:=h.term x hx
 obtain ⟨l,e,h2,_⟩:=rm x.2 (cd b) a1 a2 a3 h.ret h.loc h.sig
 have:tE (cd b) x.2=e:=by unfold tE; rw [h2]; rfl
 exact ⟨l,by rw [h2,this]⟩
theorem w7:iH b=some (or0 (mQ b) (gS b)):=by
 have h1:=h.blocks
 have h2:=h.many
 have hst:=fun x (hx:x∈b.2.2.2.2.2.2)=>h.stmts hx
 have hT:=fun x (hx:x∈b.2.2.2.2.2.2)=>A0 h hx
 have hS:=fun x=>A5 h (x:=x)
 unfold iH mQ gS
 by_cases q:b.2.2.2.2.2.2=[]
 . rw [if_pos q,q]; rfl
 . have q' : ¬ ((b.2.2.2.2.2.2.length : Nat) : Int) = 0 := fun hc => q (List.length_eq_zero_iff.1 (by omega))
   rw [if_neg q,decide_eq_false q',cond_false,decide_eq_false (by omega),cond_false]
   have hl1:=cB (body:=iw b) (fun k:Nat=>(((stm (b.2.2.2.2.2.2.take k):Nat):Int),(k:Int))) b.2.2.2.2.2.2.length (b := .inl ()) ?_ ?_
   . have hl1':loop (iw b) (0,0)=some (.inl ()):=by simpa [stm] using hl1
     rw [hl1',Option.bind_some]
     dsimp only
     rw [cW (body:=kx b) b.2.2.2.2.2.2 (fun x=>(dq b x).isSome) (fun k=>(.inr (jQ k (dq b (b.2.2.2.2.2.2.getD k ([],0,0,0,[],[],[])))):Unit⊕Flt)) (.inl ()) ?_ ?_]
     . cases b.2.2.2.2.2.2.findIdx? (fun x=>(dq b x).isSome) <;> rfl
     . intro k hk
       unfold kx
       have e:b.2.2.2.2.2.2.getD k ([],0,0,0,[],[],[])=b.2.2.2.2.2.2[k]:=by simp [List.getD,hk]
       obtain ⟨l,hT'⟩:=hT _ (List.getElem_mem hk)
       have hst':=hst _ (List.getElem_mem hk)
       simp only [dlt hk,cond_true,an hk,Option.bind_some,aq hk (by omega:b.2.2.2.2.2.2.length≤9223372036854775807),e]
       generalize b.2.2.2.2.2.2[k]=x at *
       rw [cW (body:=ky b k x) x.1 (fun s=>!decide (sE b.2.2.2.1 b.2.1 s=0)) (fun j=>(.inr (.inr (.inr (sE b.2.2.2.1 b.2.1 (x.1.getD j (0,0,0,0,false)),6,(k:Int),(j:Int)))):Unit⊕(Int⊕(Unit⊕Flt)))) (.inl ()) ?_ ?_]
       . unfold dq
         cases hf:x.1.findIdx? (fun s=>!decide (sE b.2.2.2.1 b.2.1 s=0)) with
         | some j=>rfl
         | none =>
           simp only [Option.bind_some]
           rw [show eR (x.2.1,x.2.2.1,x.2.2.2.1,x.2.2.2.2.1,x.2.2.2.2.2.1,x.2.2.2.2.2.2) (((b.2.2.2.2.2.2.length:Nat):Int),b.2.1,b.2.2.2.1,b.2.2.2.2.1,b.2.2.2.2.2.1)=_ from hT',Option.bind_some]
           by_cases q3:tE (cd b) x.2=0
           . simp [q3]
           . simp [q3,jQ]
       . intro j hj
         obtain ⟨l,hS'⟩:=hS x.1[j]
         have e2:x.1.getD j (0,0,0,0,false)=x.1[j]:=by simp [List.getD,hj]
         unfold ky
         simp only [dlt hj,cond_true,an hj,Option.bind_some,aq hj (by omega:x.1.length≤9223372036854775807),e2,show eS (x.1[j].1,x.1[j].2.1,x.1[j].2.2.1,x.1[j].2.2.2.1,x.1[j].2.2.2.2) b.2.2.2.1 b.2.1=_ from hS']
         cases (!decide (sE b.2.2.2.1 b.2.1 x.1[j]=0)) <;> rfl
       . simp [ky]
     . simp [kx]
   . intro k hk
     have a1:=sZ hk
     have a2:=yY (fun x:Blk=>x.1.length) b.2.2.2.2.2.2 (k + 1)
     have a3:stm (b.2.2.2.2.2.2.take (k + 1))≤stm b.2.2.2.2.2.2:=a2
     unfold iw
     simp only [dlt hk,cond_true,an hk,Option.bind_some,aq hk (by omega:b.2.2.2.2.2.2.length≤9223372036854775807)]
     rw [w64 (by omega) (by omega),decide_eq_false (by omega),cond_false,a1]
     simp
   . unfold iw
     simp
theorem wV:iR b=some (vck b):=by
 unfold iR vck
 rw [show iV b=_ from xw h,show iO b=_ from wy h,show iH b=_ from w7 h]
 generalize jO b=v1
 generalize jA b=v2
 generalize j6 b=v3
 generalize jZ b=v4
 generalize j5 b=v5
 generalize or0 (mQ b) (gS b)=v6
 simp only [Option.bind_some]
 have key:∀ a c:Flt,(cond (!decide ((or0 a c).1=0)) (some ((or0 a c).1,(or0 a c).2.1,(or0 a c).2.2.1,(or0 a c).2.2.2)) none:Option Flt)=(cond (!decide ((or0 a c).1=0)) (some (or0 a c)) none):=fun a c=>rfl
 unfold or0
 by_cases q1:v1.1=0 <;> by_cases q2:v2.1=0 <;> by_cases q3:v3.1=0 <;> by_cases q4:v4.1=0 <;> by_cases q5:v5.1=0 <;> simp [q1,q2,q3,q4,q5]
theorem okR:je b=some (decide ((vck b).1=0)):=by
 unfold je
 rw [show iR b=_ from wV h]
 simp only [Option.bind_some]
theorem Ak {x:Stm} (h0:sE b.2.2.2.1 b.2.1 x=0):fOk x=true∧(dQ x.1=true→loc b.2.2.2.1 x.2.1=true)∧(dU x.1=true→loc b.2.2.2.1 x.2.2.1=true)∧(eJ x.1=true→0≤x.2.2.2.1∧x.2.2.2.1 < b.2.1):=by
 obtain ⟨l,e,h2,h3⟩:=rn x b.2.2.2.1 b.2.1 h.loc
 have:sE b.2.2.2.1 b.2.1 x=e:=by unfold sE; rw [h2]; rfl
 exact h3 (by omega)
theorem Ac {x:Blk} (hx:x∈b.2.2.2.2.2.2) (h0:tE (cd b) x.2=0):TmG x.2 (cd b):=by
 obtain ⟨a1,a2,a3⟩:=h.term x hx
 obtain ⟨l,e,h2,h3⟩:=rm x.2 (cd b) a1 a2 a3 h.ret h.loc h.sig
 have:tE (cd b) x.2=e:=by unfold tE; rw [h2]; rfl
 exact h3 (by omega)
end
theorem gB {a c:Flt} (h:(or0 a c).1=0):a.1=0∧c.1=0:=by
 unfold or0 at h
 by_cases q:a.1=0
 . rw [if_pos q] at h; exact ⟨q,h⟩
 . rw [if_neg q] at h; exact absurd h q
end
section
open Go.RowKit Nu
theorem dE {α β:Type} (G:α→List β) (c:Nat):∀ (xs:List α),(∀ x∈xs,(G x).length≤c)→(xs.flatMap G).length≤xs.length * c
 | [],_=>by simp
 | x :: xs,h=>by
   have h1:=h x (by simp)
   have h2:=dE G c xs (fun y hy=>h y (by simp [hy]))
   rw [List.flatMap_cons,List.length_append,List.length_cons,Nat.succ_mul]; omega
theorem cz {α β:Type} (xs:List α) (G:α→List β) (pre:List β) (c:Nat) {body:List β×Int→Option ((List β×Int)⊕List β)} (hc:∀ x∈xs,(G x).length≤c)
   (hb:∀ (k:Nat) (h:k < xs.length) (acc:List β),acc.length≤pre.length + xs.length * c→body (acc,(k:Int))=some (.inl (acc++G xs[k],((k + 1:Nat):Int)))) (he:∀ acc,body (acc,((xs.length:Nat):Int))=some (.inr acc)) :
   loop body (pre,0)=some (pre++xs.flatMap G):=by
 refine kY (body:=body) xs (fun k=>pre++(xs.take k).flatMap G) _ (fun k hk=>?_) ?_ |> Eq.trans (by simp)
 . rw [hb k hk,bY hk,List.flatMap_append]
   . simp
   . have h1:=dE G c (xs.take k) (fun x hx=>hc x (List.mem_of_mem_take hx))
     rw [List.length_append]
     have h2:(xs.take k).length * c≤xs.length * c:=Nat.mul_le_mul_right _ (by rw [List.length_take]; omega)
     omega
 . rw [List.take_length]; exact he _
theorem mG {α β:Type} (g:α→β) (xs:List α):xs.flatMap (fun x=>[g x])=xs.map g:=by
 induction xs with
 | nil=>rfl
 | cons x xs ih=>rw [List.flatMap_cons,ih]; rfl
theorem oO {b:Int×Int} (h1:I64 b.1) (h2:I64 b.2):(pair b).length≤39:=by
 have l1:=az h1; have l2:=az h2
 unfold pair; split
 . simp
 . simp; omega
theorem gt {w:Wd} {l:List (Int×Int)} (hw:w.length≤39) (hl:l.length≤20) (h:∀ b∈l,I64 b.1∧I64 b.2):(ae 32 (w :: l.map pair)).length≤840:=by
 have:=lC 32 39 (w :: l.map pair) (fun p hp=>by
   rcases List.mem_cons.1 hp with rfl | hp
   . exact hw
   . obtain ⟨b,hb,rfl⟩:=List.mem_map.1 hp; exact oO (h b hb).1 (h b hb).2)
 rw [List.length_cons,List.length_map] at this
 have:(l.length + 1) * 40≤21 * 40:=Nat.mul_le_mul_right _ (by omega)
 omega
theorem sD (w:Wd) (l:List (Int×Int)) (hw:w.length≤39) (hl:l.length≤20) (h:∀ b∈l,I64 b.1∧I64 b.2):iP w l=some (ae 32 (w :: l.map pair)):=by
 unfold iP
 rw [cz l (fun b=>[pair b]) [w] 1 (by simp) (fun k hk acc ha=>by
   unfold nB
   have hb:=h l[k] (List.getElem_mem hk)
   simp only [List.length_singleton] at ha
   simp only [dlt hk,cond_true,an hk,Option.bind_some,show iJ (l[k].1,l[k].2)=_ from yX l[k] hb.1 hb.2,aq hk (by omega)]
   rw [aj (by simp; omega)]; rfl) (fun acc=>by unfold nB; simp only [dge (show ¬ l.length < l.length by omega),cond_false])]
 rw [mG,Option.bind_some]
 unfold aN
 have:=gt hw hl h
 rw [show [w]++l.map pair=w :: l.map pair from rfl,b7 (by omega) (by simp; omega)]; rfl
theorem yG (w:Wd) (l:List Wd):ae 32 (w :: l)=w++l.flatMap (32 :: ·):=rfl
theorem rM (w:Wd) (l:List (Int×Int)) (hw:w.length≤39) (hl:l.length≤20) (h:∀ b∈l,I64 b.1∧I64 b.2):iG w l=some (ae 32 (w :: l.map pair)):=by
 unfold iG
 rw [cz l (fun b=>32 :: pair b) w 40 (fun b hb=>by have:=oO (h b hb).1 (h b hb).2; simp; omega) (fun k hk acc ha=>by
   unfold nw
   have hb:=h l[k] (List.getElem_mem hk)
   have hpl:=oO hb.1 hb.2
   have hm:l.length * 40≤20 * 40:=Nat.mul_le_mul_right _ hl
   simp only [dlt hk,cond_true,an hk,Option.bind_some,show iU (l[k].1,l[k].2)=_ from zd l[k] hb.1 hb.2,aq hk (by omega)]
   rw [aj (by simp; omega)]
   simp only [Option.bind_some]
   rw [aj (by simp; omega)]
   simp) (fun acc=>by unfold nw; simp only [dge (show ¬ l.length < l.length by omega),cond_false])]
 rw [yG,List.flatMap_map]; rfl
structure Sg64 (s:aQ):Prop where
 par:I64 s.1
 bnd:∀ c∈s.2.1,I64 c.1∧I64 c.2
 nb:s.2.1.length≤20
 args:∀ t∈s.2.2.1,(∀ x∈t,I64 x.1)∧t.length≤20
 na:s.2.2.1.length≤20
 ret:(∀ x∈s.2.2.2,I64 x.1)∧s.2.2.2.length≤20
structure Bk64 (x:aY):Prop where
 st:∀ s∈x.1,I64 s.2.1∧I64 s.2.2.1∧I64 s.2.2.2.1
 ns:x.1.length≤24
 tm:TmS x.2
structure Bo64 (b:bN):Prop where
 uni:I64 b.1
 reg:I64 b.2.1
 bnd:∀ c∈b.2.2.1,I64 c.1∧I64 c.2
 nb:b.2.2.1.length≤20
 loc:∀ t∈b.2.2.2.1,(∀ x∈t,I64 x.1)∧t.length≤20
 nl:b.2.2.2.1.length≤10
 ret:(∀ x∈b.2.2.2.2.1,I64 x.1)∧b.2.2.2.2.1.length≤20
 sig:∀ s∈b.2.2.2.2.2.1,Sg64 s
 nsg:b.2.2.2.2.2.1.length≤4
 blk:∀ x∈b.2.2.2.2.2.2,Bk64 x
 nx:b.2.2.2.2.2.2.length≤8
theorem tyL {t:List St} (h:∀ x∈t,I64 x.1) (hl:t.length≤20):(tyW t).length≤421:=by have:=tW h; omega
theorem dL (w:Wd) {t:List St} (hw:w.length≤39) (h:∀ x∈t,I64 x.1) (hl:t.length≤20):(ae 32 [w,tyW t]).length≤500:=by have:=tyL h hl; simp [ae]; omega
theorem mK {x:bS} (h:I64 x.2.1∧I64 x.2.2.1∧I64 x.2.2.2.1):(ae 32 (aL x)).length≤100:=by
 obtain ⟨k,d,s,r,m⟩:=x
 have l1:=az h.1; have l2:=az h.2.1; have l3:=az h.2.2
 dsimp only at l1 l2 l3
 unfold aL
 dsimp only
 split
 . simp [ae,fV]
 split
 . simp [ae,fZ]; omega
 split
 . cases m <;> simp [ae,co,bg] <;> omega
 split
 . cases m <;> simp [ae,cI,bg] <;> omega
 split
 . simp [ae,fX]; omega
 split
 . simp [ae,fM]; omega
 . simp [ae]
theorem uN {x:cv} (h:TmS x):(ae 32 (bW x)).length≤2000:=by
 have l1:=az h.sig; have l2:=az h.dst; have l3:=db h.hto; have l4:=db h.hargs; have l5:=db h.hpar
 have p1:=h.nto; have p2:=h.args; have p3:=h.par
 unfold bW
 split
 . simp [ae,gW]; omega
 split
 . simp [ae,kSw]; omega
 split
 . simp [ae,fY]
 split
 . simp [ae,er]; omega
 . simp [ae]
theorem gq {s:aQ} (h:Sg64 s):(ba s).length≤22∧∀ l∈ba s,l.length≤2000:=by
 have:=h.na
 refine ⟨by simp [ba]; omega,fun l hl=>?_⟩
 unfold ba at hl
 simp only [List.mem_cons,List.mem_map] at hl
 rcases hl with rfl | rfl | ⟨t,ht,rfl⟩
 . have l1:=az h.par; have l2:=tyL h.ret.1 h.ret.2; simp [ae]; omega
 . have:=gt (w:=fO) (by simp) h.nb h.bnd; omega
 . have:=dL cq (by simp) (h.args t ht).1 (h.args t ht).2; omega
theorem jr {x:aY} (h:Bk64 x):(bJ x).length≤26∧∀ l∈bJ x,l.length≤2000:=by
 have:=h.ns
 refine ⟨by simp [bJ]; omega,fun l hl=>?_⟩
 unfold bJ at hl
 simp only [List.mem_cons,List.mem_append,List.mem_map,List.mem_nil_iff,or_false] at hl
 rcases hl with rfl | ⟨s,hs,rfl⟩ | rfl
 . simp
 . have:=mK (h.st s hs); omega
 . exact uN h.tm
theorem oZ {ls:List Wd} {n:Nat} (h:ls.length≤n) (h2:∀ l∈ls,l.length≤2000):(ls.flatMap (·++[10])).length≤n * 2001:=by
 have:=dE (fun l:Wd=>l++[10]) 2001 ls (fun l hl=>by have:=h2 l hl; simp; omega)
 have:ls.length * 2001≤n * 2001:=Nat.mul_le_mul_right _ h
 omega
theorem oy {b:bN} (h:Bo64 b):(bz b).length≤320∧∀ l∈bz b,l.length≤2000:=by
 refine ⟨?_,fun l hl=>?_⟩
 . have h1:=dE ba 22 b.2.2.2.2.2.1 (fun s hs=>(gq (h.sig s hs)).1)
   have h2:=dE bJ 26 b.2.2.2.2.2.2 (fun s hs=>(jr (h.blk s hs)).1)
   have h3:=h.nl; have h4:=h.nsg; have h5:=h.nx
   unfold bz
   simp only [List.length_cons,List.length_append,List.length_map]; omega
 . unfold bz at hl
   simp only [List.mem_cons,List.mem_append,List.mem_map,List.mem_flatMap] at hl
   rcases hl with rfl | rfl | ⟨t,ht,rfl⟩ | rfl | ⟨s,hs,hl⟩ | ⟨x,hx,hl⟩
   . have l1:=az h.uni; have l2:=az h.reg; simp [ae]; omega
   . have:=gt (w:=eG) (by simp) h.nb h.bnd; omega
   . have:=dL bV (by simp) (h.loc t ht).1 (h.loc t ht).2; omega
   . have:=dL eF (by simp) h.ret.1 h.ret.2; omega
   . exact (gq (h.sig s hs)).2 l hl
   . exact (jr (h.blk x hx)).2 l hl
theorem tZ {b:bN} (h:Bo64 b):(prW b).length≤700000:=by
 have:=oZ (oy h).1 (oy h).2
 unfold prW; omega
theorem sm:∀ (l:Wd) (ls:List Wd),ae 10 (l :: ls)++[10]=(l :: ls).flatMap (·++[10])
 | l,[]=>by simp [ae]
 | l,m :: ls=>by rw [ol,List.append_assoc,List.cons_append,sm m ls]; simp
theorem aB {α:Type} {a b:List α} (h:a.length + b.length≤1000000000):app a b=some (a++b):=aj (by omega)
theorem xo (s:aQ) (h:Sg64 s) (pre:List Wd) (hp:pre.length≤100000):loop (kK s) (pre,0)=some (pre++s.2.2.1.map (fun t=>ae 32 [cq,tyW t])):=by
 have h0:=h.na
 rw [cz s.2.2.1 (fun t=>[ae 32 [cq,tyW t]]) pre 1 (by simp) (fun k hk acc ha=>by
   unfold kK aN
   obtain ⟨t1,t2⟩:=h.args s.2.2.1[k] (List.getElem_mem hk)
   have tl:=dL cq (by simp) t1 t2
   simp only [dlt hk,cond_true,an hk,Option.bind_some,jG _ (show s.2.2.1[k].length≤100000 by omega) t1,aq hk (by omega)]
   rw [b7 (Nat.le_trans tl (by decide)) (by simp)]
   simp only [Option.bind_some]
   rw [aB (by simp; omega)]; rfl) (fun acc=>by unfold kK; simp only [dge (show ¬ s.2.2.1.length < s.2.2.1.length by omega),cond_false]),mG]
theorem Am (b:bN) (h:Bo64 b):iY b=some (prW b):=by
 unfold iY
 have l1:=az h.uni; have l2:=az h.reg
 have hb:=gt (w:=eG) (by simp) h.nb h.bnd
 have hg:=dL eF (by simp) h.ret.1 h.ret.2
 have n1:=h.nl; have n2:=h.nsg; have n3:=h.nx
 have e1:=sD [98,111,117,110,100,115] b.2.2.1 (by simp) h.nb h.bnd
 simp only [bZ _ h.uni,bZ _ h.reg,Option.bind_some,e1,jG _ (show b.2.2.2.2.1.length≤100000 by have:=h.ret.2; omega) h.ret.1,aN]
 rw [b7 (by simp [ae]; omega) (by simp)]
 simp only [Option.bind_some]
 rw [cz b.2.2.2.1 (fun t=>[ae 32 [bV,tyW t]]) _ 1 (by simp) (fun k hk acc ha=>by
   unfold nN aN
   obtain ⟨t1,t2⟩:=h.loc b.2.2.2.1[k] (List.getElem_mem hk)
   have tl:=dL bV (by simp) t1 t2
   simp only [List.length_cons,List.length_nil] at ha
   simp only [dlt hk,cond_true,an hk,Option.bind_some,jG _ (show b.2.2.2.1[k].length≤100000 by omega) t1,aq hk (by omega)]
   rw [b7 (Nat.le_trans tl (by decide)) (by simp)]
   simp only [Option.bind_some]
   rw [aB (by simp; omega)]; rfl) (fun acc=>by unfold nN; simp only [dge (show ¬ b.2.2.2.1.length < b.2.2.2.1.length by omega),cond_false]),mG]
 simp only [Option.bind_some]
 rw [b7 (show (ae 32 [eF,tyW b.2.2.2.2.1]).length≤1000000000 by omega) (by simp)]
 simp only [Option.bind_some]
 rw [aB (by simp; omega)]
 simp only [Option.bind_some]
 rw [cz b.2.2.2.2.2.1 ba _ 22 (fun s hs=>(gq (h.sig s hs)).1) (fun k hk acc ha=>by
   unfold nM aN
   have hs:=h.sig b.2.2.2.2.2.1[k] (List.getElem_mem hk)
   have ha':acc.length≤1000:=by simp at ha; omega
   generalize hse:b.2.2.2.2.2.1[k]=s at hs
   have s1:=az hs.par; have s2:=tyL hs.ret.1 hs.ret.2
   have e2:=sD [110,101,101,100,115] s.2.1 (by simp) hs.nb hs.bnd
   simp only [dlt hk,cond_true,an hk,hse,Option.bind_some,bZ _ hs.par,jG _ (show s.2.2.2.length≤100000 by have:=hs.ret.2; omega) hs.ret.1,e2,aq hk (by omega)]
   rw [b7 (by simp [ae]; omega) (by simp)]
   simp only [Option.bind_some]
   rw [aB (by simp; omega)]
   simp only [Option.bind_some]
   rw [xo s hs _ (by simp; omega)]
   simp [ba]) (fun acc=>by unfold nM; simp only [dge (show ¬ b.2.2.2.2.2.1.length < b.2.2.2.2.2.1.length by omega),cond_false])]
 simp only [Option.bind_some]
 have hsl:=dE ba 22 b.2.2.2.2.2.1 (fun s hs=>(gq (h.sig s hs)).1)
 generalize hSS:b.2.2.2.2.2.1.flatMap ba=SS at hsl
 rw [cz b.2.2.2.2.2.2 bJ _ 26 (fun s hs=>(jr (h.blk s hs)).1) (fun k hk acc ha=>by
   unfold nI
   have hx:=h.blk b.2.2.2.2.2.2[k] (List.getElem_mem hk)
   have ha':acc.length≤2000:=by simp at ha; omega
   generalize hxe:b.2.2.2.2.2.2[k]=x at hx
   have e2:iZ (x.2.1,x.2.2.1,x.2.2.2.1,x.2.2.2.2.1,x.2.2.2.2.2.1,x.2.2.2.2.2.2)=_:=AF x.2 hx.tm
   have n4:=hx.ns
   simp only [dlt hk,cond_true,an hk,hxe,Option.bind_some,e2,aq hk (by omega)]
   rw [aB (by simp; omega)]
   simp only [Option.bind_some]
   rw [cz x.1 (fun s=>[ae 32 (aL s)]) _ 1 (by simp) (fun j hj ac hac=>by
     unfold nJ
     have hq:=hx.st x.1[j] (List.getElem_mem hj)
     have hac':ac.length≤3000:=by simp at hac; omega
     simp only [dlt hj,cond_true,an hj,Option.bind_some,show fg (x.1[j].1,x.1[j].2.1,x.1[j].2.2.1,x.1[j].2.2.2.1,x.1[j].2.2.2.2)=_ from uw x.1[j] hq.1 hq.2.1 hq.2.2,aq hj (by omega)]
     rw [aB (by simp; omega)]; rfl) (fun ac=>by unfold nJ; simp only [dge (show ¬ x.1.length < x.1.length by omega),cond_false]),mG]
   simp only [Option.bind_some]
   rw [aB (by simp; omega)]
   simp [bJ]) (fun acc=>by unfold nI; simp only [dge (show ¬ b.2.2.2.2.2.2.length < b.2.2.2.2.2.2.length by omega),cond_false])]
 simp only [Option.bind_some]
 subst hSS
 have hpl:=tZ h
 have hln:=(oy h).1
 have e3:(([ae 32 [[114,101,103,105,111,110,115],text b.1,text b.2.1],ae 32 ([98,111,117,110,100,115] :: b.2.2.1.map pair)]:List Wd)++b.2.2.2.1.map (fun t=>ae 32 [bV,tyW t])++[ae 32 [[103,105,118,101,115],tyW b.2.2.2.2.1]]++b.2.2.2.2.2.1.flatMap ba++b.2.2.2.2.2.2.flatMap bJ)=bz b:=by
   simp [bz]
 rw [e3]
 have e4:ae 10 (bz b)++[10]=prW b:=sm _ _
 have e5:=congrArg List.length e4
 rw [List.length_append,List.length_singleton] at e5
 rw [oF (by omega) (by omega)]
 simp only [Option.bind_some]
 rw [aB (by simp; omega)]
 rw [e4]; rfl
theorem wJ (s:aQ) (h:Sg64 s) (pre:Wd) (hp:pre.length≤1000000):loop (kG s) (pre,0)=some (pre++(s.2.2.1.map (fun t=>ae 32 [cq,tyW t])).flatMap (·++[10])):=by
 have h0:=h.na
 rw [cz s.2.2.1 (fun t=>ae 32 [cq,tyW t]++[10]) pre 501 (fun t ht=>by have:=dL cq (by simp) (h.args t ht).1 (h.args t ht).2; simp only [List.length_append,List.length_singleton]; omega) (fun k hk acc ha=>by
   unfold kG
   obtain ⟨t1,t2⟩:=h.args s.2.2.1[k] (List.getElem_mem hk)
   have tl:=tyL t1 t2
   have ha':acc.length≤2000000:=by omega
   simp only [dlt hk,cond_true,an hk,Option.bind_some,lu _ (show s.2.2.1[k].length≤100000 by omega) t1,aq hk (by omega)]
   rw [aB (by simp; omega)]
   simp only [Option.bind_some]
   rw [aB (by simp; omega)]
   simp only [Option.bind_some]
   rw [aB (by simp; omega)]
   simp [ae]) (fun acc=>by unfold kG; simp only [dge (show ¬ s.2.2.1.length < s.2.2.1.length by omega),cond_false]),List.flatMap_map]
theorem vG {s:aQ} (h:Sg64 s):((ba s).flatMap (·++[10])).length≤50000:=by have:=oZ (gq h).1 (gq h).2; omega
theorem B1 {x:aY} (h:Bk64 x):((bJ x).flatMap (·++[10])).length≤60000:=by have:=oZ (jr h).1 (jr h).2; omega
theorem yA (b:bN) (h:Bo64 b):iM b=some (prW b):=by
 unfold iM
 have l1:=az h.uni; have l2:=az h.reg
 have hb:=gt (w:=eG) (by simp) h.nb h.bnd
 have hg:=tyL h.ret.1 h.ret.2
 have n1:=h.nl; have n2:=h.nsg; have n3:=h.nx
 have e1:=rM [98,111,117,110,100,115] b.2.2.1 (by simp) h.nb h.bnd
 simp only [cD _ h.uni,cD _ h.reg,Option.bind_some,e1,lu _ (show b.2.2.2.2.1.length≤100000 by have:=h.ret.2; omega) h.ret.1]
 rw [aB (by simp; omega)]
 simp only [Option.bind_some]
 rw [aB (by simp; omega)]
 simp only [Option.bind_some]
 rw [aB (by simp; omega)]
 simp only [Option.bind_some]
 rw [aB (by simp; omega)]
 simp only [Option.bind_some]
 generalize hB:ae 32 ([98,111,117,110,100,115] :: b.2.2.1.map pair)=bl at hb
 rw [aB (by simp; omega)]
 simp only [Option.bind_some]
 rw [aB (by simp; omega)]
 simp only [Option.bind_some]
 rw [cz b.2.2.2.1 (fun t=>ae 32 [bV,tyW t]++[10]) _ 501 (fun t ht=>by have:=dL bV (by simp) (h.loc t ht).1 (h.loc t ht).2; simp only [List.length_append,List.length_singleton]; omega) (fun k hk acc ha=>by
   unfold nH
   obtain ⟨t1,t2⟩:=h.loc b.2.2.2.1[k] (List.getElem_mem hk)
   have tl:=tyL t1 t2
   have ha':acc.length≤2000000:=by simp at ha; omega
   simp only [dlt hk,cond_true,an hk,Option.bind_some,lu _ (show b.2.2.2.1[k].length≤100000 by omega) t1,aq hk (by omega)]
   rw [aB (by simp; omega)]
   simp only [Option.bind_some]
   rw [aB (by simp; omega)]
   simp only [Option.bind_some]
   rw [aB (by simp; omega)]
   simp [ae]) (fun acc=>by unfold nH; simp only [dge (show ¬ b.2.2.2.1.length < b.2.2.2.1.length by omega),cond_false])]
 simp only [Option.bind_some]
 have hll:=dE (fun t=>ae 32 [bV,tyW t]++[10]) 501 b.2.2.2.1 (fun t ht=>by have:=dL bV (by simp) (h.loc t ht).1 (h.loc t ht).2; simp only [List.length_append,List.length_singleton]; omega)
 generalize hL:b.2.2.2.1.flatMap (fun t=>ae 32 [bV,tyW t]++[10])=LL at hll
 rw [aB (by simp; omega)]
 simp only [Option.bind_some]
 rw [aB (by simp; omega)]
 simp only [Option.bind_some]
 rw [aB (by simp; omega)]
 simp only [Option.bind_some]
 rw [cz b.2.2.2.2.2.1 (fun s=>(ba s).flatMap (·++[10])) _ 50000 (fun s hs=>vG (h.sig s hs)) (fun k hk acc ha=>by
   unfold nF
   have hs:=h.sig b.2.2.2.2.2.1[k] (List.getElem_mem hk)
   have ha':acc.length≤300000:=by simp at ha; omega
   generalize hse:b.2.2.2.2.2.1[k]=s at hs
   have s1:=az hs.par; have s2:=tyL hs.ret.1 hs.ret.2
   have e2:=rM [110,101,101,100,115] s.2.1 (by simp) hs.nb hs.bnd
   have e3:=gt (w:=fO) (by simp) hs.nb hs.bnd
   simp only [dlt hk,cond_true,an hk,hse,Option.bind_some,cD _ hs.par,lu _ (show s.2.2.2.length≤100000 by have:=hs.ret.2; omega) hs.ret.1,e2,aq hk (by omega)]
   generalize hN:ae 32 ([110,101,101,100,115] :: s.2.1.map pair)=nl at e3
   rw [aB (by simp; omega)]
   simp only [Option.bind_some]
   rw [aB (by simp; omega)]
   simp only [Option.bind_some]
   rw [aB (by simp; omega)]
   simp only [Option.bind_some]
   rw [aB (by simp; omega)]
   simp only [Option.bind_some]
   rw [aB (by simp; omega)]
   simp only [Option.bind_some]
   rw [aB (by simp; omega)]
   simp only [Option.bind_some]
   rw [aB (by simp; omega)]
   simp only [Option.bind_some]
   rw [wJ s hs _ (by simp; omega)]
   subst hN
   simp [ba,ae]) (fun acc=>by unfold nF; simp only [dge (show ¬ b.2.2.2.2.2.1.length < b.2.2.2.2.2.1.length by omega),cond_false])]
 simp only [Option.bind_some]
 have hsl:=dE (fun s=>(ba s).flatMap (·++[10])) 50000 b.2.2.2.2.2.1 (fun s hs=>vG (h.sig s hs))
 generalize hS:b.2.2.2.2.2.1.flatMap (fun s=>(ba s).flatMap (·++[10]))=SS at hsl
 rw [cz b.2.2.2.2.2.2 (fun x=>(bJ x).flatMap (·++[10])) _ 60000 (fun s hs=>B1 (h.blk s hs)) (fun k hk acc ha=>by
   unfold nA
   have hx:=h.blk b.2.2.2.2.2.2[k] (List.getElem_mem hk)
   have ha':acc.length≤1000000:=by simp at ha; omega
   have hx0:aa b.2.2.2.2.2.2 (k:Int)=some b.2.2.2.2.2.2[k]:=an hk
   generalize hxe:b.2.2.2.2.2.2[k]=x at hx hx0
   have e2:iX (x.2.1,x.2.2.1,x.2.2.2.1,x.2.2.2.2.1,x.2.2.2.2.2.1,x.2.2.2.2.2.2)=_:=zq x.2 hx.tm
   have n4:=hx.ns
   have e3:=uN hx.tm
   simp only [dlt hk,cond_true,hx0,Option.bind_some,e2,aq hk (by omega)]
   rw [aB (by simp; omega)]
   simp only [Option.bind_some]
   rw [cz x.1 (fun s=>ae 32 (aL s)++[10]) _ 101 (fun s hs=>by have:=mK (hx.st s hs); simp only [List.length_append,List.length_singleton]; omega) (fun j hj ac hac=>by
     unfold nE
     have hq:=hx.st x.1[j] (List.getElem_mem hj)
     have hac':ac.length≤2000000:=by simp at hac; omega
     have hsl2:=mK hq
     simp only [hx0,Option.bind_some,dlt hj,cond_true,an hj,show iS (x.1[j].1,x.1[j].2.1,x.1[j].2.2.1,x.1[j].2.2.2.1,x.1[j].2.2.2.2)=_ from zp x.1[j] hq.1 hq.2.1 hq.2.2,aq hj (by omega)]
     rw [aB (by omega)]
     simp only [Option.bind_some]
     rw [aB (by simp; omega)]
     simp) (fun ac=>by unfold nE; simp only [hx0,Option.bind_some,dge (show ¬ x.1.length < x.1.length by omega),cond_false])]
   simp only [Option.bind_some]
   have hq:=dE (fun s=>ae 32 (aL s)++[10]) 101 x.1 (fun s hs=>by have:=mK (hx.st s hs); simp only [List.length_append,List.length_singleton]; omega)
   generalize hF:x.1.flatMap (fun s=>ae 32 (aL s)++[10])=FF at hq
   rw [aB (by simp; omega)]
   simp only [Option.bind_some]
   rw [aB (by simp; omega)]
   subst hF
   simp [bJ,List.flatMap_map]) (fun acc=>by unfold nA; simp only [dge (show ¬ b.2.2.2.2.2.2.length < b.2.2.2.2.2.2.length by omega),cond_false])]
 simp only [Option.bind_some]
 subst hB; subst hL; subst hS
 unfold prW bz
 simp [ae,List.flatMap_map,List.flatMap_assoc]
theorem jp {β:Type} {n:Nat} {body:Int→Option (Int⊕β)} {e:β} (hb:∀ k,k < n→body (k:Int)=some (.inl ((k + 1:Nat):Int))) (he:body (n:Int)=some (.inr e)):loop body 0=some e:=cB (body:=body) (fun k=>(k:Int)) n hb he
theorem rz (l:List (Int×Int)) (hn:l.length≤1000000000):iE l l=some true:=by
 unfold iE
 rw [iq rfl,cond_false,jp (n:=l.length) (e := .inl ()) (fun k hk=>by unfold nv; simp [an hk,hk,aq hk (by omega)]) (by simp [nv])]; rfl
theorem se (l:List (List St)) (hn:l.length≤1000000000) (h:∀ t∈l,t.length≤1000000000):iQ l l=some true:=by
 unfold iQ
 rw [iq rfl,cond_false,jp (n:=l.length) (e := .inl ()) (fun k hk=>by
   unfold nC
   simp [an hk,hk,aq hk (by omega),pA l[k] (by have:=h l[k] (List.getElem_mem hk); omega)]) (by simp [nC])]; rfl
theorem oT (l:List Int) (hn:l.length≤1000000000):eY l l=some true:=by rw [ya l l (by omega)]; simp
structure Fin38 (b:bN):Prop where
 nb:b.2.2.1.length≤1000000
 nl:b.2.2.2.1.length≤1000000
 loc:∀ t∈b.2.2.2.1,t.length≤1000000
 ret:b.2.2.2.2.1.length≤1000000
 ns:b.2.2.2.2.2.1.length≤1000000
 sig:∀ s∈b.2.2.2.2.2.1,s.2.1.length≤1000000∧s.2.2.1.length≤1000000∧(∀ t∈s.2.2.1,t.length≤1000000)∧s.2.2.2.length≤1000000
 nx:b.2.2.2.2.2.2.length≤1000000
 blk:∀ x∈b.2.2.2.2.2.2,x.1.length≤1000000∧x.2.2.2.2.1.length≤1000000∧x.2.2.2.2.2.1.length≤1000000∧x.2.2.2.2.2.2.length≤1000000
theorem yT (b:bN) (h:Fin38 b):ge b b=some true:=by
 unfold ge
 have h1:=h.nb; have h2:=h.nl; have h3:=h.ret; have h4:=h.ns; have h5:=h.nx
 rw [rz _ (by omega),se _ (by omega) (fun t ht=>by have:=h.loc t ht; omega),pA _ (by omega),iq rfl,iq rfl]
 simp only [decide_true,Bool.not_true,Bool.or_self,cond_false,Option.bind_some]
 rw [jp (n:=b.2.2.2.2.2.1.length) (e := .inl ()) (fun k hk=>by
   have hs:=h.sig b.2.2.2.2.2.1[k] (List.getElem_mem hk)
   unfold nK nU
   simp only [dlt hk,cond_true,an hk,Option.bind_some,aq hk (by omega)]
   generalize b.2.2.2.2.2.1[k]=s at hs
   simp only [decide_true,cond_true,rz s.2.1 (by omega),se s.2.2.1 (by omega) (fun t ht=>by have:=hs.2.2.1 t ht; omega),pA s.2.2.2 (by omega),Option.bind_some,Bool.not_true,cond_false]) (by simp [nK])]
 simp only [Option.bind_some]
 rw [jp (n:=b.2.2.2.2.2.2.length) (e := .inl ()) (fun k hk=>by
   have hx:=h.blk b.2.2.2.2.2.2[k] (List.getElem_mem hk)
   unfold nO nV
   simp only [dlt hk,cond_true,an hk,Option.bind_some,aq hk (by omega)]
   generalize b.2.2.2.2.2.2[k]=x at hx
   simp only [decide_true,cond_true,Bool.and_self,oT x.2.2.2.2.1 (by omega),oT x.2.2.2.2.2.1 (by omega),oT x.2.2.2.2.2.2 (by omega),Option.bind_some,Bool.not_true,cond_false]
   rw [jp (n:=x.1.length) (e := .inl ()) (fun j hj=>by unfold nL; simp [an hj,hj,aq hj (by omega)]) (by simp [nL])]; rfl) (by simp [nO])]
 rfl
theorem AM {b:Bo} (h:(gS b).1=0) {x:Blk} (hx:x∈b.2.2.2.2.2.2):(∀ s∈x.1,sE b.2.2.2.1 b.2.1 s=0)∧tE (cd b) x.2=0:=by
 have hn:dq b x=none:=by
   unfold gS at h
   cases hf:b.2.2.2.2.2.2.findIdx? (fun x=>(dq b x).isSome) with
   | none =>
     have:=List.findIdx?_eq_none_iff.1 hf x hx
     simpa using this
   | some k =>
     exfalso
     obtain ⟨hk,h5,_⟩:=List.findIdx?_eq_some_iff_getElem.1 hf
     have e:b.2.2.2.2.2.2.getD k ([],0,0,0,[],[],[])=b.2.2.2.2.2.2[k]:=by simp [List.getD,hk]
     rw [hf] at h
     simp only [e] at h
     generalize b.2.2.2.2.2.2[k]=y at h h5
     unfold dq at h h5
     cases hg:y.1.findIdx? (fun s=>!decide (sE b.2.2.2.1 b.2.1 s=0)) with
     | some j =>
       obtain ⟨hj,h6,_⟩:=List.findIdx?_eq_some_iff_getElem.1 hg
       have e2:y.1.getD j (0,0,0,0,false)=y.1[j]:=by simp [List.getD,hj]
       rw [hg] at h
       simp only [jQ,e2] at h
       simp [h] at h6
     | none =>
       rw [hg] at h h5
       by_cases q:tE (cd b) y.2=0
       . simp [q] at h5
       . simp [q,jQ] at h
 unfold dq at hn
 cases hg:x.1.findIdx? (fun s=>!decide (sE b.2.2.2.1 b.2.1 s=0)) with
 | some j=>rw [hg] at hn; cases hn
 | none =>
   rw [hg] at hn
   refine ⟨fun s hs=>by have:=List.findIdx?_eq_none_iff.1 hg s hs; simpa using this,?_⟩
   by_cases q:tE (cd b) x.2=0
   . exact q
   . simp [q] at hn
theorem ml {n:Int} {t:List St} (h:rin n t=false) (hn:n≤65536):∀ x∈t,In x.1:=fun x hx=>by have:=zW h hx; constructor <;> omega
theorem jS {n:Int} {l:List Int} (h:bad n l=false) (hn:n≤65536):∀ x∈l,In x:=fun x hx=>by
 have:=List.any_eq_false.1 h x hx
 simp at this
 constructor <;> omega
theorem ul {n:Int} {c:Int×Int} (h:bK n c=false) (hn:n≤65536):In c.1∧In c.2:=by
 unfold bK at h
 simp only [Bool.or_eq_false_iff,decide_eq_false_iff_not] at h
 refine ⟨⟨by omega,by omega⟩,by omega,by omega⟩
theorem u6 {L:List (List St)} {d:Int} (h:loc L d=true) (hn:L.length≤65536):In d:=by
 unfold loc at h
 simp only [Bool.and_eq_true,decide_eq_true_eq] at h
 constructor <;> omega
theorem BX {b:Bo} (h:Sm b) (hv:(vck b).1=0):BoOk b:=by
 unfold vck at hv
 obtain ⟨v1,hv⟩:=gB hv
 obtain ⟨v2,hv⟩:=gB hv
 obtain ⟨v3,hv⟩:=gB hv
 obtain ⟨v4,hv⟩:=gB hv
 obtain ⟨v5,hv⟩:=gB hv
 obtain ⟨v6,v7⟩:=gB hv
 have a1:1≤b.1∧b.1≤b.2.1∧b.2.1≤65536:=by
   unfold jO at v1
   by_cases q:b.1 < 1∨b.2.1 < b.1
   . rw [if_pos q] at v1; cases v1
   . rw [if_neg q] at v1
     by_cases q2:65536 < b.2.1
     . rw [if_pos q2] at v1; cases v1
     . omega
 have i0:In 0:=by constructor <;> decide
 refine ⟨⟨by omega,by omega⟩,⟨by omega,by omega⟩,?_,by have:=h.bounds; omega,?_,by have:=h.locals; omega,?_,?_,by have:=h.sigs; omega,?_,by have:=h.blocks; omega⟩
 . intro c hc
   unfold jA at v2
   cases hf:b.2.2.1.findIdx? (bK b.1) with
   | some k=>rw [hf] at v2; cases v2
   | none=>exact ul (List.findIdx?_eq_none_iff.1 hf c hc) (by omega)
 . intro t ht
   unfold j6 at v3
   by_cases q:b.2.2.2.1=[]
   . rw [q] at ht; cases ht
   . rw [if_neg q] at v3
     cases hf:b.2.2.2.1.findIdx? (fun t=>!decide (rck b.2.1 t=0)) with
     | some k =>
       exfalso
       obtain ⟨hk,h5,_⟩:=List.findIdx?_eq_some_iff_getElem.1 hf
       have e:b.2.2.2.1.getD k []=b.2.2.2.1[k]:=by simp [List.getD,hk]
       rw [hf] at v3
       simp only [e] at v3
       simp [v3] at h5
     | none =>
       have:=List.findIdx?_eq_none_iff.1 hf t ht
       have:=ju (show rck b.2.1 t=0 by simpa using this)
       exact ⟨ml this.2 (by omega),by omega⟩
 . unfold jZ at v4
   by_cases q:rck b.1 b.2.2.2.2.1=0
   . have:=ju q
     exact ⟨ml this.2 (by omega),by omega⟩
   . rw [if_neg q] at v4; exact absurd v4 q
 . intro s hs
   unfold j5 at v5
   cases hf:b.2.2.2.2.2.1.findIdx? (fun s=>!decide (chk s=0)) with
   | some k =>
     exfalso
     obtain ⟨hk,h5,_⟩:=List.findIdx?_eq_some_iff_getElem.1 hf
     have e:b.2.2.2.2.2.1.getD k (0,[],[],[])=b.2.2.2.2.2.1[k]:=by simp [List.getD,hk]
     rw [hf] at v5
     simp only [e] at v5
     simp [v5] at h5
   | none =>
     have:=List.findIdx?_eq_none_iff.1 hf s hs
     obtain ⟨c1,c2,c3,c4,c5,c6,c7,c8⟩:=th (show chk s=0 by simpa using this)
     exact ⟨⟨by omega,by omega⟩,fun c hc=>ul (c5 c hc) (by omega),by omega,fun t ht=>⟨ml (c6 t ht).2 (by omega),by have:=(c6 t ht).1; omega⟩,by omega,ml c8 (by omega),by omega⟩
 . intro x hx
   obtain ⟨z1,z2⟩:=AM v7 hx
   have hst:=h.stmts hx
   have hL:=h.locals
   refine ⟨fun s hs=>?_,by omega,?_⟩
   . obtain ⟨f,d,r,g⟩:=Ak h (z1 s hs)
     obtain ⟨k,sd,ss,sr,m⟩:=s
     unfold fOk at f
     simp only [Bool.and_eq_true,Bool.or_eq_true,decide_eq_true_eq,Bool.not_eq_true'] at f
     obtain ⟨⟨⟨⟨f1,f2⟩,f3⟩,f4⟩,f5⟩:=f
     dsimp only at f1 f2 f3 f4 f5 d r g
     refine ⟨⟨f1,f2⟩,?_,?_,?_,?_,?_,?_⟩
     . rcases f3 with f3 | f3
       . exact u6 (d f3) (by omega)
       . show In sd; rw [f3]; exact i0
     . rcases f4 with f4 | f4
       . exact u6 (r f4) (by omega)
       . show In ss; rw [f4]; exact i0
     . rcases f5 with f5 | f5
       . have:=g f5; exact ⟨by show 0≤sr; omega,by show sr≤_; omega⟩
       . show In sr; rw [f5.1]; exact i0
     . intro hk
       rcases f3 with f3 | f3
       . exfalso; unfold dQ at f3; simp at f3; dsimp only at hk; omega
       . exact f3
     . intro hk
       rcases f4 with f4 | f4
       . exfalso; unfold dU at f4; simp at f4; dsimp only at hk; omega
       . exact f4
     . intro h2 h3
       rcases f5 with f5 | f5
       . exfalso; unfold eJ at f5; simp at f5; dsimp only at h2 h3; omega
       . exact f5
   . obtain ⟨g1,g2,g3,g4,g5⟩:=Ac h hx z2
     obtain ⟨l1,l2,l3⟩:=h.term x hx
     obtain ⟨t1,_⟩:=xk g1
     have hb:=h.blocks
     have hs:=h.sigs
     generalize hy:x.2=y at *
     obtain ⟨k,s,d,T,A,P⟩:=y
     have gT:∀ n∈T,In n:=jS g2 (by show ((b.2.2.2.2.2.2.length:Nat):Int)≤_; omega)
     have gA:∀ n∈A,In n:=jS g3 (by show ((b.2.2.2.1.length:Nat):Int)≤_; omega)
     have gP:∀ n∈P,In n:=jS g4 (by show b.2.1≤_; omega)
     have hc:gN (k,s,d,T,A,P)=false→s=0∧d=0∧P=[]:=by
       intro hc
       unfold gN at hc
       simp only [Bool.or_eq_false_iff,Bool.not_eq_false',decide_eq_true_eq,decide_eq_false_iff_not] at hc
       exact ⟨hc.1.1,hc.1.2,List.length_eq_zero_iff.1 (by omega)⟩
     unfold lZ at t1
     dsimp only at t1 l1 l2 l3 g5
     by_cases k1:k=1
     . subst k1
       simp at t1
       obtain ⟨rfl,rfl,rfl⟩:=hc t1.2
       obtain rfl:=t1.1.2
       exact ⟨⟨by show (1:Int)≤1; decide,by show (1:Int)≤4; decide⟩,i0,i0,gT,gA,gP,by show T.length≤_; omega,by simp,by simp,fun _=>⟨rfl,rfl,rfl⟩,fun h=>(by cases h),fun _=>rfl⟩
     rw [if_neg k1] at t1
     by_cases k2:k=2
     . subst k2
       simp at t1
       obtain ⟨rfl,rfl,rfl⟩:=hc t1.2
       exact ⟨⟨by show (1:Int)≤2; decide,by show (2:Int)≤4; decide⟩,i0,i0,gT,gA,gP,by show T.length≤_; omega,by show A.length≤_; omega,by simp,fun _=>⟨rfl,rfl,rfl⟩,fun h=>(by cases h),fun h=>by rcases h with h | h <;> cases h⟩
     rw [if_neg k2] at t1
     by_cases k3:k=3
     . subst k3
       simp at t1
       obtain ⟨rfl,rfl,rfl⟩:=hc t1.2
       obtain ⟨⟨rfl,rfl⟩,_⟩:=t1
       exact ⟨⟨by decide,by decide⟩,i0,i0,gT,gA,gP,by simp,by simp,by simp,fun _=>⟨rfl,rfl,rfl⟩,fun _=>rfl,fun _=>rfl⟩
     rw [if_neg k3] at t1
     by_cases k4:k=4
     . subst k4
       obtain ⟨q1,q2⟩:=g5 rfl
       have i1:In d:=jS q1 (by show ((b.2.2.2.1.length:Nat):Int)≤_; omega) d (by simp)
       have i2:In s:=jS q2 (by show ((b.2.2.2.2.2.1.length:Nat):Int)≤_; omega) s (by simp)
       exact ⟨⟨by show (1:Int)≤4; decide,by show (4:Int)≤4; decide⟩,i2,i1,gT,gA,gP,by show T.length≤_; omega,by show A.length≤_; omega,by show P.length≤_; omega,fun h=>absurd rfl h,fun h=>(by cases h),fun h=>by rcases h with h | h <;> cases h⟩
     . rw [if_neg k4] at t1; cases t1
theorem CW {b:Bo} (h:Sm b) (k:Tp.Ok lM b):Bo64 b:=by
 refine ⟨(br k.1).2,(br k.2.1).2,fun c hc=>⟨(br (k.2.2.1.2 c hc).1).2,(br (k.2.2.1.2 c hc).2).2⟩,h.bounds,fun t ht=>⟨fun x hx=>(br ((k.2.2.2.1.2 t ht).2 x hx).1).2,h.loc t ht⟩,h.locals,⟨fun x hx=>(br (k.2.2.2.2.1.2 x hx).1).2,h.ret⟩,fun s hs=>?_,h.sigs,fun x hx=>?_,h.blocks⟩
 . have q:=k.2.2.2.2.2.1.2 s hs
   obtain ⟨n1,n2,n3,n4⟩:=h.sig s hs
   exact ⟨(br q.1).2,fun c hc=>⟨(br (q.2.1.2 c hc).1).2,(br (q.2.1.2 c hc).2).2⟩,n1,fun t ht=>⟨fun x hx=>(br ((q.2.2.1.2 t ht).2 x hx).1).2,n4 t ht⟩,n2,fun x hx=>(br (q.2.2.2.2 x hx).1).2,n3⟩
 . have q:=k.2.2.2.2.2.2.2 x hx
   obtain ⟨n1,n2,n3⟩:=h.term x hx
   have n4:=h.stmts hx
   refine ⟨fun s hs=>?_,by omega,⟨(br q.2.2.1).2,(br q.2.2.2.1).2,by omega,by omega,by omega,fun n hn=>(br (q.2.2.2.2.1.2 n hn)).2,fun n hn=>(br (q.2.2.2.2.2.1.2 n hn)).2,fun n hn=>(br (q.2.2.2.2.2.2.2 n hn)).2⟩⟩
   have qs:=q.1.2 s hs
   exact ⟨(br qs.2.1).2,(br qs.2.2.1).2,(br qs.2.2.2.1).2⟩
theorem Bn {b:Bo} (h:Sm b):Fin38 b:=by
 have h1:=h.bounds; have h2:=h.locals; have h3:=h.ret; have h4:=h.sigs; have h5:=h.blocks
 refine ⟨by omega,by omega,fun t ht=>by have:=h.loc t ht; omega,by omega,by omega,fun s hs=>?_,by omega,fun x hx=>?_⟩
 . obtain ⟨n1,n2,n3,n4⟩:=h.sig s hs
   exact ⟨by omega,by omega,fun t ht=>by have:=n4 t ht; omega,by omega⟩
 . obtain ⟨n1,n2,n3⟩:=h.term x hx
   have n4:=h.stmts hx
   exact ⟨by omega,by omega,by omega,by omega⟩
theorem wr (xa:Bo) (k0:Tp.Ok lM xa) (q0:Tp.Fit lM xa):nG xa=some true:=by
 unfold nG
 rw [yy]
 rcases zQ xa (yO q0) with hs | ⟨hs,h⟩
 . rw [show eV xa=_ from hs]; rfl
 . have h64:=CW h k0
   have hl:=tZ h64
   rw [show eV xa=_ from hs,show iY xa=_ from Am xa h64,show iM xa=_ from yA xa h64,show je xa=_ from okR h]
   simp only [Option.bind_some,Bool.not_true,cond_false,decide_true]
   by_cases hv:(vck xa).1=0
   . have hb:=BX h hv
     rw [decide_eq_true hv]
     simp only [Bool.not_true,cond_false,qZ hb (by omega),Option.bind_some]
     have e1:app ([35,32,115,111,10,10]:Wd) (prW xa)=some ([35,32,115,111,10,10]++prW xa):=aj (by simp only [List.length_cons,List.length_nil]; omega)
     have e2:app (([35,32,115,111,10,10]:Wd)++prW xa) [32,32,35,32,116,104,101,32,101,110,100]=some (([35,32,115,111,10,10]:Wd)++prW xa++[32,32,35,32,116,104,101,32,101,110,100]):=aj (by rw [List.length_append]; simp only [List.length_cons,List.length_nil]; omega)
     have e3:=yT xa (Bn h)
     rw [e1,Option.bind_some,e2,Option.bind_some,wH hb (by omega)]
     simp only [Option.bind_some]
     rw [show ge xa xa=_ from e3]
     rfl
   . rw [decide_eq_false hv]; rfl
end
theorem wo {H:Type} (enc:TypeId×Value→H) (W:World) (base:Nat) {v0:Value} {d0:DataW H} {p0:List MemPlace}
   (h0:DataW.Trod enc Tryz.prog W 0 (fun _=>true) true 30 v0 d0 p0)
   (o0:Value.okWide Tryz.prog W .any base 30 v0)
   (w0:(d0.weights Tryz.prog 30).all (·≤reachBytes)=true)
   (hso:W.ShapedOpen Tryz.prog) :
   Calls Tryz.prog 3 #[v0] W fun e W'=>e = .returned (.bool true)∧Below W.heap.size W W':=by
 obtain ⟨xa,i0,k0⟩:=Tp.arg (.cons (.int .i64) (.cons (.int .i64) (.cons (.sl (.cons (.int .i64) (.one (.int .i64)))) (.cons (.sl (.one (.sl (.cons (.int .i64) (.one .bool))))) (.cons (.one (.sl (.cons (.int .i64) (.one .bool)))) (.cons (.sl (.cons (.int .i64) (.cons (.sl (.cons (.int .i64) (.one (.int .i64)))) (.cons (.sl (.one (.sl (.cons (.int .i64) (.one .bool))))) (.one (.one (.sl (.cons (.int .i64) (.one .bool))))))))) (.one (.sl (.cons (.sl (.cons (.int .i64) (.cons (.int .i64) (.cons (.int .i64) (.cons (.int .i64) (.one .bool)))))) (.one (.cons (.int .i64) (.cons (.int .i64) (.cons (.int .i64) (.cons (.sl (.int .i64)) (.cons (.sl (.int .i64)) (.one (.sl (.int .i64)))))))))))))))))) (by kernel_rfl) o0 h0
 have q0:=Tp.argFit (.cons (.int .i64) (.cons (.int .i64) (.cons (.sl (.cons (.int .i64) (.one (.int .i64)))) (.cons (.sl (.one (.sl (.cons (.int .i64) (.one .bool))))) (.cons (.one (.sl (.cons (.int .i64) (.one .bool)))) (.cons (.sl (.cons (.int .i64) (.cons (.sl (.cons (.int .i64) (.one (.int .i64)))) (.cons (.sl (.one (.sl (.cons (.int .i64) (.one .bool))))) (.one (.one (.sl (.cons (.int .i64) (.one .bool))))))))) (.one (.sl (.cons (.sl (.cons (.int .i64) (.cons (.int .i64) (.cons (.int .i64) (.cons (.int .i64) (.one .bool)))))) (.one (.cons (.int .i64) (.cons (.int .i64) (.cons (.int .i64) (.cons (.sl (.int .i64)) (.cons (.sl (.int .i64)) (.one (.sl (.int .i64)))))))))))))))))) (r := .any) (b:=base) (by kernel_rfl) (by kernel_rfl) h0 i0 w0
 exact A9 (s:=qI) (x:=xa) (args:=[v0]) vO (wr xa k0 q0) (Gk.of hso) rfl rfl ⟨_,_,rfl,uj _ i0,rfl⟩
end
end Go.Proofs.YteciehjlefldmaaGreatDoor
namespace Go.Proofs.YteciehjlefldmaaGreatDoor.textBackFrame
set_option maxRecDepth 40000
open Go.ChangeShapes Go.WideShapes Go.ChangeAt Go.RowKit
theorem own:ownKnob Tryz.prog.godebug=none:=by kernel_rfl
theorem yN (H:Type) (enc:TypeId×Value→H) (W:World) (base:Nat) (args:Array Value) (ds gs:List (DataW H)) (before:List MemPlace)
    (hval:∀ (j:Nat) t v,Tryz.f3.params[j]? = some t→args[j]? = some v→Value.okWide Tryz.prog W .any base t v)
    (hW:DataW.Whole enc Tryz.prog Tryz.f3.params.toList Rows.textBackSpec.vars false W args.toList ds gs before) (vt:List TypeId) (hwt:(DataW.weightsEach Tryz.prog (Tryz.f3.params.toList++vt) (ds++gs)).all (·≤reachBytes)=true) (hso:W.ShapedOpen Tryz.prog) :
    Calls Tryz.prog 3 args W fun e W'=>∃ v,e = .returned v∧Rows.textBackSpec.post enc Tryz.prog Tryz.f3 false true false false W args v W':=by
  have hW':=hW
  obtain ⟨p,q,hA0,hV,rfl,hfz,hnd⟩:=hW
  have hA:DataW.TrodAll enc Tryz.prog W 0 (fun _=>true) true Tryz.f3.params.toList args.toList ds p:=hA0
  rw [Tryz.params3] at hA hval hwt
  obtain ⟨v0,vs0,d0,ds0,p0,q0,hargs,rfl,rfl,h0,r0⟩:=trodAll_cons hA
  obtain ⟨rfl,rfl,rfl⟩:=trodAll_nil r0
  obtain rfl:args = #[v0]:=by cases args; simp_all
  refine (wo enc W base h0 (hval 0 _ v0 rfl rfl) (jV _ _ hwt 0 _ _ rfl rfl) hso).mono fun e W' ⟨he,hb⟩=>?_
  subst he
  exact ⟨_,rfl,yh (tb:=_) rfl hW' rfl rfl (by kernel_rfl) (by kernel_rfl) (of_decide_eq_true (by kernel_rfl)) hb⟩
noncomputable def gV (os:Os):World:=World.laidAll Tryz.prog os Rows.textBackRow.laid
theorem u5 (os:Os) {H:Type} (enc:TypeId×Value→H):∃ x,DataW.whole enc Tryz.prog ((gV os).forCall (fun _ _=>0) ⟨#[],#[.agg #[.int .i64 0,.int .i64 0,.slice none 0 0,.slice none 0 0,.slice none 0 0,.slice none 0 0,.slice none 0 0]],[]⟩).memory Tryz.f3.params.toList Rows.textBackSpec.vars false (#[.agg #[.int .i64 0,.int .i64 0,.slice none 0 0,.slice none 0 0,.slice none 0 0,.slice none 0 0,.slice none 0 0]]:Array Value).toList 8=some x :=
  Option.isSome_iff_exists.1 (by kernel_rfl)
set_option maxRecDepth 100000 in
theorem AC (os:Os) (started:os.Started) (H:Type) (enc:TypeId×Value→H) (F:Stop.Interp) :
    ReturnsInHanded {} Tryz.checked os 3 .any ((OpenSpec.ofChange Rows.textBackSpec).preRow enc Tryz.prog Tryz.f3 Rows.textBackRow.domain false Rows.textBackRow.laid) (((OpenSpec.ofChange Rows.textBackSpec).at F).post enc Tryz.prog Tryz.f3 false true false false):=by
  obtain ⟨x,hx⟩:=u5 os enc
  refine returnsInHanded_of_row (C:=Tryz.checked) (s:=OpenSpec.ofChange Rows.textBackSpec) own started (by kernel_rfl) Tryz.func3
    ⟨gV os,fun _ _=>0,⟨#[],#[.agg #[.int .i64 0,.int .i64 0,.slice none 0 0,.slice none 0 0,.slice none 0 0,.slice none 0 0,.slice none 0 0]],[]⟩,World.laidAll_os _ _ _,World.shaped_of_ZipB (by kernel_rfl) (by kernel_rfl),rfl,(Input.okWide_of_okWideB (by kernel_rfl)).2,
      OpenSpec.preRow_of_cond 8 hx (by kernel_rfl) (fun k hk=>by cases hk) (by kernel_rfl) (by rw [MakeChecks.laidMetH_plain _ _ _ (by kernel_rfl)]; exact laidMet_laidAll _ (by kernel_rfl) (by kernel_rfl)),
      by simp only [Assume.holds]; exact ⟨by simp,by simp,by simp,by simp,by simp⟩⟩ ?_
  intro W base args ds gs before hval hW _ _ hwt hL hso _
  exact yN H enc W base args ds gs before hval hW _ hwt hso
theorem AB:Rows.TextBackSaid :=
  OpenClaim.holds_of_cond 3 Tryz.f3 rfl rfl rfl rfl rfl rfl rfl ⟨rfl,rfl,rfl,rfl,rfl⟩ rfl rfl rfl rfl rfl (by kernel_rfl) Tryz.func3 (by kernel_rfl)
    (of_decide_eq_true (by kernel_rfl)) (by unfold Func.isWrapper; first | (rw [if_pos (by decide +kernel)]; kernel_rfl) | (rw [if_neg (by decide +kernel)]; exact ⟨rfl,rfl⟩))
    (fun os started H enc _ F=>by rw [OpenClaim.pre_eq_preRow]; exact AC os started H enc F)
theorem card:Rows.TextBackCardSaid :=
  Claim7.holds_tied_plain_at .later [] [.data, .pinned] true (true, "4b3b37322cc1a254bf764a0a8b9b81854a77fa54970285dc33a6b95b4d1592ce") false AB (fun _ h => by cases h) (by kernel_rfl) (fun _ h => by cases h) textBack_row_tie rfl ⟨rfl, rfl⟩ (by kernel_rfl) rfl
    (fun f fn hf hfn=>by
      obtain rfl : f = 3 := Option.some.inj ((show Tryz.prog.funcNamed "easement/easementlaw38.TextBack" = some 3 by kernel_rfl).symm.trans hf) |>.symm
      obtain rfl:fn=Tryz.f3:=(Option.some.inj (Tryz.func3.symm.trans hfn)).symm
      exact ⟨by kernel_rfl,fun j t ht=>by
        rw [Tryz.params3] at ht
        have hm:t∈[30]:=by simpa using Array.mem_of_getElem? ht
        have hall:([30].all fun u=>!Tryz.prog.wantsStandIn u)=true:=by kernel_rfl
        exact (show Tryz.prog.wantsStandIn t=false by simpa using List.all_eq_true.1 hall t hm)⟩)
    (by kernel_rfl)
end Go.Proofs.YteciehjlefldmaaGreatDoor.textBackFrame
