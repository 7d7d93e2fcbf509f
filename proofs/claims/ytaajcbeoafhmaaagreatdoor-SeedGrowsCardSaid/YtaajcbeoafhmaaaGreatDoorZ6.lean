/- A part of the proof: what lies ahead of the law. Nothing is claimed here. -/
import Derived.Test.YtaajcbeoafhmaaaGreatDoorZ5
import Derived.Lib.RowBridge
namespace Go.Proofs.YtaajcbeoafhmaaaGreatDoor
noncomputable section
set_option linter.unusedVariables false
set_option linter.unnecessarySimpa false
set_option linter.unusedSimpArgs false
open Go.RowKit
abbrev Tm:=Int×Int×Int×List Int×List Int×List Int
def iU (x:Tm):Bool:=((!decide (x.2.1=0))||(!decide (x.2.2.1=0)))||(decide (0 < x.2.2.2.2.2.length))
def tz (x:Tm):Bool :=
 if x.1=1 then decide (x.2.2.2.1.length=1)&&decide (x.2.2.2.2.1.length=0)&&!iU x
 else if x.1=2 then decide (0 < x.2.2.2.1.length)&&!iU x
 else if x.1=3 then decide (x.2.2.2.1.length=0)&&decide (x.2.2.2.2.1.length=0)&&!iU x
 else if x.1=4 then decide (x.2.2.2.1.length=1) else false
def cA (x:Tm):Int:=if tz x=true then if 16 < x.2.2.2.1.length∨16 < x.2.2.2.2.1.length∨16 < x.2.2.2.2.2.length then 6 else 0 else 3
theorem bnd (a b:Bool):(cond a (some b) (some false):Option Bool)=some (a&&b):=by cases a <;> rfl
theorem dn1 (n:Nat):decide ((n:Int)=1)=decide (n=1):=by by_cases h:n=1 <;> simp [h] <;> omega
theorem dn0 (n:Nat):decide ((n:Int)=0)=decide (n=0):=by by_cases h:n=0 <;> simp [h] <;> omega
theorem dp0 (n:Nat):decide (0 < (n:Int))=decide (0 < n):=by by_cases h:0 < n <;> simp [h] <;> omega
theorem d16 (n:Nat):decide (16 < (n:Int))=decide (16 < n):=by by_cases h:16 < n <;> simp [h] <;> omega
theorem Dk (x:Tm):km x=some (cA x):=by
 obtain ⟨k,g,d,to,args,ps⟩:=x
 have hc:ib (k,g,d,to,args,ps)=some (iU (k,g,d,to,args,ps)):=by unfold ib iU; simp only [dp0]
 unfold km cA
 have hr:∀ b:Bool,(cond (!b) (some 3) (cond (((decide (16 < ((to.length:Nat):Int)))||(decide (16 < ((args.length:Nat):Int))))||(decide (16 < ((ps.length:Nat):Int)))) (some 6) (some 0)):Option Int)=some (if b=true then if 16 < to.length∨16 < args.length∨16 < ps.length then 6 else 0 else 3):=by
   intro b
   cases b with
   | false=>rfl
   | true =>
     simp only [d16,Bool.not_true,cond_false,if_true]
     by_cases h1:16 < to.length <;> by_cases h2:16 < args.length <;> by_cases h3:16 < ps.length <;> simp [h1,h2,h3]
 dsimp only at *
 have hm:∀ (m:Option Bool) (b:Bool),m=some b→(m.bind fun t194=>cond (!t194) (some 3) (cond (((decide (16 < ((to.length:Nat):Int)))||(decide (16 < ((args.length:Nat):Int))))||(decide (16 < ((ps.length:Nat):Int)))) (some 6) (some 0)):Option Int)=some (if b=true then if 16 < to.length∨16 < args.length∨16 < ps.length then 6 else 0 else 3):=by
   rintro _ b rfl; exact hr b
 refine hm _ _ ?_
 simp only [hc,Option.bind_some,dn1,dn0,dp0]
 unfold tz
 dsimp only
 by_cases k1:k=1
 . simp [k1,bnd,Bool.and_assoc]
 . by_cases k2:k=2
   . simp [k2,bnd,Bool.and_assoc]
   . by_cases k3:k=3
     . simp [k3,bnd,Bool.and_assoc]
     . by_cases k4:k=4
       . simp [k4]
       . simp [k1,k2,k3,k4]
theorem CM (xa:List Int) (n:Int) (hn:xa.length≤1073741824):dK xa n=some (!xa.any (fun x=>decide (x < 0)||decide (n≤x))):=by
 unfold dK
 rw [fS (body:=mo xa n) xa (fun x=>decide (x < 0)||decide (n≤x)) (.inr false) (.inl ()) ?_ ?_]
 . cases xa.any (fun x=>decide (x < 0)||decide (n≤x)) <;> rfl
 . intro k hk
   unfold mo
   by_cases q:xa[k] < 0 <;> by_cases q2:n≤xa[k] <;> simp [hk,ah hk,aq hk (by omega:xa.length≤9223372036854775807),q,q2]
 . simp [mo]
theorem m9 (x:Tm):fJ x=some (cA x):=by
 obtain ⟨k,g,d,to,args,ps⟩:=x
 unfold fJ cA tz iU
 dsimp only
 simp only [dn1,dn0,d16,dp0]
 have hps:decide (0 < ps.length) = !decide (ps.length=0):=by by_cases h:ps.length=0 <;> simp [h] <;> omega
 have hto:decide (0 < to.length) = !decide (to.length=0):=by by_cases h:to.length=0 <;> simp [h] <;> omega
 rw [hps,hto]
 have last:(cond (((decide (16 < to.length))||(decide (16 < args.length)))||(decide (16 < ps.length))) (some 6) (some 0):Option Int)=some (if 16 < to.length∨16 < args.length∨16 < ps.length then 6 else 0):=by
   by_cases h1:16 < to.length <;> by_cases h2:16 < args.length <;> by_cases h3:16 < ps.length <;> simp [h1,h2,h3]
 rw [last]
 generalize (if 16 < to.length∨16 < args.length∨16 < ps.length then (6:Int) else 0)=z
 generalize decide (to.length=1)=t1
 generalize decide (to.length=0)=t0
 generalize decide (args.length=0)=a0
 generalize decide (ps.length=0)=p0
 generalize decide (g=0)=g0
 generalize decide (d=0)=d0
 by_cases k1:k=1
 . subst k1; cases t1 <;> cases t0 <;> cases a0 <;> cases p0 <;> cases g0 <;> cases d0 <;> simp
 . by_cases k2:k=2
   . subst k2; cases t1 <;> cases t0 <;> cases a0 <;> cases p0 <;> cases g0 <;> cases d0 <;> simp
   . by_cases k3:k=3
     . subst k3; cases t1 <;> cases t0 <;> cases a0 <;> cases p0 <;> cases g0 <;> cases d0 <;> simp
     . by_cases k4:k=4
       . subst k4; cases t1 <;> cases t0 <;> cases a0 <;> cases p0 <;> cases g0 <;> cases d0 <;> simp
       . have:(decide (k < 1)||decide (4 < k))=true:=by simp; omega
         simp [this,k1,k2,k3,k4]
theorem zV {xa:List (List St)} {body:Int→Option (Int⊕(Unit⊕Bool))} (hn:xa.length≤1000) (hb:∀ i,body i=cond (decide (i < (((xa.length:Nat):Int)))) ((aa xa i).bind fun x=>(fM x 20).bind fun t=>cond (!t) (some (.inr ((.inr (false))))) (some (.inl (IntKind.wrap .i64 (i + 1))))) (some (.inr ((.inl ()))))) :
   loop body 0=some (if xa.any (fun t=>!decide (t.length≤20)) then (Sum.inr false:Unit⊕Bool) else .inl ()):=by
 refine fS (β:=Unit⊕Bool) xa (fun t=>!decide (t.length≤20)) (.inr false) (.inl ()) ?_ ?_
 . intro k hk
   rw [hb]
   simp only [dlt hk,cond_true,ah hk,Option.bind_some,aq hk (by omega:xa.length≤9223372036854775807),tc]
   by_cases q:xa[k].length≤20
   . have:decide (((xa[k].length:Nat):Int)≤20)=true:=by simp; omega
     simp [this,q]
   . have:decide (((xa[k].length:Nat):Int)≤20)=false:=by simp; omega
     simp [this,q]
 . rw [hb]; simp
theorem yj {xa:List (List St)} (h:xa.any (fun t=>!decide (t.length≤20))=false):∀ t∈xa,t.length≤20:=by
 intro t ht
 have:=List.any_eq_false.1 h t ht
 simpa using this
theorem zH (s:Sg):er s=some false∨(er s=some true∧s.2.1.length≤20∧s.2.2.1.length≤20∧s.2.2.2.length≤20∧∀ t∈s.2.2.1,t.length≤20):=by
 unfold er
 by_cases h:20 < s.2.1.length∨20 < s.2.2.1.length
 . have:((decide (20 < (((s.2.1.length:Nat):Int))))||(decide (20 < (((s.2.2.1.length:Nat):Int)))))=true:=by simp; omega
   rw [this]; exact .inl rfl
 . have:((decide (20 < (((s.2.1.length:Nat):Int))))||(decide (20 < (((s.2.2.1.length:Nat):Int)))))=false:=by simp; omega
   rw [this,cond_false,tc]
   by_cases q:s.2.2.2.length≤20
   . have e:decide (((s.2.2.2.length:Nat):Int)≤20)=true:=by simp; omega
     simp only [Option.bind_some,e,Bool.not_true,cond_false]
     rw [zV (body:=uN s) (xa:=s.2.2.1) (by omega) (fun i=>rfl)]
     cases hf:s.2.2.1.any (fun t=>!decide (t.length≤20)) with
     | true=>exact .inl rfl
     | false=>exact .inr ⟨rfl,by omega,by omega,q,yj hf⟩
   . have e:decide (((s.2.2.2.length:Nat):Int)≤20)=false:=by simp; omega
     simp only [Option.bind_some,e]; exact .inl rfl
def bad (n:Int) (xa:List Int):Bool:=xa.any (fun x=>decide (x < 0)||decide (n≤x))
theorem qR (xa:List Int) (n:Int) (hn:xa.length≤1000):gI xa n=some (bad n xa):=by
 unfold gI pP
 rw [cP (body:=lF xa n) xa (fun x=>decide (x < 0)||decide (n≤x)) (fun k => .inr (k:Int)) (.inl ()) ?_ ?_]
 . rcases vC xa (fun x=>decide (x < 0)||decide (n≤x)) with ⟨k,h1,h2⟩ | ⟨h1,h2⟩
   . rw [h1]; unfold bad; simp [h2]
   . rw [h1]; unfold bad; simp [h2]
 . intro k hk
   unfold lF gL
   simp only [dlt hk,cond_true,ah hk,Option.bind_some,aq hk (by omega:xa.length≤9223372036854775807)]
   cases (decide (xa[k] < 0)||decide (n≤xa[k])) <;> rfl
 . simp [lF]
theorem cO (xa:List Int) (n:Int) (hn:xa.length≤1000):dK xa n=some (!bad n xa):=CM xa n (by omega)
abbrev Ar:=Int×Int×List (List St)×List St×List Sg
theorem Da {x:Tm} {a:Ar} (hx:x.2.2.2.2.1.length≤20) (hb:bad (a.2.2.1.length:Int) x.2.2.2.2.1=false) (hL:∀ t∈a.2.2.1,t.length≤20) :
   ∃ C:List (List St),loop (gV x a) ([],0)=some C∧(∀ t∈C,t.length≤20)∧∀ t∈C,t∈a.2.2.1:=by
 have hin (k:Nat) (hk:k < x.2.2.2.2.1.length):0≤x.2.2.2.2.1[k]∧x.2.2.2.2.1[k] < (a.2.2.1.length:Int):=by
   have:=List.any_eq_false.1 hb _ (List.getElem_mem hk)
   simp at this; omega
 have hl:=aQ (body:=gV x a) (fun k:Nat=>((x.2.2.2.2.1.take k).map (fun i=>a.2.2.1.getD i.toNat []),(k:Int))) x.2.2.2.2.1.length (b:=x.2.2.2.2.1.map (fun i=>a.2.2.1.getD i.toNat [])) ?_ ?_
 . have hm:∀ t∈x.2.2.2.2.1.map (fun i=>a.2.2.1.getD i.toNat []),t∈a.2.2.1:=by
     intro t ht
     obtain ⟨i,hi,rfl⟩:=List.mem_map.1 ht
     obtain ⟨k,hk,rfl⟩:=List.getElem_of_mem hi
     have h2:=hin k hk
     have:x.2.2.2.2.1[k].toNat < a.2.2.1.length:=by omega
     have e:a.2.2.1.getD x.2.2.2.2.1[k].toNat []=a.2.2.1[x.2.2.2.2.1[k].toNat]:=by simp [List.getD,this]
     rw [e]; exact List.getElem_mem _
   refine ⟨_,hl,fun t ht=>?_,hm⟩
   obtain ⟨i,hi,rfl⟩:=List.mem_map.1 ht
   obtain ⟨k,hk,rfl⟩:=List.getElem_of_mem hi
   have h2:=hin k hk
   have:x.2.2.2.2.1[k].toNat < a.2.2.1.length:=by omega
   have e:a.2.2.1.getD x.2.2.2.2.1[k].toNat []=a.2.2.1[x.2.2.2.2.1[k].toNat]:=by simp [List.getD,this]
   rw [e]; exact hL _ (List.getElem_mem _)
 . intro k hk
   have h2:=hin k hk
   have h3:x.2.2.2.2.1[k].toNat < a.2.2.1.length:=by omega
   have e:a.2.2.1.getD x.2.2.2.2.1[k].toNat []=a.2.2.1[x.2.2.2.2.1[k].toNat]:=by simp [List.getD,h3]
   unfold gV
   simp only [dlt hk,cond_true,ah hk,Option.bind_some]
   rw [px h2.1 h2.2,Option.bind_some,aM (by simp; omega),Option.bind_some,aq hk (by omega),aO hk,List.map_append]
   simp only [List.map_cons,List.map_nil,e]
 . simp [gV]
theorem ri {R:Int} {names:List Int} (hR:0 < R) (hn:bad R names=false) (i:Nat):0≤names.getD i 0∧names.getD i 0 < R:=by
 by_cases q:i < names.length
 . have e:names.getD i 0=names[i]:=by simp [List.getD,q]
   rw [e]
   have:=List.any_eq_false.1 hn _ (List.getElem_mem q)
   simp at this; omega
 . have e:names.getD i 0=0:=by simp [List.getD,List.getElem?_eq_none (Nat.not_lt.1 q)]
   rw [e]; omega
theorem wF {R:Int} {names:List Int} (hR:0 < R) (hn:bad R names=false) {t:List St}:rin R (t.map (sbs names))=false:=by
 refine iS fun x hx=>?_
 obtain ⟨y,_,rfl⟩:=List.mem_map.1 hx
 exact ri hR hn _
theorem Dq {R:Int} {s:Sg} {names:List Int} {C:List (List St)} {D:List St} (hR:0 < R) (hn:bad R names=false) (hC:∀ t∈C,t.length≤20∧rin R t=false) (hD:rin R D=false) (hs:s.2.1.length≤20∧s.2.2.1.length≤20∧s.2.2.2.length≤20):∀ n∈(csp s names C D).1,Gd R n:=by
 intro n h
 unfold csp at h
 split at h
 . simp at h
 split at h
 . simp at h
 split at h
 . simp at h
 split at h
 . have hb : ∀ k, k ≤ 20 → ∀ n ∈ bds names s.2.1 k, Gd R n := by
     intro k
     induction k with
     | zero=>intro _ n hn; simp [bds] at hn
     | succ k ih =>
       intro hk n hn'
       simp only [bds,List.mem_append,List.mem_singleton] at hn'
       rcases hn' with hn' | rfl
       . exact ih (by omega) n hn'
       . exact ⟨ri hR hn _,ri hR hn _,by simp,by show (0:Int)≤(k:Int); omega,by show (k:Int)≤_; omega⟩
   have hf : ∀ k, k ≤ 20 → ∀ n ∈ fls names s.2.2.1 C k, Gd R n := by
     intro k
     induction k with
     | zero=>intro _ n hn; simp [fls] at hn
     | succ k ih =>
       intro hk n hn'
       simp only [fls,List.mem_append] at hn'
       rcases hn' with hn' | hn'
       . exact ih (by omega) n hn'
       . unfold fl at hn'
         have hc:(C.getD k []).length≤20∧rin R (C.getD k [])=false:=by
           by_cases q:k < C.length
           . have e:C.getD k []=C[k]:=by simp [List.getD,q]
             rw [e]; exact hC _ (List.getElem_mem q)
           . have e:C.getD k []=[]:=by simp [List.getD,List.getElem?_eq_none (Nat.not_lt.1 q)]
             rw [e]; exact ⟨by simp,rfl⟩
         exact fV (by decide) _ _ _ (by omega) (by omega) hc.2 (wF hR hn) n hn'
   rcases List.mem_append.1 h with h | h
   . rcases List.mem_append.1 h with h | h
     . exact hb _ hs.1 n h
     . exact hf _ hs.2.1 n h
   . exact fV (by decide) _ _ 0 (by omega) (by simp; omega) (wF hR hn) hD n h
 . simp at h
theorem Ff (x:Tm) (a:Ar) (l2:x.2.2.2.1.length≤20) (l3:x.2.2.2.2.1.length≤20) (l4:x.2.2.2.2.2.length≤20) (hR:a.2.2.2.1.length≤20) (hL:∀ t∈a.2.2.1,t.length≤20) (hS:∀ s∈a.2.2.2.2,s.2.1.length≤20∧s.2.2.1.length≤20∧s.2.2.2.length≤20∧∀ t∈s.2.2.1,t.length≤20) :
   ∃ l e,hZ x a=some (l,e)∧ek x a=some (l,e)∧l.length≤1000000∧((0 < a.2.1∧(∀ t∈a.2.2.1,rin a.2.1 t=false)∧rin a.2.1 a.2.2.2.1=false)→∀ n∈l,Gd a.2.1 n):=by
 have same:uK x a=gV x a:=rfl
 unfold hZ ek
 rw [show km (x.1,x.2.1,x.2.2.1,x.2.2.2.1,x.2.2.2.2.1,x.2.2.2.2.2)=some (cA x) from Dk x,show fJ (x.1,x.2.1,x.2.2.1,x.2.2.2.1,x.2.2.2.2.1,x.2.2.2.2.2)=some (cA x) from m9 x,same]
 have hw:mT (x.1,x.2.1,x.2.2.1,x.2.2.2.1,x.2.2.2.2.1,x.2.2.2.2.2) (a.1,a.2.1,a.2.2.1,a.2.2.2.1,a.2.2.2.2)=some (!(bad a.1 x.2.2.2.1||bad (a.2.2.1.length:Int) x.2.2.2.2.1||bad a.2.1 x.2.2.2.2.2||(decide (x.1=4)&&(bad (a.2.2.1.length:Int) [x.2.2.1]||bad (a.2.2.2.2.length:Int) [x.2.1])))):=by
   unfold mT g9 gL
   simp only [Option.bind_some,qR x.2.2.2.1 _ (by omega:x.2.2.2.1.length≤1000),qR x.2.2.2.2.1 _ (by omega:x.2.2.2.2.1.length≤1000),qR x.2.2.2.2.2 _ (by omega:x.2.2.2.2.2.length≤1000)]
   have e (n i:Int):bad n [i]=(decide (i < 0)||decide (n≤i)):=by simp [bad]
   rw [e,e]
   cases bad a.1 x.2.2.2.1 <;> cases bad (a.2.2.1.length:Int) x.2.2.2.2.1 <;> cases bad a.2.1 x.2.2.2.2.2 <;> cases decide (x.1=4) <;> cases (decide (x.2.2.1 < 0)||decide ((a.2.2.1.length:Int)≤x.2.2.1)) <;> cases (decide (x.2.1 < 0)||decide ((a.2.2.2.2.length:Int)≤x.2.1)) <;> rfl
 rw [hw]
 by_cases hf:cA x=0
 . have o1 (i n:Int):dK [i] n=some (!bad n [i]):=cO [i] n (by simp)
   simp only [hf,Option.bind_some,decide_true,Bool.not_true,cond_false,cO x.2.2.2.1 _ (by omega:x.2.2.2.1.length≤1000),cO x.2.2.2.2.1 _ (by omega:x.2.2.2.2.1.length≤1000),cO x.2.2.2.2.2 _ (by omega:x.2.2.2.2.2.length≤1000),o1,Bool.not_not]
   have seven:∃ l e,(some (([]:List Nd),(7:Int)):Option (List Nd×Int))=some (l,e)∧(some (([]:List Nd),(7:Int)):Option (List Nd×Int))=some (l,e)∧l.length≤1000000∧((0 < a.2.1∧(∀ t∈a.2.2.1,rin a.2.1 t=false)∧rin a.2.1 a.2.2.2.1=false)→∀ n∈l,Gd a.2.1 n):=⟨[],7,rfl,rfl,by simp,by simp⟩
   cases b1:bad a.1 x.2.2.2.1 with
   | true=>exact seven
   | false =>
     cases b2:bad (a.2.2.1.length:Int) x.2.2.2.2.1 with
     | true=>exact seven
     | false =>
       cases b3:bad a.2.1 x.2.2.2.2.2 with
       | true=>exact seven
       | false =>
         by_cases k4:x.1=4
         . have n3:¬ x.1=3:=by omega
           rw [decide_eq_true k4,decide_eq_false n3]
           cases b4:bad (a.2.2.1.length:Int) [x.2.2.1] with
           | true=>exact seven
           | false =>
             cases b5:bad (a.2.2.2.2.length:Int) [x.2.1] with
             | true=>exact seven
             | false =>
               obtain ⟨C,c1,c2,c3⟩:=Da l3 b2 hL
               simp [bad] at b4 b5
               simp only [Bool.or_self,Bool.and_false,Bool.not_false,Bool.not_true,cond_false,cond_true,Option.bind_some,c1,Bool.false_and,Bool.true_and]
               rw [px b5.1 b5.2,px b4.1 b4.2]
               have hs:=hS _ (List.getElem_mem (l:=a.2.2.2.2) (n:=x.2.1.toNat) (by omega))
               have ht:=hL _ (List.getElem_mem (l:=a.2.2.1) (n:=x.2.2.1.toNat) (by omega))
               have hDm:=List.getElem_mem (l:=a.2.2.1) (n:=x.2.2.1.toNat) (by omega)
               simp only [Option.bind_some]
               generalize a.2.2.2.2[x.2.1.toNat]=S at hs ⊢
               generalize a.2.2.1[x.2.2.1.toNat]=D at ht hDm ⊢
               rw [show kv (S.1,S.2.1,S.2.2.1,S.2.2.2) x.2.2.2.2.2 C D=_ from BY S _ C D hs.2.2.1 hs.2.2.2 c2 ht,show m5 (S.1,S.2.1,S.2.2.1,S.2.2.2) x.2.2.2.2.2 C D=_ from B8 S _ C D hs.2.2.1 hs.2.2.2 c2 ht]
               have hn:=Fb S x.2.2.2.2.2 C D ⟨hs.1,hs.2.1,hs.2.2.1⟩ c2
               exact ⟨(csp S x.2.2.2.2.2 C D).1,(csp S x.2.2.2.2.2 C D).2,rfl,rfl,hn,fun hg=>Dq hg.1 b3 (fun t ht=>⟨c2 t ht,hg.2.1 t (c3 t ht)⟩) (hg.2.1 _ hDm) ⟨hs.1,hs.2.1,hs.2.2.1⟩⟩
         . rw [decide_eq_false k4]
           by_cases k3:x.1=3
           . rw [decide_eq_true k3]
             cases hz:a.2.2.1 with
             | nil=>exact ⟨[],14,by simp,by simp,by simp,by simp⟩
             | cons t ts =>
               have ht:=hL t (by rw [hz]; simp)
               have hl0:decide ((((t :: ts).length:Nat):Int)=0)=false:=decide_eq_false (by simp; omega)
               simp only [hl0,Bool.or_self,Bool.and_false,Bool.false_and,Bool.not_false,Bool.not_true,cond_false,cond_true,Option.bind_some,show aa (t :: ts) 0=some t from rfl]
               rw [ni _ _ _ _ (by omega) (by omega) (by omega),io _ _ _ _ (by omega) (by omega) (by omega)]
               have hr:=cw 7 t a.2.2.2.1 0
               by_cases q:shp t a.2.2.2.1=true
               . exact ⟨rel 7 0 t a.2.2.2.1,0,by simp [q],by simp [q],by omega,fun hg=>fV (by decide) _ _ 0 (by omega) (by omega) (hg.2.1 t (by simp)) hg.2.2⟩
               . exact ⟨[],8,by simp [q],by simp [q],by simp,by simp⟩
           . rw [decide_eq_false k3]
             exact ⟨[],0,rfl,rfl,by simp,by simp⟩
 . exact ⟨[],cA x,by simp [hf],by simp [hf],by simp,by simp⟩
abbrev Kv:Tp := .cons (.int .i64) (.cons (.sl (.cons (.int .i64) (.one (.int .i64)))) (.cons (.sl (.one (.sl (.cons (.int .i64) (.one .bool))))) (.one (.one (.sl (.cons (.int .i64) (.one .bool)))))))
abbrev LT:Tp := .cons (.int .i64) (.cons (.int .i64) (.cons (.int .i64) (.cons (.sl (.int .i64)) (.cons (.sl (.int .i64)) (.one (.sl (.int .i64)))))))
abbrev sU:Tp := .cons (.int .i64) (.cons (.int .i64) (.cons (.sl (.cons (.int .i64) (.one (.int .i64)))) (.cons (.sl (.one (.sl (.cons (.int .i64) (.one .bool))))) (.cons (.one (.sl (.cons (.int .i64) (.one .bool)))) (.cons (.sl Kv) (.one (.sl (.cons (.sl (.cons (.int .i64) (.cons (.int .i64) (.cons (.int .i64) (.cons (.int .i64) (.one .bool)))))) (.one LT)))))))))
abbrev Blk:=List Stm×Tm
abbrev Bo:=Int×Int×List (Int×Int)×List (List St)×List St×List Sg×List Blk
def stm (l:List Blk):Nat:=(l.map (fun x=>x.1.length)).sum
structure Sm (b:Bo):Prop where
 bounds:b.2.2.1.length≤20
 locals:b.2.2.2.1.length≤10
 loc:∀ t∈b.2.2.2.1,t.length≤20
 ret:b.2.2.2.2.1.length≤20
 sigs:b.2.2.2.2.2.1.length≤4
 sig:∀ s∈b.2.2.2.2.2.1,s.2.1.length≤20∧s.2.2.1.length≤20∧s.2.2.2.length≤20∧∀ t∈s.2.2.1,t.length≤20
 blocks:b.2.2.2.2.2.2.length≤8
 term:∀ x∈b.2.2.2.2.2.2,x.2.2.2.2.1.length≤20∧x.2.2.2.2.2.1.length≤20∧x.2.2.2.2.2.2.length≤20
 many:stm b.2.2.2.2.2.2≤24
theorem xW {α:Type} (f:α→Nat):∀ (l:List α) (x:α),x∈l→f x≤(l.map f).sum
 | [],x,h=>by cases h
 | y :: l,x,h=>by
   rcases List.mem_cons.1 h with rfl | h
   . simp
   . have:=xW f l x h; simp; omega
theorem xi {α:Type} (f:α→Nat) (l:List α) (k:Nat):((l.take k).map f).sum≤(l.map f).sum:=by
 have:l.map f=(l.take k).map f++(l.drop k).map f:=by rw [← List.map_append,List.take_append_drop]
 rw [this,List.sum_append]; omega
theorem Sm.stmts {b:Bo} (h:Sm b) {x:Blk} (hx:x∈b.2.2.2.2.2.2):x.1.length≤24:=by
 have:=xW (fun x:Blk=>x.1.length) _ x hx
 have:=h.many; unfold stm at this; omega
theorem se {X:List Blk} {k:Nat} (hk:k < X.length):stm (X.take (k + 1))=stm (X.take k) + X[k].1.length:=by
 unfold stm; rw [aO hk,List.map_append,List.sum_append]; simp
theorem Di {b:Bo} (h:Tp.Fit sU b):∀ x∈b.2.2.2.2.2.2,x.1.length≤140737488351232:=by
 obtain ⟨_,_,_,_,_,_,_,h2⟩:=h
 exact fun x hx=>(h2 x hx).1.1
theorem EO (b:Bo) (hb:∀ x∈b.2.2.2.2.2.2,x.1.length≤140737488351232):fG b=some false∨(fG b=some true∧Sm b):=by
 obtain ⟨u,n,B,L,R,S,X⟩:=b
 unfold fG
 dsimp only at *
 have e1:((((decide (20 < (((B.length:Nat):Int))))||(decide (10 < (((L.length:Nat):Int)))))||(decide (4 < (((S.length:Nat):Int)))))||(decide (8 < (((X.length:Nat):Int)))))=decide (20 < B.length∨10 < L.length∨4 < S.length∨8 < X.length):=by
   by_cases h1:20 < B.length <;> by_cases h2:10 < L.length <;> by_cases h3:4 < S.length <;> by_cases h4:8 < X.length <;> simp [h1,h2,h3,h4] <;> omega
 rw [e1]
 by_cases h0:20 < B.length∨10 < L.length∨4 < S.length∨8 < X.length
 . rw [decide_eq_true h0]; exact .inl rfl
 . rw [decide_eq_false h0,cond_false,tc]
   by_cases q:R.length≤20
   . have e:decide (((R.length:Nat):Int)≤20)=true:=by simp; omega
     simp only [Option.bind_some,e,Bool.not_true,cond_false]
     rw [zV (body:=uL (u,n,B,L,R,S,X)) (xa:=L) (by omega) (fun i=>rfl)]
     cases hf:L.any (fun t=>!decide (t.length≤20)) with
     | true=>exact .inl rfl
     | false =>
       simp only [Bool.false_eq_true,if_false,Option.bind_some]
       have hS:∃ t,loop (gQ (u,n,B,L,R,S,X)) 0=some t∧(t = .inr false∨(t = .inl ()∧∀ s∈S,s.2.1.length≤20∧s.2.2.1.length≤20∧s.2.2.2.length≤20∧∀ t∈s.2.2.1,t.length≤20)):=by
         have hl:=iu (body:=gQ (u,n,B,L,R,S,X)) (fun k=>∃ h:k < S.length,er S[k]=some false) (fun k:Nat=>(k:Int)) S.length (fun _ => .inr false) (.inl ()) ?_ ?_ ?_
         . rcases hl with ⟨k,_,_,_,h4⟩ | ⟨h1,h2⟩
           . exact ⟨_,h4,.inl rfl⟩
           . refine ⟨_,h2,.inr ⟨rfl,fun s hs=>?_⟩⟩
             obtain ⟨k,hk,rfl⟩:=List.getElem_of_mem hs
             rcases zH S[k] with h | ⟨h,f1,f2,f3,f4⟩
             . exact absurd ⟨hk,h⟩ (h1 k hk)
             . exact ⟨f1,f2,f3,f4⟩
         . intro k hk hp
           unfold gQ
           rcases zH S[k] with h | ⟨h,_⟩
           . exact absurd ⟨hk,h⟩ hp
           . simp only [dlt hk,cond_true,ah hk,Option.bind_some,show er (S[k].1,S[k].2.1,S[k].2.2.1,S[k].2.2.2)=_ from h,aq hk (by omega:S.length≤9223372036854775807)]
             rfl
         . rintro k hk ⟨_,hp⟩
           unfold gQ
           simp only [dlt hk,cond_true,ah hk,Option.bind_some,show er (S[k].1,S[k].2.1,S[k].2.2.1,S[k].2.2.2)=_ from hp]
           rfl
         . simp [gQ]
       obtain ⟨t,ht,hS⟩:=hS
       rw [ht]
       rcases hS with rfl | ⟨rfl,hS⟩
       . exact .inl rfl
       . simp only [Option.bind_some]
         have hX:=iu (body:=fC (u,n,B,L,R,S,X)) (fun k=>∃ h:k < X.length,(((decide (20 < ((((X[k]).2.2.2.2.1.length:Nat):Int))))||(decide (20 < ((((X[k]).2.2.2.2.2.1.length:Nat):Int)))))||(decide (20 < ((((X[k]).2.2.2.2.2.2.length:Nat):Int)))))=true) (fun k:Nat=>(((stm (X.take k):Nat):Int),(k:Int))) X.length (fun _ => .inr false) (.inl ((stm X:Nat):Int)) ?_ ?_ ?_
         . rcases hX with ⟨k,_,_,_,h4⟩ | ⟨h1,h2⟩
           . have h4':loop (fC (u,n,B,L,R,S,X)) (0,0)=some (.inr false):=by simpa [stm] using h4
             rw [h4']; exact .inl rfl
           . have h2':loop (fC (u,n,B,L,R,S,X)) (0,0)=some (.inl ((stm X:Nat):Int)):=by simpa [stm] using h2
             rw [h2']
             by_cases hm:stm X≤24
             . refine .inr ⟨by simp; omega,⟨by dsimp only; omega,by dsimp only; omega,yj hf,q,by dsimp only; omega,hS,by dsimp only; omega,fun x hx=>?_,hm⟩⟩
               obtain ⟨k,hk,rfl⟩:=List.getElem_of_mem hx
               have hn:=h1 k hk
               dsimp only at hk hn
               have hn2:(((decide (20 < ((((X[k]).2.2.2.2.1.length:Nat):Int))))||(decide (20 < ((((X[k]).2.2.2.2.2.1.length:Nat):Int)))))||(decide (20 < ((((X[k]).2.2.2.2.2.2.length:Nat):Int)))))=false:=by
                 cases hc:(((decide (20 < ((((X[k]).2.2.2.2.1.length:Nat):Int))))||(decide (20 < ((((X[k]).2.2.2.2.2.1.length:Nat):Int)))))||(decide (20 < ((((X[k]).2.2.2.2.2.2.length:Nat):Int))))) with
                 | false=>rfl
                 | true=>exact absurd ⟨hk,hc⟩ hn
               simp at hn2
               dsimp only
               omega
             . refine .inl ?_
               simp; omega
         . intro k hk hp
           have hn2:(((decide (20 < ((((X[k]).2.2.2.2.1.length:Nat):Int))))||(decide (20 < ((((X[k]).2.2.2.2.2.1.length:Nat):Int)))))||(decide (20 < ((((X[k]).2.2.2.2.2.2.length:Nat):Int)))))=false:=by
             cases hc:(((decide (20 < ((((X[k]).2.2.2.2.1.length:Nat):Int))))||(decide (20 < ((((X[k]).2.2.2.2.2.1.length:Nat):Int)))))||(decide (20 < ((((X[k]).2.2.2.2.2.2.length:Nat):Int))))) with
             | false=>rfl
             | true=>exact absurd ⟨hk,hc⟩ hp
           have a1:=hb X[k] (List.getElem_mem hk)
           have a2:stm (X.take k)≤k * 140737488351232:=by
             unfold stm
             have:∀ q:List Blk,(∀ x∈q,x∈X)→(q.map (fun x=>x.1.length)).sum≤q.length * 140737488351232:=by
               intro q
               induction q with
               | nil=>intro _; simp
               | cons x q ih =>
                 intro hq
                 have:=ih (fun y hy=>hq y (by simp [hy]))
                 have:=hb x (hq x (by simp))
                 simp only [List.map_cons,List.sum_cons,List.length_cons,Nat.succ_mul]; omega
             have h3:=this (X.take k) (fun x hx=>List.mem_of_mem_take hx)
             rw [List.length_take,Nat.min_eq_left (by omega)] at h3
             exact h3
           have a3:k≤8:=by omega
           have a4:k * 140737488351232≤8 * 140737488351232:=Nat.mul_le_mul_right _ a3
           unfold fC
           simp only [dlt hk,cond_true,ah hk,Option.bind_some,hn2,cond_false,aq hk (by omega:X.length≤9223372036854775807)]
           rw [w64 (by omega) (by omega),se hk]
           simp
         . rintro k hk ⟨_,hp⟩
           unfold fC
           simp only [dlt hk,cond_true,ah hk,Option.bind_some,hp]
         . unfold fC
           simp
   . have e:decide (((R.length:Nat):Int)≤20)=false:=by simp; omega
     simp only [Option.bind_some,e]; exact .inl rfl
section
abbrev Flt:=Int×Int×Int×Int
def sE (L:List (List St)) (R:Int) (x:Stm):Int:=((dL x L R).getD ([],0)).2
def tE (a:Ar) (x:Tm):Int:=((ek x a).getD ([],0)).2
def bc (b:Bo):Ar:=(((b.2.2.2.2.2.2.length:Nat):Int),b.2.1,b.2.2.2.1,b.2.2.2.2.1,b.2.2.2.2.2.1)
def iX (b:Bo):Flt:=if b.1 < 1∨b.2.1 < b.1 then (7,0,0,0) else if 65536 < b.2.1 then (6,0,0,0) else (0,0,0,0)
def kO (b:Bo):Flt:=match b.2.2.1.findIdx? (bV b.1) with | some k=>(7,1,(k:Int),0) | none=>(0,0,0,0)
def d6 (b:Bo):Flt:=if b.2.2.2.1=[] then (14,2,0,0) else match b.2.2.2.1.findIdx? (fun t=>!decide (rck b.2.1 t=0)) with | some k=>(rck b.2.1 (b.2.2.2.1.getD k []),2,(k:Int),0) | none=>(0,0,0,0)
def jo (b:Bo):Flt:=if rck b.1 b.2.2.2.2.1=0 then if shp b.2.2.2.2.1 (b.2.2.2.1.getD 0 []) then (0,3,0,0) else (8,3,0,0) else (rck b.1 b.2.2.2.2.1,3,0,0)
def lB (b:Bo):Flt:=match b.2.2.2.2.2.1.findIdx? (fun s=>!decide (chk s=0)) with | some k=>(chk (b.2.2.2.2.2.1.getD k (0,[],[],[])),4,(k:Int),0) | none=>(0,0,0,0)
def gD (b:Bo):Flt:=if b.2.2.2.2.2.2=[] then (14,5,0,0) else (0,0,0,0)
def bG (b:Bo) (x:Blk):Option (Int×Int×Int) :=
 match x.1.findIdx? (fun s=>!decide (sE b.2.2.2.1 b.2.1 s=0)) with
 | some j=>some (sE b.2.2.2.1 b.2.1 (x.1.getD j (0,0,0,0,false)),6,(j:Int))
 | none=>if tE (bc b) x.2=0 then none else some (tE (bc b) x.2,7,0)
def dW (k:Nat) (o:Option (Int×Int×Int)):Flt:=match o with | some (e,p,j)=>(e,p,(k:Int),j) | none=>(0,0,0,0)
def b8 (b:Bo):Flt:=match b.2.2.2.2.2.2.findIdx? (fun x=>(bG b x).isSome) with | some k=>dW k (bG b (b.2.2.2.2.2.2.getD k ([],0,0,0,[],[],[]))) | none=>(0,0,0,0)
def or0 (a b:Flt):Flt:=if a.1=0 then b else a
def vck (b:Bo):Flt:=or0 (iX b) (or0 (kO b) (or0 (d6 b) (or0 (jo b) (or0 (lB b) (or0 (gD b) (b8 b))))))
theorem vn {t:List St} (n:Int) (h:t.length≤20):eo t n=some (rck n t):=qO t n (by omega)
section
variable {b:Bo} (h:Sm b)
include h
theorem Jc {x:Stm}:∃ l,hY x b.2.2.2.1 b.2.1=some (l,sE b.2.2.2.1 b.2.1 x)∧dL x b.2.2.2.1 b.2.1=some (l,sE b.2.2.2.1 b.2.1 x):=by
 obtain ⟨l,e,h1,h2,_⟩:=Bq x b.2.2.2.1 b.2.1 h.loc
 have:sE b.2.2.2.1 b.2.1 x=e:=by unfold sE; rw [h2]; rfl
 exact ⟨l,by rw [h1,this],by rw [h2,this]⟩
theorem Ja {x:Blk} (hx:x∈b.2.2.2.2.2.2):∃ l,hZ x.2 (bc b)=some (l,tE (bc b) x.2)∧ek x.2 (bc b)=some (l,tE (bc b) x.2):=by
 obtain ⟨a1,a2,a3⟩:=h.term x hx
 obtain ⟨l,e,h1,h2,_⟩:=Ff x.2 (bc b) a1 a2 a3 h.ret h.loc h.sig
 have:tE (bc b) x.2=e:=by unfold tE; rw [h2]; rfl
 exact ⟨l,by rw [h1,this],by rw [h2,this]⟩
theorem sgl {s:Sg} (hs:s∈b.2.2.2.2.2.1):ep s=some (chk s):=by
 obtain ⟨a1,a2,a3,a4⟩:=h.sig s hs
 exact u9 s (by omega) (fun t ht=>by have:=a4 t ht; omega)
end
end
section
theorem BZ {b:Bo}:(b8 b).1=0→b8 b=(0,0,0,0):=by
 unfold b8
 cases hf:b.2.2.2.2.2.2.findIdx? (fun x=>(bG b x).isSome) with
 | none=>intro _; rfl
 | some k =>
   obtain ⟨hk,h5,_⟩:=List.findIdx?_eq_some_iff_getElem.1 hf
   have e:b.2.2.2.2.2.2.getD k ([],0,0,0,[],[],[])=b.2.2.2.2.2.2[k]:=by simp [List.getD,hk]
   simp only [e]
   intro hz
   exfalso
   generalize b.2.2.2.2.2.2[k]=x at *
   unfold bG at hz h5
   cases hg:x.1.findIdx? (fun s=>!decide (sE b.2.2.2.1 b.2.1 s=0)) with
   | some j =>
     obtain ⟨hj,h6,_⟩:=List.findIdx?_eq_some_iff_getElem.1 hg
     have e2:x.1.getD j (0,0,0,0,false)=x.1[j]:=by simp [List.getD,hj]
     rw [hg] at hz
     simp only [dW,e2] at hz
     simp [hz] at h6
   | none =>
     rw [hg] at hz h5
     by_cases q:tE (bc b) x.2=0
     . simp [q] at h5
     . simp [q,dW] at hz
section
variable {b:Bo} (h:Sm b)
include h
theorem BW:jM b=some (kO b):=by
 have h1:=h.bounds
 unfold jM kO
 rw [decide_eq_false (by omega),cond_false,cP (body:=lV b) b.2.2.1 (bV b.1) (fun k=>(.inr (7,1,(k:Int),0):Unit⊕Flt)) (.inl ()) ?_ ?_]
 . cases b.2.2.1.findIdx? (bV b.1) <;> rfl
 . intro k hk
   unfold lV lN bf
   simp only [dlt hk,cond_true,ah hk,Option.bind_some,aq hk (by omega:b.2.2.1.length≤9223372036854775807)]
   generalize b.2.2.1[k]=x
   obtain ⟨x1,x2⟩:=x
   have e (x:Int):(!((decide (0≤x))&&(decide (x < b.1))))=(decide (x < 0)||decide (b.1≤x)):=by
     by_cases p:x < 0 <;> by_cases q:b.1≤x <;> simp [p,q] <;> omega
   simp only [e,bV]
   by_cases p1:x1 < 0 <;> by_cases p2:b.1≤x1 <;> by_cases p3:x2 < 0 <;> by_cases p4:b.1≤x2 <;> simp [p1,p2,p3,p4]
 . simp [lV]
theorem EN:jP b=some (d6 b):=by
 have h1:=h.locals
 have h4:=h.loc
 unfold jP d6
 by_cases q:b.2.2.2.1=[]
 . rw [if_pos q,q]; rfl
 . have q':¬ ((b.2.2.2.1.length:Nat):Int)=0:=fun hc=>q (List.length_eq_zero_iff.1 (by omega))
   rw [if_neg q,decide_eq_false q',cond_false,decide_eq_false (by omega),cond_false,cP (body:=lX b) b.2.2.2.1 (fun t=>!decide (rck b.2.1 t=0)) (fun k=>(.inr (rck b.2.1 (b.2.2.2.1.getD k []),2,(k:Int),0):Unit⊕Flt)) (.inl ()) ?_ ?_]
   . cases b.2.2.2.1.findIdx? (fun t=>!decide (rck b.2.1 t=0)) <;> rfl
   . intro k hk
     unfold lX bf
     have e:b.2.2.2.1.getD k []=b.2.2.2.1[k]:=by simp [List.getD,hk]
     simp only [dlt hk,cond_true,ah hk,Option.bind_some,aq hk (by omega:b.2.2.2.1.length≤9223372036854775807),e,vn _ (h4 _ (List.getElem_mem hk))]
     cases (!decide (rck b.2.1 b.2.2.2.1[k]=0)) <;> rfl
   . simp [lX]
theorem Fm (hL:b.2.2.2.1≠[]):j7 b=some (jo b):=by
 have h3:=h.ret
 unfold j7 jo
 have hp:0 < b.2.2.2.1.length:=List.length_pos_iff.2 hL
 have e0:b.2.2.2.1.getD 0 []=b.2.2.2.1[0]:=by simp [List.getD,hp]
 have g0:aa b.2.2.2.1 0=some b.2.2.2.1[0]:=ah (k:=0) hp
 rw [vn _ h3,Option.bind_some,g0,Option.bind_some,im _ _ (by omega),e0,Option.bind_some]
 by_cases q:rck b.1 b.2.2.2.2.1=0
 . rw [if_pos q,q]
   cases shp b.2.2.2.2.1 b.2.2.2.1[0] <;> rfl
 . rw [if_neg q,decide_eq_false q]; rfl
theorem FM:jZ b=some (lB b):=by
 have h1:=h.sigs
 have hs:=fun s (hs:s∈b.2.2.2.2.2.1)=>sgl h hs
 unfold jZ lB
 rw [decide_eq_false (by omega),cond_false,cP (body:=mf b) b.2.2.2.2.2.1 (fun s=>!decide (chk s=0)) (fun k=>(.inr (chk (b.2.2.2.2.2.1.getD k (0,[],[],[])),4,(k:Int),0):Unit⊕Flt)) (.inl ()) ?_ ?_]
 . cases b.2.2.2.2.2.1.findIdx? (fun s=>!decide (chk s=0)) <;> rfl
 . intro k hk
   unfold mf bf
   have e:b.2.2.2.2.2.1.getD k (0,[],[],[])=b.2.2.2.2.2.1[k]:=by simp [List.getD,hk]
   have hs':=hs _ (List.getElem_mem hk)
   simp only [dlt hk,cond_true,ah hk,Option.bind_some,aq hk (by omega:b.2.2.2.2.2.1.length≤9223372036854775807),e,show ep (b.2.2.2.2.2.1[k].1,b.2.2.2.2.2.1[k].2.1,b.2.2.2.2.2.1[k].2.2.1,b.2.2.2.2.2.1[k].2.2.2)=_ from hs']
   cases (!decide (chk b.2.2.2.2.2.1[k]=0)) <;> rfl
 . simp [mf]
theorem Fs:jL b=some (gD b):=by
 have h1:=h.blocks
 have h2:=h.many
 unfold jL gD
 by_cases q:b.2.2.2.2.2.2=[]
 . rw [if_pos q,q]; rfl
 . have q':¬ ((b.2.2.2.2.2.2.length:Nat):Int)=0:=fun hc=>q (List.length_eq_zero_iff.1 (by omega))
   rw [if_neg q,decide_eq_false q',cond_false,decide_eq_false (by omega),cond_false]
   have hl1:=aQ (body:=jF b) (fun k:Nat=>(((stm (b.2.2.2.2.2.2.take k):Nat):Int),(k:Int))) b.2.2.2.2.2.2.length (b := .inl ()) ?_ ?_
   . have hl1':loop (jF b) (0,0)=some (.inl ()):=by simpa [stm] using hl1
     rw [hl1']; rfl
   . intro k hk
     have a1:=se hk
     have a2:=xi (fun x:Blk=>x.1.length) b.2.2.2.2.2.2 (k + 1)
     have a3:stm (b.2.2.2.2.2.2.take (k + 1))≤stm b.2.2.2.2.2.2:=a2
     unfold jF bf
     simp only [dlt hk,cond_true,ah hk,Option.bind_some,aq hk (by omega:b.2.2.2.2.2.2.length≤9223372036854775807)]
     rw [w64 (by omega) (by omega),decide_eq_false (by omega),cond_false,a1]
     simp
   . unfold jF
     simp
theorem DY:j3 b=some (b8 b):=by
 have h1:=h.blocks
 have hst:=fun x (hx:x∈b.2.2.2.2.2.2)=>h.stmts hx
 have hT:=fun x (hx:x∈b.2.2.2.2.2.2)=>Ja h hx
 have hS:=fun x=>Jc h (x:=x)
 unfold j3 b8
 rw [cP (body:=mg b) b.2.2.2.2.2.2 (fun x=>(bG b x).isSome) (fun k=>(.inr (dW k (bG b (b.2.2.2.2.2.2.getD k ([],0,0,0,[],[],[])))):Unit⊕Flt)) (.inl ()) ?_ ?_]
 . cases b.2.2.2.2.2.2.findIdx? (fun x=>(bG b x).isSome) <;> rfl
 . intro k hk
   unfold mg
   have e:b.2.2.2.2.2.2.getD k ([],0,0,0,[],[],[])=b.2.2.2.2.2.2[k]:=by simp [List.getD,hk]
   obtain ⟨l,hT',_⟩:=hT _ (List.getElem_mem hk)
   have hst':=hst _ (List.getElem_mem hk)
   simp only [dlt hk,cond_true,ah hk,Option.bind_some,aq hk (by omega:b.2.2.2.2.2.2.length≤9223372036854775807),e]
   generalize b.2.2.2.2.2.2[k]=x at *
   rw [cP (body:=mb b k x) x.1 (fun s=>!decide (sE b.2.2.2.1 b.2.1 s=0)) (fun j=>(.inr (.inr (.inr (sE b.2.2.2.1 b.2.1 (x.1.getD j (0,0,0,0,false)),6,(k:Int),(j:Int)))):Unit⊕(Int⊕(Unit⊕Flt)))) (.inl ()) ?_ ?_]
   . unfold bG
     cases hf:x.1.findIdx? (fun s=>!decide (sE b.2.2.2.1 b.2.1 s=0)) with
     | some j=>rfl
     | none =>
       simp only [Option.bind_some]
       unfold bf qE
       rw [Option.bind_some,show hZ (x.2.1,x.2.2.1,x.2.2.2.1,x.2.2.2.2.1,x.2.2.2.2.2.1,x.2.2.2.2.2.2) (((b.2.2.2.2.2.2.length:Nat):Int),b.2.1,b.2.2.2.1,b.2.2.2.2.1,b.2.2.2.2.2.1)=_ from hT',Option.bind_some]
       by_cases q3:tE (bc b) x.2=0
       . simp [q3]
       . simp [q3,dW]
   . intro j hj
     obtain ⟨l,hS',_⟩:=hS x.1[j]
     have e2:x.1.getD j (0,0,0,0,false)=x.1[j]:=by simp [List.getD,hj]
     unfold mb bf qC
     simp only [dlt hj,cond_true,ah hj,Option.bind_some,aq hj (by omega:x.1.length≤9223372036854775807),e2,show hY (x.1[j].1,x.1[j].2.1,x.1[j].2.2.1,x.1[j].2.2.2.1,x.1[j].2.2.2.2) b.2.2.2.1 b.2.1=_ from hS']
     cases (!decide (sE b.2.2.2.1 b.2.1 x.1[j]=0)) <;> rfl
   . simp [mb]
 . simp [mg]
theorem Bg:jR b=some (vck b):=by
 unfold jR vck bf
 have hh:jY b=some (iX b):=by
   unfold jY iX
   by_cases q:b.1 < 1∨b.2.1 < b.1
   . have:(decide (b.1 < 1)||decide (b.2.1 < b.1))=true:=by simpa using q
     rw [this,if_pos q]; rfl
   . have:(decide (b.1 < 1)||decide (b.2.1 < b.1))=false:=by simpa using q
     rw [this,if_neg q,cond_false]
     by_cases q2:65536 < b.2.1
     . rw [decide_eq_true q2,if_pos q2]; rfl
     . rw [decide_eq_false q2,if_neg q2]; rfl
 rw [Option.bind_some,show jY b=_ from hh,show jM b=_ from BW h,show jP b=_ from EN h,
   show jZ b=_ from FM h,show jL b=_ from Fs h,show j3 b=_ from DY h]
 have hret:(d6 b).1=0→j7 b=some (jo b):=by
   intro hz
   refine Fm h (fun hc=>?_)
   unfold d6 at hz
   rw [if_pos hc] at hz; cases hz
 have hz6:(b8 b).1=0→b8 b=(0,0,0,0):=BZ
 generalize iX b=v1
 generalize kO b=v2
 generalize d6 b=v3 at *
 generalize jo b=v4 at *
 generalize lB b=v5
 generalize gD b=v6
 generalize b8 b=v7 at *
 unfold or0
 by_cases q1:v1.1=0 <;> by_cases q2:v2.1=0 <;> by_cases q3:v3.1=0 <;> by_cases q4:v4.1=0 <;> by_cases q5:v5.1=0 <;> by_cases q6:v6.1=0 <;> by_cases q7:v7.1=0 <;> simp_all
end
end
theorem GQ (L:List (List St)) (R:Int):sE L R (0,0,0,0,false)=0:=by
 unfold sE
 have:dL (0,0,0,0,false) L R=some ([],0):=by
   unfold dL
   rw [show ic ((0:Int),0,0,0,false)=_ from nk (0,0,0,0,false)]
   rfl
 rw [this]; rfl
theorem GD {a:Ar} {t:List St} {L:List (List St)} (h:a.2.2.1=t :: L) (hs:shp t a.2.2.2.1=true) (ht:t.length≤20):tE a (3,0,0,[],[],[])=0:=by
 unfold tE
 have:∃ l,ek (3,0,0,[],[],[]) a=some (l,0):=by
   unfold ek
   rw [show fJ ((3:Int),0,0,[],[],[])=_ from m9 (3,0,0,[],[],[])]
   simp only [cO _ _ (show ([]:List Int).length≤1000 by simp)]
   have h0:aa a.2.2.1 0=some t:=by rw [h]; rfl
   have h1:¬ ((a.2.2.1.length:Nat):Int)=0:=by rw [h]; simp; omega
   have h2:¬ a.2.2.1=[]:=by rw [h]; simp
   rw [h0]
   simp only [Option.bind_some]
   rw [io t a.2.2.2.1 7 0 (by omega) (by decide) (by decide),hs]
   refine ⟨rel 7 0 t a.2.2.2.1,?_⟩
   have e1:cA (3,0,0,[],[],[])=0:=by decide
   have e2:∀ n,bad n []=false:=fun n=>rfl
   simp [e1,e2,h1,h2]
 obtain ⟨l,hl⟩:=this
 rw [hl]; rfl
def bg (X:List Blk) (k:Nat):Nat:=stm (X.take k) + k
theorem cv {X:List Blk} {k:Nat} (hk:k < X.length):bg X (k + 1)=bg X k + X[k].1.length + 1:=by
 unfold bg; rw [se hk]; omega
theorem dS (X:List Blk) {i j:Nat} (h:i≤j) (hj:j≤X.length):bg X i≤bg X j:=by
 induction j with
 | zero => have : i = 0 := by omega
           subst this; exact Nat.le_refl _
 | succ j ih =>
   by_cases q:i=j + 1
   . subst q; exact Nat.le_refl _
   . have:=ih (by omega) (by omega)
     rw [cv (by omega)]; omega
theorem HL (X:List Blk) {i j:Nat} (h:i < j) (hj:j≤X.length):bg X i < bg X j:=by
 have h1:=dS X (i:=i + 1) (j:=j) h hj
 have h2:=cv (X:=X) (k:=i) (by omega)
 omega
def bgs (X:List Blk):List Int:=(List.range X.length).map fun k=>((bg X k:Nat):Int)
theorem n7 (X:List Blk):(bgs X).length=X.length:=by simp [bgs]
theorem nW (X:List Blk) {k:Nat} (hk:k < X.length):aa (bgs X) (k:Int)=some ((bg X k:Nat):Int):=by
 rw [ah (by rw [n7]; exact hk)]; simp [bgs]
def tX (i n:Nat):List (Int×Int×Bool):=(List.range (n + 1)).map fun (k:Nat)=>((i:Int),(k:Int),decide (k=n))
def gC (X:List Blk):Nat→List (Int×Int×Bool)
 | 0=>[]
 | i + 1=>gC X i++tX i (X.getD i ([],0,0,0,[],[],[])).1.length
theorem cx {α:Type} {l:List α} {k:Nat} {d:α} (hk:k < l.length):l.getD k d=l[k]:=by simp [List.getD,hk]
theorem xh (X:List Blk):∀ i,i≤X.length→(gC X i).length=bg X i
 | 0,_=>by simp [gC,bg,stm]
 | i + 1,h=>by
   have ih:=xh X i (by omega)
   rw [cv (by omega)]
   simp only [gC,List.length_append,ih,tX,List.length_map,List.length_range,cx (show i < X.length by omega)]; omega
theorem wH (X:List Blk):∀ i,i≤X.length→∀ j k,j < i→(hj:j < X.length)→k≤X[j].1.length→(gC X i)[bg X j + k]? = some ((j:Int),(k:Int),decide (k=X[j].1.length))
 | 0,_,j,k,h,_,_=>by omega
 | i + 1,h,j,k,hji,hj,hk=>by
   have hl:=xh X i (by omega)
   unfold gC
   by_cases q:j=i
   . subst q
     rw [List.getElem?_append_right (by omega),hl,Nat.add_sub_cancel_left,cx hj]
     unfold tX
     rw [List.getElem?_map,List.getElem?_range (by omega)]; rfl
   . have h1:=dS X (i:=j + 1) (j:=i) (by omega) (by omega)
     rw [cv hj] at h1
     rw [List.getElem?_append_left (by omega)]
     exact wH X i (by omega) j k (by omega) hj hk
abbrev tZ (X:List Blk):List (Int×Int×Bool):=gC X X.length
theorem DA (X:List Blk) {j k:Nat} (hj:j < X.length) (hk:k≤X[j].1.length):(tZ X)[bg X j + k]? = some ((j:Int),(k:Int),decide (k=X[j].1.length)):=wH X _ (Nat.le_refl _) j k hj hj hk
theorem oq (X:List Blk):∀ i,i≤X.length→∀ n,n < bg X i→∃ j k,∃ hj:j < X.length,k≤X[j].1.length∧n=bg X j + k∧j < i
 | 0,_,n,h=>by simp [bg,stm] at h
 | i + 1,h,n,hn=>by
   rw [cv (show i < X.length by omega)] at hn
   by_cases q:n < bg X i
   . obtain ⟨j,k,hj,h1,h2,h3⟩:=oq X i (by omega) n q
     exact ⟨j,k,hj,h1,h2,by omega⟩
   . exact ⟨i,n - bg X i,by omega,by omega,by omega,by omega⟩
theorem r9 {b:Bo} (h:Sm b) {k:Nat} (hk:k≤b.2.2.2.2.2.2.length):bg b.2.2.2.2.2.2 k≤32:=by
 have a2:=xi (fun x:Blk=>x.1.length) b.2.2.2.2.2.2 k
 have a3:stm (b.2.2.2.2.2.2.take k)≤stm b.2.2.2.2.2.2:=a2
 have:=h.many
 have:=h.blocks
 unfold bg; omega
def xs (b:Bo):List Blk:=if (vck b).1=0 then b.2.2.2.2.2.2 else []
theorem kJ {b:Bo} (h:Sm b) {k:Nat} (hk:k≤(xs b).length):bg (xs b) k≤32∧(xs b).length≤8:=by
 unfold xs at *
 split
 . rename_i q; rw [if_pos q] at hk; exact ⟨r9 h hk,h.blocks⟩
 . rename_i q; rw [if_neg q] at hk
   obtain rfl:k=0:=by simpa using hk
   simp [bg,stm]
theorem qS {b:Bo} (h:Sm b):dg b=some (some (bgs (xs b),((bg (xs b) (xs b).length:Nat):Int))):=by
 unfold dg qT
 rw [show jR b=_ from Bg h]
 simp only [Option.bind_some]
 unfold xs
 by_cases q:(vck b).1=0
 . have h1:=h.blocks
   rw [decide_eq_true q,Bool.not_true,cond_false,if_pos q]
   have hl:=aQ (body:=kc b) (fun k:Nat=>((k:Int),(List.range k).map (fun i=>((bg b.2.2.2.2.2.2 i:Nat):Int)),((bg b.2.2.2.2.2.2 k:Nat):Int))) b.2.2.2.2.2.2.length (b:=(bgs b.2.2.2.2.2.2,((bg b.2.2.2.2.2.2 b.2.2.2.2.2.2.length:Nat):Int))) ?_ ?_
   . have hl':loop (kc b) (0,[],0)=some (bgs b.2.2.2.2.2.2,((bg b.2.2.2.2.2.2 b.2.2.2.2.2.2.length:Nat):Int)):=by simpa [bg,stm] using hl
     rw [hl']; rfl
   . intro k hk
     have a1:=r9 h (k:=k) (by omega)
     have a2:=r9 h (k:=k + 1) (by omega)
     have a3:=cv hk
     unfold kc
     simp only [dlt hk,cond_true,ah hk,Option.bind_some]
     rw [aM (by simp; omega),Option.bind_some,aq hk (by omega),w64 (x:=((b.2.2.2.2.2.2[k].1.length:Nat):Int) + 1) (by omega) (by omega),w64 (by omega) (by omega),a3,List.range_succ,List.map_append]
     simp only [Option.some.injEq,Sum.inl.injEq,Prod.mk.injEq,true_and,List.map_cons,List.map_nil]
     omega
   . unfold kc
     simp [bgs]
 . rw [decide_eq_false q,if_neg q]; rfl
theorem F8 {a c:Nat} (h:a + c≤1000000):IntKind.wrap .i64 (Int.fdiv (IntKind.wrap .u64 (IntKind.wrap .i64 ((a:Int) + (c:Int)))) (2 ^ (min (Int.toNat 1) (IntKind.bits .u64))))=(((a + c) / 2:Nat):Int):=by
 have e1:IntKind.wrap .i64 ((a:Int) + (c:Int))=((a + c:Nat):Int):=by rw [w64 (by omega) (by omega)]; omega
 have e2:IntKind.wrap .u64 ((a + c:Nat):Int)=((a + c:Nat):Int):=by
   show ((a + c:Nat):Int) % 2 ^ 64=_
   omega
 have e3:(2:Int) ^ (min (Int.toNat 1) (IntKind.bits .u64))=2:=by decide
 rw [e1,e2,e3,Int.fdiv_eq_ediv_of_nonneg _ (by omega),w64 (by omega) (by omega)]
 omega
theorem CC {X:List Blk} (hX:X.length≤1000) {t:Int} {j k:Nat} (hj:j < X.length) (hk:k≤X[j].1.length) {n:Nat} (hn:n=bg X j + k) :
   lG ((X.length:Nat):Int) (some (bgs X,t)) (n:Int)=some ((j + 1:Nat):Int):=by
 unfold lG
 have pr:∀ i,i < X.length→(n < bg X i↔j < i):=by
   intro i hi
   constructor
   . intro h
     by_cases q:j < i
     . exact q
     . have:=dS X (i:=i) (j:=j) (by omega) (by omega); omega
   . intro h
     have h1:=dS X (i:=j + 1) (j:=i) h (by omega)
     rw [cv hj] at h1; omega
 have key:=b0 (body:=pQ (some (bgs X,t)) (n:Int)) (fun s:Int×Int=>∃ a c:Nat,s=((a:Int),(c:Int))∧a≤j + 1∧j + 1≤c∧c≤X.length) (fun s=>(s.2 - s.1).toNat) (Q:=fun r=>r=((j + 1:Nat):Int)) ?_ (s:=(0,((X.length:Nat):Int))) ⟨0,X.length,rfl,by omega,by omega,by omega⟩
 . obtain ⟨r,h1,h2⟩:=key
   rw [h1,h2]; rfl
 . rintro _ ⟨a,c,rfl,h1,h2,h3⟩
   unfold pQ pX
   dsimp only
   by_cases q:a < c
   . have hm:(a + c) / 2 < X.length:=by omega
     simp only [dlt q,cond_true,F8 (show a + c≤1000000 by omega),Option.bind_some,nW X hm]
     by_cases q2:j < (a + c) / 2
     . have:=(pr _ hm).2 q2
       rw [decide_eq_true (by omega),Bool.not_true,cond_false]
       refine .inl ⟨_,rfl,⟨a,(a + c) / 2,rfl,h1,by omega,by omega⟩,by dsimp only; omega⟩
     . have:¬ n < bg X ((a + c) / 2):=fun hc=>q2 ((pr _ hm).1 hc)
       rw [decide_eq_false (by omega),Bool.not_false,cond_true,w64 (by omega) (by omega)]
       refine .inl ⟨_,rfl,⟨(a + c) / 2 + 1,c,rfl,by omega,h2,h3⟩,by dsimp only; omega⟩
   . rw [decide_eq_false (by omega),cond_false]
     exact .inr ⟨_,rfl,by omega⟩
theorem zD {X:List Blk} (hX:X.length≤1000) (hb:bg X X.length≤100000) {j k:Nat} (hj:j < X.length) (hk:k≤X[j].1.length) :
   jK (some (bgs X,((bg X X.length:Nat):Int))) ((bg X j + k:Nat):Int)=some ((j:Int),(k:Int),true):=by
 have h1:=dS X (i:=j + 1) (j:=X.length) hj (Nat.le_refl _)
 rw [cv hj] at h1
 unfold jK db
 rw [decide_eq_false (by omega),cond_false]
 simp only [Option.isNone_some,cond_false,Option.bind_some]
 rw [decide_eq_false (by omega),cond_false,n7,CC hX hj hk rfl,Option.bind_some,w64 (by omega) (by omega),show ((j + 1:Nat):Int) - 1=(j:Int) by omega,nW X hj,Option.bind_some,w64 (by omega) (by omega)]
 simp only [Option.some.injEq,Prod.mk.injEq,true_and,and_true]
 omega
theorem Gg {X:List Blk} (hX:X.length≤1000) {j:Nat} (hj:j < X.length):mj (some (bgs X,((bg X X.length:Nat):Int))) (j:Int)=some ((bg X (j + 1):Nat):Int):=by
 unfold mj
 rw [Option.bind_some,w64 (by omega) (by omega)]
 dsimp only
 rw [n7]
 by_cases q:j + 1 < X.length
 . rw [decide_eq_true (by omega),cond_true,show (j:Int) + 1=((j + 1:Nat):Int) by omega,nW X q]; rfl
 . have:j + 1=X.length:=by omega
   rw [decide_eq_false (by omega),cond_false,this]
theorem FB {X:List Blk} (hX:X.length≤1000) (hb:bg X X.length≤100000) {j k:Nat} (hj:j < X.length) (hk:k≤X[j].1.length) :
   ma (some (bgs X,((bg X X.length:Nat):Int))) ((bg X j + k:Nat):Int)=some (decide (k=X[j].1.length)):=by
 have h1:=dS X (i:=j + 1) (j:=X.length) hj (Nat.le_refl _)
 have h2:=cv hj
 unfold ma
 rw [zD hX hb hj hk]
 simp only [Option.bind_some,cond_true,Gg hX hj,w64 (x:=((bg X j + k:Nat):Int) + 1) (by omega) (by omega)]
 congr 1
 by_cases c:k=X[j].1.length
 . rw [decide_eq_true c,decide_eq_true (by omega)]
 . rw [decide_eq_false c,decide_eq_false (by omega)]
theorem fN:∀ {xs ys:List Int},xs.Pairwise (· < ·)→ys.Pairwise (· < ·)→(∀ a,a∈xs↔a∈ys)→xs=ys
 | [],[],_,_,_=>rfl
 | [],y :: ys,_,_,h=>by have:=(h y).2 (by simp); simp at this
 | x :: xs,[],_,_,h=>by have:=(h x).1 (by simp); simp at this
 | x :: xs,y :: ys,hx,hy,h=>by
   obtain ⟨hx1,hx2⟩:=List.pairwise_cons.1 hx
   obtain ⟨hy1,hy2⟩:=List.pairwise_cons.1 hy
   have e:x=y:=by
     have h1:=(h x).1 (by simp)
     have h2:=(h y).2 (by simp)
     rcases List.mem_cons.1 h1 with h1 | h1
     . exact h1
     . rcases List.mem_cons.1 h2 with h2 | h2
       . exact h2.symm
       . have:=hy1 x h1; have:=hx1 y h2; omega
   subst e
   rw [fN hx2 hy2 (fun a=>?_)]
   constructor
   . intro ha
     rcases List.mem_cons.1 ((h a).1 (by simp [ha])) with e | e
     . subst e; have:=hx1 a ha; omega
     . exact e
   . intro ha
     rcases List.mem_cons.1 ((h a).2 (by simp [ha])) with e | e
     . subst e; have:=hy1 a ha; omega
     . exact e
theorem uI {zs:List Int} (hs:zs.Pairwise (·≤·)):∀ m,m≤zs.length→(Lib.compactUpTo zs.toArray m).Pairwise (· < ·)∧∀ a,a∈Lib.compactUpTo zs.toArray m↔a∈zs.take m
 | 0,_=>by simp [Lib.compactUpTo]
 | m + 1,h=>by
   obtain ⟨h1,h2⟩:=uI hs m (by omega)
   have hm:m < zs.length:=by omega
   have e:zs.toArray[m]! = zs[m]:=by simp [getElem!_pos,hm]
   rw [Lib.compactUpTo_succ,e]
   have htk:zs.take (m + 1)=zs.take m++[zs[m]]:=List.take_succ_eq_append_getElem hm
   have hle:∀ a∈zs.take m,a≤zs[m]:=by
     intro a ha
     have:=hs.sublist (List.take_sublist (m + 1) zs)
     rw [htk] at this
     exact (List.pairwise_append.1 this).2.2 a ha _ (by simp)
   rw [htk]
   cases hk:Lib.keeps zs.toArray m with
   | false =>
     simp only [Bool.false_eq_true,if_false,List.append_nil]
     refine ⟨h1,fun a=>?_⟩
     rw [h2,List.mem_append]
     have hm0:m≠0:=by rintro rfl; simp [Lib.keeps] at hk
     have he:zs.toArray[m]! = zs.toArray[m - 1]!:=by
       simp [Lib.keeps,hm0] at hk; simpa using hk
     have hp:m - 1 < zs.length:=by omega
     have e2:zs.toArray[m - 1]! = zs[m - 1]:=by simp [getElem!_pos,hp]
     rw [e,e2] at he
     constructor
     . exact .inl
     . rintro (h | h)
       . exact h
       . simp at h; rw [h,he]
         exact List.mem_take_iff_getElem.2 ⟨m - 1,by omega,rfl⟩
   | true =>
     simp only [if_true]
     refine ⟨List.pairwise_append.2 ⟨h1,by simp,fun a ha b hb=>?_⟩,fun a=>by rw [List.mem_append,List.mem_append,h2]⟩
     simp at hb; subst hb
     have ha':=(h2 a).1 ha
     have hle':=hle a ha'
     rcases Int.lt_or_eq_of_le hle' with h | h
     . exact h
     . exfalso
       obtain ⟨j,hj,rfl⟩:=List.mem_take_iff_getElem.1 ha'
       have hm0:m≠0:=by omega
       have hp:m - 1 < zs.length:=by omega
       have e2:zs.toArray[m - 1]! = zs[m - 1]:=by simp [getElem!_pos,hp]
       simp only [Lib.keeps,e,e2] at hk
       simp [hm0] at hk
       have a1:zs[j]≤zs[m - 1]:=by
         rcases Nat.lt_or_ge j (m - 1) with q | q
         . exact List.pairwise_iff_getElem.1 hs j (m - 1) _ _ q
         . have:j=m - 1:=by omega
           subst this; exact Int.le_refl _
       have a2:zs[m - 1]≤zs[m]:=List.pairwise_iff_getElem.1 hs (m - 1) m _ _ (by omega)
       omega
theorem mW {zs:List Int} (hs:zs.Pairwise (·≤·)):(Lib.compact zs).Pairwise (· < ·)∧∀ a,a∈Lib.compact zs↔a∈zs:=by
 have:=uI hs zs.length (Nat.le_refl _)
 rw [List.take_length] at this
 exact this
section
theorem fY {α:Type} {m j:Nat} {f:Nat→α} (h:j < m):aa ((List.range m).map f) (j:Int)=some (f j):=by
 rw [ah (by simpa using h)]; simp
theorem sm {α:Type} {m j:Nat} {f:Nat→α} {y:α}:((List.range m).map f).set j y=(List.range m).map (fun v=>if v=j then y else f v):=by
 apply List.ext_getElem
 . simp
 . intro i h1 h2
   simp only [List.getElem_set,List.getElem_map,List.getElem_range]
   by_cases h:j=i
   . subst h; simp
   . simp [h,Ne.symm h]
theorem gZ {α:Type} {m:Nat} {f g:Nat→α} (h:∀ v,v < m→f v=g v):(List.range m).map f=(List.range m).map g:=List.map_congr_left fun v hv=>h v (List.mem_range.1 hv)
theorem uS {α:Type} (m:Nat) (z:α):List.replicate m z=(List.range m).map (fun _=>z):=by
 apply List.ext_getElem <;> simp
def cnt (ks:List Nat) (v:Nat):Nat:=ks.countP (fun x=>decide (x=v))
def ltc (ks:List Nat) (v:Nat):Nat:=ks.countP (fun x=>decide (x < v))
theorem DU (ks:List Nat):ltc ks 0=0:=by simp [ltc]
theorem rO (ks:List Nat) (v:Nat):ltc ks (v + 1)=ltc ks v + cnt ks v:=by
 unfold ltc cnt
 induction ks with
 | nil=>rfl
 | cons x ks ih =>
   rw [List.countP_cons,List.countP_cons,List.countP_cons,ih]
   by_cases h:x < v
   . simp [h,show x < v + 1 by omega,show ¬ x=v by omega]; omega
   . by_cases h2:x=v
     . simp [h2]; omega
     . simp [h,h2,show ¬ x < v + 1 by omega]
theorem rS (ks:List Nat) {v w:Nat} (h:v≤w):ltc ks v≤ltc ks w:=by
 unfold ltc; apply List.countP_mono_left; intro x _; simp; omega
theorem oE (ks:List Nat) (v:Nat):ltc ks v≤ks.length:=List.countP_le_length
theorem yK (ks:List Nat) (v:Nat):cnt ks v≤ks.length:=List.countP_le_length
theorem kE {ks:List Nat} {k:Nat} (h:k < ks.length) (v:Nat):cnt (ks.take (k + 1)) v=cnt (ks.take k) v + (if ks[k]=v then 1 else 0):=by
 unfold cnt; rw [aO h,List.countP_append]; simp [List.countP_cons]
theorem uZ (ks:List Nat) (k v:Nat):cnt (ks.take k) v≤cnt ks v:=by
 unfold cnt
 conv=>rhs; rw [← List.take_append_drop k ks,List.countP_append]
 omega
theorem BA {ks:List Nat} {k:Nat} (h:k < ks.length):cnt (ks.take k) ks[k] < cnt ks ks[k]:=by
 have:=uZ ks (k + 1) ks[k]
 rw [kE h] at this
 simp at this; omega
def pos (ks:List Nat) (i:Nat):Nat:=ltc ks (ks.getD i 0) + cnt (ks.take i) (ks.getD i 0)
theorem tB {ks:List Nat} {i:Nat} (h:i < ks.length):pos ks i < ltc ks (ks[i] + 1):=by
 have:=BA h
 unfold pos; rw [rO]
 simp [h]; omega
theorem yC {ks:List Nat} {i:Nat} (h:i < ks.length):ltc ks ks[i]≤pos ks i:=by unfold pos; simp [h]
theorem Ca {ks:List Nat} {i:Nat} (h:i < ks.length):pos ks i < ks.length:=Nat.lt_of_lt_of_le (tB h) (oE _ _)
theorem xL {ks:List Nat} {i j:Nat} (hi:i < j) (hj:j < ks.length):pos ks i≠pos ks j:=by
 have hi':i < ks.length:=by omega
 rcases Nat.lt_trichotomy ks[i] ks[j] with h | h | h
 . have:=tB hi'; have:=yC hj; have:=rS ks (v:=ks[i] + 1) (w:=ks[j]) (by omega); omega
 . have h1:=kE hi' ks[j]
   have h2:cnt (ks.take (i + 1)) ks[j]≤cnt (ks.take j) ks[j]:=by
     have:=uZ (ks.take j) (i + 1) ks[j]
     rw [List.take_take,Nat.min_eq_left (by omega)] at this; exact this
   unfold pos; simp [hi',hj,h] at h1 ⊢; omega
 . have:=tB hj; have:=yC hi'; have:=rS ks (v:=ks[j] + 1) (w:=ks[i]) (by omega); omega
def occ (ks:List Nat) (v:Nat):List Nat:=(List.range ks.length).filter (fun i=>decide (ks.getD i 0=v))
theorem rQ (ks:List Nat) (v:Nat):∀ k,k≤ks.length→((List.range k).filter (fun i=>decide (ks.getD i 0=v))).length=cnt (ks.take k) v∧∀ (r i:Nat),((List.range k).filter (fun i=>decide (ks.getD i 0=v)))[r]? = some i→∃ hi:i < ks.length,ks[i]=v∧cnt (ks.take i) v=r
 | 0,_=>by simp [cnt]
 | k + 1,hk=>by
   obtain ⟨h1,h2⟩:=rQ ks v k (by omega)
   have hkl:k < ks.length:=by omega
   have e:(List.range (k + 1)).filter (fun i=>decide (ks.getD i 0=v))=(List.range k).filter (fun i=>decide (ks.getD i 0=v))++(if ks[k]=v then [k] else []):=by
     rw [List.range_succ,List.filter_append]
     by_cases h:ks[k]=v <;> simp [hkl,h]
   rw [e,kE hkl]
   generalize hF:(List.range k).filter (fun i=>decide (ks.getD i 0=v))=F at h1 h2
   by_cases h:ks[k]=v
   . simp only [h,if_true]
     refine ⟨by simp [h1],fun r i hr=>?_⟩
     by_cases hr2:r < F.length
     . rw [List.getElem?_append_left hr2] at hr; exact h2 r i hr
     . rw [List.getElem?_append_right (by omega)] at hr
       have hr3:r - F.length=0:=by
         have:=(List.getElem?_eq_some_iff.1 hr).1
         simp at this; omega
       rw [hr3] at hr
       simp at hr
       subst hr
       exact ⟨hkl,h,by omega⟩
   . simp only [h,if_false,List.append_nil,Nat.add_zero]
     exact ⟨h1,h2⟩
theorem yn (ks:List Nat) (v:Nat):(occ ks v).length=cnt ks v:=by have:=(rQ ks v ks.length (Nat.le_refl _)).1; rw [List.take_length] at this; exact this
theorem Fy (ks:List Nat) (v r:Nat) (h:r < (occ ks v).length):∃ (hi:(occ ks v)[r] < ks.length),ks[(occ ks v)[r]]=v∧cnt (ks.take (occ ks v)[r]) v=r:=(rQ ks v ks.length (Nat.le_refl _)).2 r _ (List.getElem?_eq_getElem h)
theorem sn {ks:List Nat} {v i:Nat}:i∈occ ks v↔∃ h:i < ks.length,ks[i]=v:=by
 unfold occ
 simp only [List.mem_filter,List.mem_range,decide_eq_true_eq]
 constructor
 . rintro ⟨h1,h2⟩; exact ⟨h1,by simpa [h1] using h2⟩
 . rintro ⟨h1,h2⟩; exact ⟨h1,by simpa [h1] using h2⟩
def av (ks:List Nat) (k p:Nat):Nat:=((List.range k).find? (fun i=>decide (pos ks i=p))).getD 0
theorem yT {ks:List Nat} {k i:Nat} (hk:k≤ks.length) (hi:i < k):av ks k (pos ks i)=i:=by
 unfold av
 cases h:(List.range k).find? (fun j=>decide (pos ks j=pos ks i)) with
 | none =>
   rw [List.find?_eq_none] at h
   exact absurd (by simp) (h i (List.mem_range.2 hi))
 | some j =>
   have h1:=List.find?_some h
   have h2:=List.mem_range.1 (List.mem_of_find?_eq_some h)
   simp at h1
   rcases Nat.lt_trichotomy i j with q | q | q
   . exact absurd h1.symm (xL q (by omega))
   . exact q.symm
   . exact absurd h1 (xL q (by omega))
theorem ES {ks:List Nat} {k:Nat} (hk:k < ks.length) (p:Nat):av ks (k + 1) p=if p=pos ks k then k else av ks k p:=by
 by_cases h:p=pos ks k
 . rw [if_pos h,h,yT (by omega) (by omega)]
 . rw [if_neg h]
   unfold av
   rw [List.range_succ,List.find?_append]
   simp [Ne.symm h]
theorem F3 (ks:List Nat) (v:Nat):((((List.range ks.length).map (fun p=>(av ks ks.length p:Int))).take (ltc ks (v + 1))).drop (ltc ks v))=(occ ks v).map (fun i:Nat=>(i:Int)):=by
 apply List.ext_getElem
 . have h1:=rO ks v
   have h2:=oE ks (v + 1)
   rw [List.length_drop,List.length_take,List.length_map,List.length_map,yn,List.length_range]; omega
 . intro r h1 h2
   have hr:r < (occ ks v).length:=by simpa using h2
   obtain ⟨hi,h3,h4⟩:=Fy ks v r hr
   simp only [List.getElem_drop,List.getElem_take,List.getElem_map,List.getElem_range]
   have:pos ks (occ ks v)[r]=ltc ks v + r:=by
     have e:ks.getD (occ ks v)[r] 0=v:=by simp [hi,h3]
     unfold pos; rw [e,h4]
   rw [← this,yT (Nat.le_refl _) hi]
section
variable {α:Type} (key:α→Int) (n:Int) (xb:List α)
def ix1:(Int×(List Int))→Option ((Int×(List Int))⊕(List Int)):=fun ((i,l):(Int×(List Int)))=>cond (decide (i < (((xb.length:Nat):Int)))) ((aa xb i).bind fun x=>(aa l (IntKind.wrap .i64 (key x + 1))).bind fun a=>(aa l (IntKind.wrap .i64 (key x + 1))).bind fun b=>(some (l.set (IntKind.wrap .i64 (key x + 1)).toNat (IntKind.wrap .i64 (a + 1)))).bind fun z=>some (.inl ((IntKind.wrap .i64 (i + 1),z)))) (some (.inr (l)))
def ix2:(Int×(List Int))→Option ((Int×(List Int))⊕(List Int)):=fun ((i,l):(Int×(List Int)))=>cond (decide (i < n)) ((aa l (IntKind.wrap .i64 (i + 1))).bind fun a=>(aa l i).bind fun b=>(aa l (IntKind.wrap .i64 (i + 1))).bind fun c=>(some (l.set (IntKind.wrap .i64 (i + 1)).toNat (IntKind.wrap .i64 (a + b)))).bind fun z=>some (.inl ((IntKind.wrap .i64 (i + 1),z)))) (some (.inr (l)))
def ix3:((List Int)×Int×(List Int))→Option (((List Int)×Int×(List Int))⊕(List Int)):=fun ((l,i,m):((List Int)×Int×(List Int)))=>cond (decide (i < (((xb.length:Nat):Int)))) ((aa xb i).bind fun x=>(aa l (key x)).bind fun a=>(aa m a).bind fun b=>(some (m.set a.toNat i)).bind fun z=>(aa l (key x)).bind fun c=>(aa l (key x)).bind fun d=>(some (l.set (key x).toNat (IntKind.wrap .i64 (c + 1)))).bind fun y=>some (.inl ((y,IntKind.wrap .i64 (i + 1),z)))) (some (.inr (m)))
variable {key n xb} {ks:List Nat}
theorem yU (hk:xb.map key=ks.map (fun k:Nat=>(k:Int))) {i:Nat} (h:i < xb.length):∃ h2:i < ks.length,key xb[i]=(ks[i]:Int):=by
 have hl:xb.length=ks.length:=by simpa using congrArg List.length hk
 refine ⟨by omega,?_⟩
 have h1:(xb.map key)[i]'(by simpa using h)=(ks.map (fun k:Nat=>(k:Int)))[i]'(by simp; omega):=by simp only [hk]
 simpa using h1
theorem yZ {N:Nat} (hk:xb.map key=ks.map (fun k:Nat=>(k:Int))) (hN:∀ x∈ks,x < N) (hb:ks.length≤1073741824) (hNb:N≤1073741824):loop (ix1 key xb) (0,List.replicate (N + 1) 0)=some ((List.range (N + 1)).map (fun v=>((if v=0 then 0 else cnt ks (v - 1):Nat):Int))):=by
 have hl:xb.length=ks.length:=by simpa using congrArg List.length hk
 have h:=aQ (body:=ix1 key xb) (fun k:Nat=>((k:Int),(List.range (N + 1)).map (fun v=>((if v=0 then 0 else cnt (ks.take k) (v - 1):Nat):Int)))) xb.length (b:=(List.range (N + 1)).map (fun v=>((if v=0 then 0 else cnt ks (v - 1):Nat):Int))) ?_ ?_
 . rw [uS]; simpa [cnt] using h
 . intro k hk2
   obtain ⟨hk3,hk4⟩:=yU hk hk2
   have hlt:=hN _ (List.getElem_mem hk3)
   have hw:IntKind.wrap .i64 (key xb[k] + 1)=((ks[k] + 1:Nat):Int):=by rw [hk4,w64 (by omega) (by omega)]; omega
   have hc:=yK (ks.take k) ks[k]
   simp only [List.length_take] at hc
   unfold ix1
   simp only [dlt hk2,cond_true,ah hk2,Option.bind_some,hw,fY (show ks[k] + 1 < N + 1 by omega),Int.toNat_natCast,sm,aq hk2 (by omega:xb.length≤9223372036854775807)]
   congr 3
   refine gZ (fun v hv=>?_)
   rw [kE hk3]
   simp only [Nat.add_one_ne_zero,if_false,Nat.add_sub_cancel]
   by_cases h1:v=ks[k] + 1
   . subst h1; simp only [if_true,Nat.add_one_ne_zero,if_false,Nat.add_sub_cancel]; rw [w64 (by omega) (by omega)]; omega
   . rw [if_neg h1]
     by_cases h2:v=0
     . simp [h2]
     . simp [h2,show ¬ ks[k]=v - 1 by omega]
 . unfold ix1
   simp only [hl,Int.lt_irrefl,decide_false,cond_false,List.take_length]
theorem yP {N:Nat} (hb:ks.length≤1073741824) (hNb:N≤1073741824):loop (ix2 (N:Int)) (0,(List.range (N + 1)).map (fun v=>((if v=0 then 0 else cnt ks (v - 1):Nat):Int)))=some ((List.range (N + 1)).map (fun v=>(ltc ks v:Int))):=by
 have h:=aQ (body:=ix2 (N:Int)) (fun j:Nat=>((j:Int),(List.range (N + 1)).map (fun v=>((if v≤j then ltc ks v else cnt ks (v - 1):Nat):Int)))) N (b:=(List.range (N + 1)).map (fun v=>(ltc ks v:Int))) ?_ ?_
 . have e:(List.range (N + 1)).map (fun v=>((if v≤0 then ltc ks v else cnt ks (v - 1):Nat):Int))=(List.range (N + 1)).map (fun v=>((if v=0 then 0 else cnt ks (v - 1):Nat):Int)):=by
     refine gZ (fun v hv=>?_)
     by_cases h1:v=0
     . simp [h1,DU]
     . simp [h1]
   simp only [e] at h
   exact h
 . intro j hj
   have hs:=rO ks j
   have hle:=oE ks (j + 1)
   unfold ix2
   simp only [dlt hj,cond_true,aq hj (by omega:N≤9223372036854775807),fY (show j + 1 < N + 1 by omega),fY (show j < N + 1 by omega),Option.bind_some,Int.toNat_natCast,sm]
   congr 3
   refine gZ (fun v hv=>?_)
   simp only [show ¬ (j + 1≤j) by omega,if_false,Nat.le_refl,if_true,Nat.add_sub_cancel]
   by_cases h1:v=j + 1
   . subst h1; simp only [if_true,Nat.le_refl]; rw [w64 (by omega) (by omega)]; omega
   . rw [if_neg h1]
     by_cases h2:v≤j
     . simp [h2,show v≤j + 1 by omega]
     . simp [h2,show ¬ v≤j + 1 by omega]
 . unfold ix2
   simp only [Int.lt_irrefl,decide_false,cond_false]
   congr 2
   refine gZ (fun v hv=>?_)
   simp [show v≤N by omega]
theorem yQ {N:Nat} (hk:xb.map key=ks.map (fun k:Nat=>(k:Int))) (hN:∀ x∈ks,x < N) (hb:ks.length≤1073741824) (hNb:N≤1073741824):loop (ix3 key xb) ((List.range (N + 1)).map (fun v=>(ltc ks v:Int)),0,List.replicate xb.length 0)=some ((List.range ks.length).map (fun p=>(av ks ks.length p:Int))):=by
 have hl:xb.length=ks.length:=by simpa using congrArg List.length hk
 have h:=aQ (body:=ix3 key xb) (fun k:Nat=>((List.range (N + 1)).map (fun v=>((ltc ks v + cnt (ks.take k) v:Nat):Int)),(k:Int),(List.range ks.length).map (fun p=>(av ks k p:Int)))) xb.length (b:=(List.range ks.length).map (fun p=>(av ks ks.length p:Int))) ?_ ?_
 . rw [hl,uS]; simpa [cnt,av] using h
 . intro k hk2
   obtain ⟨hk3,hk4⟩:=yU hk hk2
   have hlt:=hN _ (List.getElem_mem hk3)
   have hp:ltc ks ks[k] + cnt (ks.take k) ks[k]=pos ks k:=by unfold pos; simp [hk3]
   have hpl:=Ca hk3
   unfold ix3
   simp only [dlt hk2,cond_true,ah hk2,Option.bind_some,hk4,fY (show ks[k] < N + 1 by omega),hp,fY hpl,Int.toNat_natCast,sm,aq hk2 (by omega:xb.length≤9223372036854775807)]
   congr 3
   . refine gZ (fun v hv=>?_)
     rw [kE hk3]
     by_cases h1:v=ks[k]
     . subst h1; simp only [if_true]; rw [w64 (by omega) (by omega)]; omega
     . rw [if_neg h1,if_neg (Ne.symm h1)]; simp
   . congr 1
     refine gZ (fun p hp2=>?_)
     rw [ES hk3]
     split <;> rfl
 . unfold ix3
   simp only [hl,Int.lt_irrefl,decide_false,cond_false]
end
abbrev Gr:=Int×(List (Int×Int))×((List Int)×(List Int))×((List Int)×(List Int))
abbrev ArG:=List (Nat×Nat)
def ai (E:ArG):List (Int×Int):=E.map (fun e=>((e.1:Int),(e.2:Int)))
def ixs (N:Nat) (ks:List Nat):List Int×List Int:=((List.range (N + 1)).map (fun v=>(ltc ks v:Int)),(List.range ks.length).map (fun p=>(av ks ks.length p:Int)))
def mkG (N:Nat) (E:ArG):Gr:=((N:Int),ai E,ixs N (E.map (·.1)),ixs N (E.map (·.2)))
def inN (N:Nat) (E:ArG):Prop:=∀ e∈E,e.1 < N∧e.2 < N
theorem eR (E:ArG):(ai E).length=E.length:=by simp [ai]
theorem kF {α:Type} (xa:List α) (hn:xa.length≤1073741824):cZ xa (some ([]:List α)) ((app ([]:List α) xa).bind fun z=>some z)=some xa:=by
 rw [sI]
 . rw [aM (by simpa using hn)]; simp
 . rintro rfl; rw [aM (by simp)]; rfl
theorem BH {N:Nat} {E:ArG} (h:inN N E) (hn:N≤1048576) (he:E.length≤67108864):lK (N:Int) (ai E)=some (ixs N (E.map (·.1))):=by
 have hk:(ai E).map (fun x:Int×Int=>x.1)=(E.map (·.1)).map (fun k:Nat=>(k:Int)):=by simp [ai]
 have hN:∀ x∈E.map (·.1),x < N:=by intro x hx; obtain ⟨e,he,rfl⟩:=List.mem_map.1 hx; exact (h e he).1
 have hw:IntKind.wrap .i64 ((N:Int) + 1)=((N + 1:Nat):Int):=by rw [w64 (by omega) (by omega)]; omega
 have h1:=yZ (key:=fun x:Int×Int=>x.1) (N:=N) hk hN (by simp; omega) (by omega)
 have h2:=yP (ks:=E.map (·.1)) (N:=N) (by simp; omega) (by omega)
 have h3:=yQ (key:=fun x:Int×Int=>x.1) (N:=N) hk hN (by simp; omega) (by omega)
 have hl:(ai E).length≤1073741824:=by rw [eR]; omega
 unfold lK
 have hm1:(mk ((N + 1:Nat):Int) ((N + 1:Nat):Int) (0:Int):Option (List Int))=some (List.replicate (N + 1) 0):=mkN (by omega)
 have hm2:(mk (((ai E).length:Nat):Int) (((ai E).length:Nat):Int) (0:Int):Option (List Int))=some (List.replicate (ai E).length 0):=mkN hl
 rw [hw]
 simp only [hm1,hm2,Option.bind_some,nG]
 show (loop (ix1 (fun x:Int×Int=>x.1) (ai E)) (0,_)).bind _=_
 rw [h1,Option.bind_some]
 show (loop (ix2 (N:Int)) (0,_)).bind _=_
 rw [h2,Option.bind_some]
 have hc:∀ l:List Int,l.length≤1073741824→bQ l=some l:=fun l hl=>kF l hl
 rw [hc _ (by simp; omega),Option.bind_some]
 show (loop (ix3 (fun x:Int×Int=>x.1) (ai E)) (_,0,_)).bind _=_
 rw [h3]; rfl
theorem BE {N:Nat} {E:ArG} (h:inN N E) (hn:N≤1048576) (he:E.length≤67108864):lL (N:Int) (ai E)=some (ixs N (E.map (·.2))):=by
 have hk:(ai E).map (fun x:Int×Int=>x.2)=(E.map (·.2)).map (fun k:Nat=>(k:Int)):=by simp [ai]
 have hN:∀ x∈E.map (·.2),x < N:=by intro x hx; obtain ⟨e,he,rfl⟩:=List.mem_map.1 hx; exact (h e he).2
 have hw:IntKind.wrap .i64 ((N:Int) + 1)=((N + 1:Nat):Int):=by rw [w64 (by omega) (by omega)]; omega
 have h1:=yZ (key:=fun x:Int×Int=>x.2) (N:=N) hk hN (by simp; omega) (by omega)
 have h2:=yP (ks:=E.map (·.2)) (N:=N) (by simp; omega) (by omega)
 have h3:=yQ (key:=fun x:Int×Int=>x.2) (N:=N) hk hN (by simp; omega) (by omega)
 have hl:(ai E).length≤1073741824:=by rw [eR]; omega
 unfold lL
 have hm1:(mk ((N + 1:Nat):Int) ((N + 1:Nat):Int) (0:Int):Option (List Int))=some (List.replicate (N + 1) 0):=mkN (by omega)
 have hm2:(mk (((ai E).length:Nat):Int) (((ai E).length:Nat):Int) (0:Int):Option (List Int))=some (List.replicate (ai E).length 0):=mkN hl
 rw [hw]
 simp only [hm1,hm2,Option.bind_some,nG]
 show (loop (ix1 (fun x:Int×Int=>x.2) (ai E)) (0,_)).bind _=_
 rw [h1,Option.bind_some]
 show (loop (ix2 (N:Int)) (0,_)).bind _=_
 rw [h2,Option.bind_some]
 have hc:∀ l:List Int,l.length≤1073741824→bQ l=some l:=fun l hl=>kF l hl
 rw [hc _ (by simp; omega),Option.bind_some]
 show (loop (ix3 (fun x:Int×Int=>x.2) (ai E)) (_,0,_)).bind _=_
 rw [h3]; rfl
def jp (n:Int) (a:Int×Int):Bool:=(((decide (a.1 < 0))||(decide (n≤a.1)))||(decide (a.2 < 0)))||(decide (n≤a.2))
theorem ER (n:Int) (xb:List (Int×Int)) (hb:xb.length≤1073741824):loop (mM n xb) 0=some (if xb.any (jp n) then .inr (none,7) else .inl ()):=by
 refine fS xb (jp n) _ _ (fun k h=>?_) ?_
 . unfold mM
   simp only [dlt h,cond_true,ah h,Option.bind_some,aq h (by omega:xb.length≤9223372036854775807)]
   show cond (jp n xb[k]) _ _=_
   cases jp n xb[k] <;> rfl
 . simp [mM]
theorem Gl {N:Nat} {E:ArG} (h:inN N E) (hn:N≤1048576) (he:E.length≤67108864):kp (N:Int) (ai E)=some (some (mkG N E),0):=by
 unfold kp
 have h1:decide ((N:Int) < 0)=false:=decide_eq_false (by omega)
 have h2:(decide ((1048576:Int) < (N:Int))||decide ((67108864:Int) < (((ai E).length:Nat):Int)))=false:=by rw [eR]; simp; omega
 have h3:(ai E).any (jp (N:Int))=false:=by
   rw [List.any_eq_false]
   intro a ha
   obtain ⟨e,he,rfl⟩:=List.mem_map.1 ha
   have:=h e he
   simp [jp]; omega
 rw [h1,cond_false,h2,cond_false,ER _ _ (by rw [eR]; omega),h3]
 simp only [Bool.false_eq_true,if_false,Option.bind_some]
 have hc:pR (ai E)=some (ai E):=kF _ (by rw [eR]; omega)
 rw [hc,Option.bind_some,BH h hn he,Option.bind_some,BE h hn he]
 rfl
theorem rh (ks:List Nat) (v:Nat):(occ ks v).length≤ks.length:=by rw [yn]; exact yK ks v
theorem Bz {N:Nat} {ks:List Nat} (hn:N≤1048576) (he:ks.length≤67108864) {v:Nat} (hv:v < N):mB (ixs N ks) (v:Int)=some ((occ ks v).map (fun i:Nat=>(i:Int))):=by
 unfold mB ixs
 have h1:=oE ks (v + 1)
 have h2:=rS ks (v:=v) (w:=v + 1) (by omega)
 simp only [fY (show v < N + 1 by omega),Option.bind_some,aq hv (by omega:N≤9223372036854775807),fY (show v + 1 < N + 1 by omega)]
 rw [kN (by omega) (by omega) (by simp; omega)]
 simp only [Int.toNat_natCast,Option.bind_some,F3]
theorem Dz (N:Nat) (E:ArG):qb (some (mkG N E))=some (N:Int):=rfl
theorem E8 (N:Nat) (E:ArG):qd (some (mkG N E))=some (E.length:Int):=by
 show some ((((ai E).length:Nat):Int))=_
 rw [eR]
theorem Db (N:Nat) (E:ArG) (v:Int):jG (some (mkG N E)) v=some (decide (0≤v)&&decide (v < (N:Int))):=by
 unfold jG
 rw [Dz]
 cases decide (0≤v) <;> simp
theorem Cj {N:Nat} {E:ArG} {v:Nat} (h:v < N):jG (some (mkG N E)) (v:Int)=some true:=by
 rw [Db]; simp [h]
theorem GS {N:Nat} {E:ArG} (hn:N≤1048576) (he:E.length≤67108864) {v:Nat} (h:v < N):mz (some (mkG N E)) (v:Int)=some ((occ (E.map (·.2)) v).map (fun i:Nat=>(i:Int))):=by
 unfold mz
 rw [Cj h]
 have:=Bz (ks:=E.map (·.2)) hn (by simp; omega) h
 have hb:=rh (E.map (·.2)) v
 simp only [Bool.not_true,cond_false,Option.bind_some,mkG]
 rw [this,Option.bind_some]
 have hc:∀ l:List Int,l.length≤1073741824→bQ l=some l:=fun l hl=>kF l hl
 rw [hc _ (by simp at hb ⊢; omega)]; rfl
def nxt (E:ArG) (v:Nat):List Nat:=(occ (E.map (·.1)) v).map (fun i=>(E.getD i (0,0)).2)
theorem FJ {E:ArG} {v i:Nat} (h:i∈occ (E.map (·.1)) v):∃ h:i < E.length,E[i].1=v:=by
 obtain ⟨h1,h2⟩:=sn.1 h
 exact ⟨by simpa using h1,by simpa using h2⟩
theorem iN {E:ArG} {v u:Nat}:u∈nxt E v↔(v,u)∈E:=by
 unfold nxt
 constructor
 . intro h
   obtain ⟨i,hi,rfl⟩:=List.mem_map.1 h
   obtain ⟨h1,h2⟩:=FJ hi
   have:E.getD i (0,0)=E[i]:=by simp [h1]
   rw [this]
   have e:(v,E[i].2)=E[i]:=by rw [← h2]
   rw [e]; exact List.getElem_mem h1
 . intro h
   obtain ⟨i,hi,he⟩:=List.getElem_of_mem h
   refine List.mem_map.2 ⟨i,sn.2 ⟨by simpa using hi,by simp [he]⟩,by simp [hi,he]⟩
def tn (E:ArG):ArG:=E.map (fun e=>(e.2,e.1))
theorem Gk (E:ArG):(tn E).length=E.length:=by simp [tn]
theorem zh {E:ArG} {a b:Nat}:(a,b)∈tn E↔(b,a)∈E:=by
 unfold tn
 constructor
 . intro h; obtain ⟨e,he,h2⟩:=List.mem_map.1 h; cases h2; exact he
 . intro h; exact List.mem_map.2 ⟨_,h,rfl⟩
inductive Rch (E:ArG):Nat→Nat→Prop
 | refl (v:Nat):Rch E v v
 | step {v w u:Nat} (h:Rch E v w) (e:(w,u)∈E):Rch E v u
theorem Rch.trans {E:ArG} {a b c:Nat} (h:Rch E a b) (k:Rch E b c):Rch E a c:=by
 induction k with
 | refl=>exact h
 | step _ e ih=>exact ih.step e
theorem Rch.mono {E F:ArG} (hf:∀ e∈E,e∈F) {a b:Nat} (h:Rch E a b):Rch F a b:=by
 induction h with
 | refl=>exact .refl _
 | step _ e ih=>exact ih.step (hf _ e)
theorem Rch.lt {N:Nat} {E:ArG} (hE:inN N E) {a b:Nat} (h:Rch E a b) (ha:a < N):b < N:=by
 cases h with
 | refl=>exact ha
 | step _ e=>exact (hE _ e).2
theorem Ek {A:List Nat}:∀ {L:List Nat},L.Nodup→(∀ x∈L,x∈A)→L.length≤A.length:=by
 intro L
 induction L generalizing A with
 | nil=>intro _ _; simp
 | cons x L ih =>
   intro hd hs
   have hx:=hs x (by simp)
   rw [List.nodup_cons] at hd
   have:=ih (A:=A.erase x) hd.2 (fun y hy=>by
     have hne:y≠x:=fun e=>hd.1 (e ▸ hy)
     exact (List.mem_erase_of_ne hne).2 (hs y (by simp [hy])))
   rw [List.length_erase_of_mem hx] at this
   have:0 < A.length:=List.length_pos_of_mem hx
   simp; omega
theorem sd {L:List Nat} {N:Nat} (hd:L.Nodup) (h:∀ x∈L,x < N):L.length≤N:=by
 have:=Ek (A:=List.range N) hd (fun x hx=>List.mem_range.2 (h x hx))
 simpa using this
def li (L:List Nat):List Int:=L.map (fun i:Nat=>(i:Int))
theorem bT (L:List Nat):(li L).length=L.length:=by simp [li]
theorem iF {L:List Nat} {k:Nat} (h:k < L.length):aa (li L) (k:Int)=some ((L[k]:Nat):Int):=by rw [ah (by rw [bT]; exact h)]; simp [li]
theorem Fq {E:ArG} {k:Nat} (h:k < E.length):aa (ai E) (k:Int)=some (((E[k].1:Nat):Int),((E[k].2:Nat):Int)):=by rw [ah (by rw [eR]; exact h)]; simp [ai]
open Classical in
def rl (N:Nat) (E:ArG) (v:Nat):List Nat:=(List.range N).filter (fun w=>decide (Rch E v w))
theorem Bv (N:Nat) (p:Nat→Bool):(li ((List.range N).filter p)).Pairwise (· < ·):=by
 unfold li
 rw [List.pairwise_map]
 refine List.Pairwise.imp (R:=fun a b:Nat=>a < b) (fun h=>by omega) ?_
 exact List.pairwise_lt_range.filter p
end
theorem wa (xa xb:List Int) (hn:xa.length≤1073741824):kl xa xb=some (decide (xa=xb)):=by
 unfold kl
 by_cases hl:xa.length=xb.length
 . rw [uC hl,cond_false,vm (body:=mC xa xb) xa xb (.inr false) (.inl ()) hl ?_ ?_]
   . by_cases h:xa=xb <;> simp [h]
   . intro k h; unfold mC
     have h2:k < xb.length:=by omega
     by_cases q:xa[k]=xb[k] <;> simp [ah h,ah h2,h,q,aq h (by omega)]
   . simp [mC]
 . rw [oU hl,cond_true]
   have:¬ xa=xb:=fun h=>hl (by rw [h])
   simp [this]
theorem Gf {N:Nat} {E:ArG} {i:Int}:jO (some (mkG N E)) i=some (if h:0≤i∧i < (E.length:Int) then (((E[i.toNat]'(by omega)).1:Int),((E[i.toNat]'(by omega)).2:Int),true) else (0,0,false)):=by
 unfold jO
 rw [E8]
 by_cases h0:i < 0
 . simp [h0,show ¬ (0≤i∧i < (E.length:Int)) by omega]
 . by_cases h1:(E.length:Int)≤i
   . simp [h0,h1,show ¬ (0≤i∧i < (E.length:Int)) by omega]
   . have h2:0≤i∧i < (E.length:Int):=by omega
     obtain ⟨k,rfl⟩:=Int.eq_ofNat_of_zero_le h2.1
     have hk:k < E.length:=by omega
     simp only [h0,h1,decide_false,cond_false,Option.bind_some,mkG,Fq hk]
     simp [hk]
inductive Thr (E:ArG):List Nat→List Nat→List Nat→List Nat→List Nat→Prop
 | nil {o m:List Nat}:Thr E o m [] o m
 | skip {o m r o' m':List Nat} {u:Nat}:u∈m→Thr E o m r o' m'→Thr E o m (u :: r) o' m'
 | step {o m r o1 m1 o' m':List Nat} {u:Nat}:u∉m→Thr E o (m++[u]) (nxt E u) o1 m1→Thr E (o1++[u]) m1 r o' m'→Thr E o m (u :: r) o' m'
theorem Thr.grow {E:ArG} {o m r o' m':List Nat} (h:Thr E o m r o' m'):∃ D O,m'=m++D∧o'=o++O∧O.Perm D∧(∀ x∈r,x∈m'):=by
 induction h with
 | nil=>exact ⟨[],[],by simp,by simp,.refl _,by simp⟩
 | skip hu h ih =>
   obtain ⟨D,O,rfl,rfl,hp,hr⟩:=ih
   exact ⟨D,O,rfl,rfl,hp,fun x hx=>by
     rcases List.mem_cons.1 hx with rfl | hx
     . exact List.mem_append_left _ hu
     . exact hr x hx⟩
 | step hu h1 h2 ih1 ih2 =>
   obtain ⟨D1,O1,rfl,rfl,hp1,hr1⟩:=ih1
   obtain ⟨D2,O2,rfl,rfl,hp2,hr2⟩:=ih2
   rename_i o m r u
   refine ⟨u :: D1++D2,O1++[u]++O2,by simp,by simp,?_,fun x hx=>?_⟩
   . refine List.Perm.append ?_ hp2
     refine (List.perm_append_comm (l₁:=O1) (l₂:=[u])).trans ?_
     exact hp1.cons u
   . rcases List.mem_cons.1 hx with rfl | hx
     . simp
     . exact hr2 x hx
theorem Thr.inv {E:ArG} {N:Nat} (hE:inN N E) {o m r o' m':List Nat} (h:Thr E o m r o' m'):m.Nodup→(∀ x∈m,x < N)→(∀ x∈r,x < N)→m'.Nodup∧∀ x∈m',x < N:=by
 induction h with
 | nil=>exact fun a b _=>⟨a,b⟩
 | skip hu h ih=>exact fun a b c=>ih a b (fun x hx=>c x (List.mem_cons_of_mem _ hx))
 | step hu h1 h2 ih1 ih2 =>
   intro a b c
   rename_i o m r o1 m1 o' m' u
   have hun:u < N:=c u (List.mem_cons_self ..)
   have hd:(m++[u]).Nodup:=by
     rw [List.nodup_append]; refine ⟨a,by simp,?_⟩
     intro x hx y hy; simp at hy; subst hy; intro e; subst e; exact hu hx
   have hl:∀ x∈m++[u],x < N:=fun x hx=>by
     rcases List.mem_append.1 hx with q | q
     . exact b x q
     . simp at q; omega
   obtain ⟨a1,b1⟩:=ih1 hd hl (fun x hx=>(hE _ (iN.1 hx)).2)
   exact ih2 a1 b1 (fun x hx=>c x (List.mem_cons_of_mem _ hx))
theorem Thr.ex {E:ArG} {N:Nat} (hE:inN N E):∀ (k:Nat) (r o m:List Nat),N - m.length≤k→m.Nodup→(∀ x∈m,x < N)→(∀ x∈r,x < N)→∃ o' m',Thr E o m r o' m':=by
 intro k
 induction k with
 | zero =>
   intro r
   induction r with
   | nil=>intro o m _ _ _ _; exact ⟨o,m,.nil⟩
   | cons u r ih =>
     intro o m hk hd hl hr
     by_cases hu:u∈m
     . obtain ⟨o',m',h⟩:=ih o m hk hd hl (fun x hx=>hr x (List.mem_cons_of_mem _ hx))
       exact ⟨o',m',.skip hu h⟩
     . exfalso
       have hd1:(m++[u]).Nodup:=by
         rw [List.nodup_append]; refine ⟨hd,by simp,?_⟩
         intro x hx y hy; simp at hy; subst hy; intro e; subst e; exact hu hx
       have:=sd (N:=N) hd1 (fun x hx=>by
         rcases List.mem_append.1 hx with q | q
         . exact hl x q
         . simp at q; subst q; exact hr _ (List.mem_cons_self ..))
       simp at this; omega
 | succ k ihk =>
   intro r
   induction r with
   | nil=>intro o m _ _ _ _; exact ⟨o,m,.nil⟩
   | cons u r ih =>
     intro o m hk hd hl hr
     by_cases hu:u∈m
     . obtain ⟨o',m',h⟩:=ih o m hk hd hl (fun x hx=>hr x (List.mem_cons_of_mem _ hx))
       exact ⟨o',m',.skip hu h⟩
     . have hd1:(m++[u]).Nodup:=by
         rw [List.nodup_append]; refine ⟨hd,by simp,?_⟩
         intro x hx y hy; simp at hy; subst hy; intro e; subst e; exact hu hx
       have hl1:∀ x∈m++[u],x < N:=fun x hx=>by
         rcases List.mem_append.1 hx with q | q
         . exact hl x q
         . simp at q; subst q; exact hr _ (List.mem_cons_self ..)
       have hn1:∀ x∈nxt E u,x < N:=fun x hx=>(hE _ (iN.1 hx)).2
       obtain ⟨o1,m1,h1⟩:=ihk (nxt E u) o (m++[u]) (by simp; omega) hd1 hl1 hn1
       obtain ⟨D,O,rfl,rfl,_,_⟩:=h1.grow
       obtain ⟨a1,b1⟩:=h1.inv hE hd1 hl1 hn1
       obtain ⟨o',m',h2⟩:=ihk r ((o++O)++[u]) (m++[u]++D) (by simp; omega) a1 b1 (fun x hx=>hr x (List.mem_cons_of_mem _ hx))
       exact ⟨o',m',.step hu h1 h2⟩
def OkO (E:ArG) (o:List Nat):Prop:=∀ A x B,o=A++x :: B→∀ y,(x,y)∈E→y∈A∨Rch E y x
theorem OkO.snoc {E:ArG} {o:List Nat} {u:Nat} (h:OkO E o) (hu:∀ y,(u,y)∈E→y∈o∨Rch E y u):OkO E (o++[u]):=by
 intro A x B e y hy
 rcases List.eq_nil_or_concat B with rfl | ⟨B',z,rfl⟩
 . obtain ⟨e1,e2⟩:=List.append_inj' e rfl
   simp at e2; subst e1; subst e2; exact hu y hy
 . have e':o++[u]=(A++x :: B')++[z]:=by rw [e]; simp
   obtain ⟨e1,e2⟩:=List.append_inj' e' rfl
   exact h A x B' e1 y hy
theorem Thr.ok {E:ArG} {o m r o' m':List Nat} (h:Thr E o m r o' m'):(∀ g∈m,g∉o→∀ x∈r,Rch E g x)→OkO E o→OkO E o'∧∀ g∈m',g∉o'→g∈m∧g∉o:=by
 induction h with
 | nil=>exact fun _ h=>⟨h,fun g a b=>⟨a,b⟩⟩
 | skip hu h ih=>exact fun a b=>ih (fun g hg ho x hx=>a g hg ho x (List.mem_cons_of_mem _ hx)) b
 | step hu h1 h2 ih1 ih2 =>
   intro a b
   rename_i o m r o1 m1 o' m' u
   obtain ⟨k1,g1⟩:=ih1 (fun g hg ho x hx=>by
     have hux:(u,x)∈E:=iN.1 hx
     rcases List.mem_append.1 hg with q | q
     . exact (a g q ho u (List.mem_cons_self ..)).step hux
     . simp at q; subst q; exact (Rch.refl _).step hux) b
   obtain ⟨_,_,_,_,_,hall⟩:=h1.grow
   have k2:OkO E (o1++[u]):=k1.snoc (fun y hy=>by
     by_cases q:y∈o1
     . exact .inl q
     . refine .inr ?_
       obtain ⟨c1,c2⟩:=g1 y (hall y (iN.2 hy)) q
       rcases List.mem_append.1 c1 with q2 | q2
       . exact a y q2 c2 u (List.mem_cons_self ..)
       . simp at q2; subst q2; exact .refl _)
   have g2:∀ g∈m1,g∉o1++[u]→g∈m∧g∉o:=fun g hg ho=>by
     have n1:g∉o1:=fun q=>ho (List.mem_append_left _ q)
     have n2:g≠u:=fun q=>ho (by simp [q])
     obtain ⟨c1,c2⟩:=g1 g hg n1
     rcases List.mem_append.1 c1 with q | q
     . exact ⟨q,c2⟩
     . simp at q; exact absurd q n2
   obtain ⟨k3,g3⟩:=ih2 (fun g hg ho x hx=>by
     obtain ⟨c1,c2⟩:=g2 g hg ho
     exact a g c1 c2 x (List.mem_cons_of_mem _ hx)) k2
   exact ⟨k3,fun g hg ho=>by obtain ⟨c1,c2⟩:=g3 g hg ho; exact g2 g c1 c2⟩
theorem Thr.all {E:ArG} {N:Nat} (hE:inN N E):∃ o m,Thr E [] [] (List.range N) o m∧o.Perm (List.range N)∧OkO E o:=by
 obtain ⟨o,m,h⟩:=Thr.ex hE N (List.range N) [] [] (by simp) (by simp) (by simp) (fun x hx=>List.mem_range.1 hx)
 obtain ⟨D,O,e1,e2,hp,hr⟩:=h.grow
 simp only [List.nil_append] at e1 e2; subst e1; subst e2
 obtain ⟨hd,hl⟩:=h.inv hE (by simp) (by simp) (fun x hx=>List.mem_range.1 hx)
 refine ⟨o,m,h,hp.trans ?_,(h.ok (by simp) (fun A x B e=>by simp at e)).1⟩
 refine (List.perm_ext_iff_of_nodup hd List.nodup_range).2 (fun x=>⟨fun hx=>List.mem_range.2 (hl x hx),fun hx=>hr x hx⟩)
set_option maxRecDepth 20000
section
abbrev Pts:=Option (List Int×Int)
abbrev flG (P:Pts) (N:Nat) (E:ArG):Option (Pts×Option Gr):=some (P,some (mkG N E))
section
variable {P:Pts} {N:Nat} {E:ArG}
end
end
abbrev lw:Blk:=([],0,0,0,[],[],[])
def gs (X:List Blk) (j k m:Nat):Bool:=if k=(X.getD j lw).1.length then (X.getD j lw).2.2.2.2.1.any (fun t=>decide (bg X t.toNat=m)) else decide (m=bg X j + k + 1)
def nxp (X:List Blk) (n:Nat):List Nat:=(List.range (bg X X.length)).filter (gs X ((tZ X).getD n (0,0,false)).1.toNat ((tZ X).getD n (0,0,false)).2.1.toNat)
def bz (X:List Blk):Nat→ArG
 | 0=>[]
 | n + 1=>bz X n++(nxp X n).map (fun m=>(n,m))
theorem sS {X:List Blk} {j k:Nat} (hj:j < X.length) (hk:k≤X[j].1.length):nxp X (bg X j + k)=(List.range (bg X X.length)).filter (gs X j k):=by
 have h:=DA X hj hk
 unfold nxp
 rw [List.getD_eq_getElem?_getD,h]; rfl
theorem GR {X:List Blk} {n m:Nat} (h:m∈nxp X n):m < bg X X.length:=by
 unfold nxp at h; exact List.mem_range.1 (List.mem_filter.1 h).1
theorem Fv (X:List Blk) (n:Nat):(nxp X n).length≤bg X X.length:=by
 unfold nxp; exact Nat.le_trans (List.length_filter_le _ _) (by simp)
theorem xr (X:List Blk):∀ n,(bz X n).length≤n * bg X X.length
 | 0=>by simp [bz]
 | n + 1=>by
   have:=xr X n
   have:=Fv X n
   simp only [bz,List.length_append,List.length_map,Nat.succ_mul]; omega
theorem n4 (X:List Blk):∀ n,n≤bg X X.length→inN (bg X X.length) (bz X n)
 | 0,_=>by intro e he; simp [bz] at he
 | n + 1,hn=>by
   intro e he
   simp only [bz,List.mem_append,List.mem_map] at he
   rcases he with q | ⟨m,hm,rfl⟩
   . exact n4 X n (by omega) e q
   . exact ⟨by show n < _; omega,GR hm⟩
theorem vB:∀ (N p:Nat),p < N→(List.range N).filter (fun m=>decide (m=p))=[p]
 | 0,p,h=>by omega
 | N + 1,p,h=>by
   rw [List.range_succ,List.filter_append]
   by_cases q:p=N
   . subst q
     have:(List.range p).filter (fun m=>decide (m=p))=[]:=by
       rw [List.filter_eq_nil_iff]; intro x hx; have:=List.mem_range.1 hx; simp; omega
     rw [this]; simp
   . rw [vB N p (by omega)]
     have:¬ N=p:=fun e=>q e.symm
     simp [this]
structure Tos (X:List Blk):Prop where
 few:X.length≤8
 pts:bg X X.length≤32
 len:∀ x∈X,x.2.2.2.2.1.length≤20
 good:∀ x∈X,∀ t∈x.2.2.2.2.1,0≤t∧t < (X.length:Int)
theorem iw {a b:Flt} (h:(or0 a b).1=0):a.1=0∧b.1=0:=by
 unfold or0 at h; split at h
 . rename_i q; exact ⟨q,h⟩
 . rename_i q; exact absurd h q
theorem Dp {b:Bo} (h:(vck b).1=0):(b8 b).1=0:=by
 unfold vck at h
 obtain ⟨_,h⟩:=iw h
 obtain ⟨_,h⟩:=iw h
 obtain ⟨_,h⟩:=iw h
 obtain ⟨_,h⟩:=iw h
 obtain ⟨_,h⟩:=iw h
 exact (iw h).2
theorem DC {b:Bo} (h:(vck b).1=0):∀ x∈b.2.2.2.2.2.2,tE (bc b) x.2=0:=by
 have hc:=Dp h
 unfold b8 at hc
 cases hq:b.2.2.2.2.2.2.findIdx? (fun x=>(bG b x).isSome) with
 | none =>
   intro x hx
   have:=List.findIdx?_eq_none_iff.1 hq x hx
   unfold bG at this
   split at this
   . simp at this
   . by_cases q:tE (bc b) x.2=0
     . exact q
     . rw [if_neg q] at this; simp at this
 | some k =>
   exfalso
   rw [hq] at hc
   obtain ⟨hk,hcc,_⟩:=List.findIdx?_eq_some_iff_getElem.1 hq
   have e:b.2.2.2.2.2.2.getD k ([],0,0,0,[],[],[])=b.2.2.2.2.2.2[k]:=by simp [List.getD,hk]
   simp only [e] at hc
   unfold bG at hcc hc
   split at hcc
   . rename_i j hj
     rw [hj] at hc
     obtain ⟨hj1,hj2,_⟩:=List.findIdx?_eq_some_iff_getElem.1 hj
     have e2:b.2.2.2.2.2.2[k].1.getD j (0,0,0,0,false)=b.2.2.2.2.2.2[k].1[j]:=by simp [List.getD,hj1]
     simp only [e2,dW] at hc
     simp [hc] at hj2
   . rename_i hj
     rw [hj] at hc
     by_cases q:tE (bc b) b.2.2.2.2.2.2[k].2=0
     . rw [if_pos q] at hcc; simp at hcc
     . rw [if_neg q] at hc; simp only [dW] at hc; exact q hc
theorem Hh {a:Ar} {x:Tm} (h:tE a x=0) (hl:x.2.2.2.1.length≤20) (hl2:x.2.2.2.2.1.length≤20) (hl3:x.2.2.2.2.2.length≤20):bad a.1 x.2.2.2.1=false:=by
 cases q:bad a.1 x.2.2.2.1 with
 | false=>rfl
 | true =>
   exfalso
   unfold tE ek at h
   rw [show fJ (x.1,x.2.1,x.2.2.1,x.2.2.2.1,x.2.2.2.2.1,x.2.2.2.2.2)=_ from m9 x] at h
   simp only [Option.bind_some] at h
   by_cases q2:cA x=0
   . rw [decide_eq_true q2,Bool.not_true,cond_false,cO _ _ (by omega),q] at h
     simp at h
   . rw [decide_eq_false q2,Bool.not_false,cond_true] at h
     exact q2 h
theorem tC {b:Bo} {j:Nat} (hj:j < (xs b).length):(vck b).1=0∧xs b=b.2.2.2.2.2.2:=by
 by_cases q:(vck b).1=0
 . exact ⟨q,by unfold xs; rw [if_pos q]⟩
 . unfold xs at hj; rw [if_neg q] at hj; simp at hj
theorem yB {b:Bo} (h:Sm b):Tos (xs b):=by
 obtain ⟨h1,h2⟩:=kJ h (Nat.le_refl _)
 refine ⟨h2,h1,fun x hx=>?_,fun x hx t ht=>?_⟩
 . obtain ⟨j,hj,rfl⟩:=List.getElem_of_mem hx
   obtain ⟨_,e⟩:=tC hj
   exact (h.term _ (by rw [← e]; exact List.getElem_mem hj)).1
 . obtain ⟨j,hj,rfl⟩:=List.getElem_of_mem hx
   obtain ⟨hv,e⟩:=tC hj
   have hm:(xs b)[j]∈b.2.2.2.2.2.2:=by rw [← e]; exact List.getElem_mem hj
   obtain ⟨a1,a2,a3⟩:=h.term _ hm
   have hb:=Hh (DC hv _ hm) a1 a2 a3
   unfold bad at hb
   rw [List.any_eq_false] at hb
   have:=hb t ht
   rw [e]
   unfold bc at this
   simp at this
   omega
theorem sA {X:List Blk} {j:Nat} (hj:j < X.length):X.getD j lw=X[j]:=by simp [List.getD,hj]
theorem Eh {X:List Blk} (hT:Tos X) {j:Nat} (hj:j < X.length):ki X[j].2 (bgs X)=some (li ((List.range (bg X X.length)).filter (gs X j X[j].1.length))):=by
 have hm:X[j]∈X:=List.getElem_mem hj
 have hlen:=hT.len _ hm
 have hg:=hT.good _ hm
 have hfew:=hT.few
 have hlp:=vF (body:=mG X[j].2 (bgs X)) X[j].2.2.2.2.1 (fun k=>(X[j].2.2.2.2.1.take k).map (fun t:Int=>((bg X t.toNat:Nat):Int))) (X[j].2.2.2.2.1.map (fun t:Int=>((bg X t.toNat:Nat):Int))) ?_ ?_
 . unfold ki
   simp only [List.take_zero,List.map_nil] at hlp
   rw [hlp,Option.bind_some]
   unfold srt
   rw [if_pos (by simp; omega)]
   simp only [Option.bind_some]
   unfold fh
   simp only [Option.bind_some]
   congr 1
   have hs:=List.pairwise_mergeSort (le:=fun x y:Int=>decide (x≤y)) (fun a b c h1 h2=>by simp at *; omega) (fun a b=>by simp; omega) (X[j].2.2.2.2.1.map (fun t:Int=>((bg X t.toNat:Nat):Int)))
   obtain ⟨c1,c2⟩:=mW (hs.imp (fun h=>by simpa using h))
   refine fN c1 (Bv _ _) (fun a=>?_)
   rw [c2,List.mem_mergeSort]
   unfold li
   simp only [List.mem_map,List.mem_filter,List.mem_range]
   constructor
   . rintro ⟨t,ht,rfl⟩
     obtain ⟨t0,t1⟩:=hg t ht
     refine ⟨bg X t.toNat,⟨HL X (by omega) (Nat.le_refl _),?_⟩,rfl⟩
     unfold gs
     rw [sA hj,if_pos rfl]
     exact List.any_eq_true.2 ⟨t,ht,by simp⟩
   . rintro ⟨m,⟨_,hg2⟩,rfl⟩
     unfold gs at hg2
     rw [sA hj,if_pos rfl] at hg2
     obtain ⟨t,ht,e⟩:=List.any_eq_true.1 hg2
     exact ⟨t,ht,by simp at e; rw [e]⟩
 . intro k hk
   obtain ⟨t0,t1⟩:=hg _ (List.getElem_mem hk)
   have e:aa (bgs X) X[j].2.2.2.2.1[k]=some ((bg X (X[j].2.2.2.2.1[k]).toNat:Nat):Int):=by
     have:=nW X (k:=(X[j].2.2.2.2.1[k]).toNat) (by omega)
     rwa [Int.toNat_of_nonneg t0] at this
   unfold mG
   simp only [dlt hk,cond_true,ah hk,Option.bind_some,e]
   rw [aM (by simp; omega),Option.bind_some,aq hk (by omega),aO hk,List.map_append]; rfl
 . unfold mG
   simp only [dge (show ¬ X[j].2.2.2.2.1.length < X[j].2.2.2.2.1.length by omega),cond_false,List.take_length]
abbrev jc (X:List Blk):Pts:=some (bgs X,((bg X X.length:Nat):Int))
abbrev c9 (X:List Blk):ArG:=bz X (bg X X.length)
theorem qX {X:List Blk} (hT:Tos X) {n:Nat} (hn:n≤bg X X.length):(bz X n).length≤1024:=by
 have h1:=xr X n
 have h2:=hT.pts
 have:n * bg X X.length≤32 * 32:=Nat.mul_le_mul (by omega) h2
 omega
theorem EX (E:ArG) (n:Nat) (H:List Nat):ai (E++H.map (fun m=>(n,m)))=ai E++(li H).map (fun x=>((n:Int),x)):=by
 simp [ai,li,Function.comp_def]
theorem E0 {X:List Blk} {j k:Nat} (hj:j < X.length) (hk:k≤X[j].1.length):bz X (bg X j + k + 1)=bz X (bg X j + k)++((List.range (bg X X.length)).filter (gs X j k)).map (fun m=>(bg X j + k,m)):=by
 simp only [bz,sS hj hk]
theorem GO {X:List Blk} {j k:Nat} (hj:j < X.length) (hk:k < X[j].1.length):(List.range (bg X X.length)).filter (gs X j k)=[bg X j + k + 1]:=by
 have h1:=cv hj
 have h2:=dS X (i:=j + 1) (j:=X.length) hj (Nat.le_refl _)
 have:gs X j k=fun m=>decide (m=bg X j + k + 1):=by
   funext m; unfold gs; rw [sA hj,if_neg (by omega)]
 rw [this,vB _ _ (by omega)]
theorem Cr {n:Nat} {H:List Nat} {E:ArG} (hl:E.length + H.length≤1000000):loop (mZ (n:Int) (li H)) (ai E,0)=some (ai (E++H.map (fun m=>(n,m)))):=by
 have:=rJ (li H) (fun x:Int=>((n:Int),x)) (ai E) (by rw [eR,bT]; omega) (body:=mZ (n:Int) (li H)) (fun c i=>by
   unfold mZ
   cases hg:aa (li H) i with
   | none=>simp [hg]
   | some x=>simp [hg])
 rw [this,EX]
theorem Cu {X:List Blk} (h:X.length≤1000):lU (jc X)=some (bgs X):=by
 have hc:∀ l:List Int,l.length≤1073741824→bQ l=some l:=fun l hl=>kF l hl
 unfold lU jc
 simp only [Option.isNone_some,cond_false,Option.bind_some]
 rw [hc _ (by rw [n7]; omega)]; rfl
theorem Ce {b:Bo} (h:Sm b):kw b=some (flG (jc (xs b)) (bg (xs b) (xs b).length) (c9 (xs b))):=by
 have hT:=yB h
 have h32:=hT.pts
 have h8:=hT.few
 unfold kw
 rw [show dg b=_ from qS h]
 have e1:db (jc (xs b))=some ((bg (xs b) (xs b).length:Nat):Int):=rfl
 simp only [Option.bind_some,Cu (show (xs b).length≤1000 by omega),e1]
 have hl:=aQ (body:=kg b (jc (xs b)) (bgs (xs b)) ((bg (xs b) (xs b).length:Nat):Int)) (fun n:Nat=>(ai (bz (xs b) n),(n:Int))) (bg (xs b) (xs b).length) (b:=ai (c9 (xs b))) ?_ ?_
 . rw [show loop (kg b (jc (xs b)) (bgs (xs b)) ((bg (xs b) (xs b).length:Nat):Int)) ([],0)=_ from hl]
   simp only [Option.bind_some]
   have hin:=n4 (xs b) _ (Nat.le_refl _)
   have hb:=qX hT (Nat.le_refl _)
   rw [show kp ((bg (xs b) (xs b).length:Nat):Int) (ai (c9 (xs b)))=_ from Gl (N:=bg (xs b) (xs b).length) (E:=c9 (xs b)) hin (by omega) (Nat.le_trans hb (by decide))]; rfl
 . intro n hn
   obtain ⟨j,k,hj,hk,rfl,_⟩:=oq (xs b) (xs b).length (Nat.le_refl _) n hn
   obtain ⟨hv,ex⟩:=tC hj
   have hb:=qX hT (Nat.le_of_lt hn)
   have hat:=zD (X:=xs b) (by omega) (by omega) hj hk
   have hen:=FB (X:=xs b) (by omega) (by omega) hj hk
   have hfl:((List.range (bg (xs b) (xs b).length)).filter (gs (xs b) j k)).length≤32:=Nat.le_trans (List.length_filter_le _ _) (by simp; omega)
   have hin:=Cr (n:=bg (xs b) j + k) (H:=(List.range (bg (xs b) (xs b).length)).filter (gs (xs b) j k)) (E:=bz (xs b) (bg (xs b) j + k)) (by omega)
   rw [← E0 hj hk] at hin
   unfold kg
   simp only [dlt hn,cond_true,hat,hen,Option.bind_some]
   by_cases q:k=(xs b)[j].1.length
   . have hgb:aa b.2.2.2.2.2.2 (j:Int)=some (xs b)[j]:=by rw [← ex]; exact ah hj
     have hh:=Eh hT hj
     rw [← q] at hh
     simp only [decide_eq_true q,cond_true,hgb,Option.bind_some]
     rw [show ki ((xs b)[j].2.1,(xs b)[j].2.2.1,(xs b)[j].2.2.2.1,(xs b)[j].2.2.2.2.1,(xs b)[j].2.2.2.2.2.1,(xs b)[j].2.2.2.2.2.2) (bgs (xs b))=_ from hh]
     simp only [Option.bind_some,hin,aq hn (by omega)]
   . have hkl:k < (xs b)[j].1.length:=by omega
     rw [GO hj hkl] at hin
     simp only [decide_eq_false q,cond_false,Option.bind_some,aq hn (by omega)]
     rw [show ([((bg (xs b) j + k + 1:Nat):Int)]:List Int)=li [bg (xs b) j + k + 1] from rfl,hin]; rfl
 . unfold kg
   simp only [dge (show ¬ bg (xs b) (xs b).length < bg (xs b) (xs b).length by omega),cond_false]
section
section
variable {P:Pts} {N:Nat} {E:ArG}
theorem Gx (E:ArG):(tn E).map (·.1)=E.map (·.2):=by simp [tn]
theorem CA (hn:N≤1048576) (he:E.length≤67108864) {v:Nat} (h:v < N):my (flG P N E) (v:Int)=some (li (nxt (tn E) v)):=by
 unfold my qi
 simp only [Option.isNone_some,cond_false,Option.bind_some]
 rw [GS hn he h,Option.bind_some]
 have hb:=rh (E.map (·.2)) v
 simp at hb
 generalize hO:occ (E.map (·.2)) v=O at hb ⊢
 have hO2:∀ i∈O,i < E.length:=fun i hi=>by
   rw [← hO] at hi
   obtain ⟨h1,_⟩:=sn.1 hi
   simpa using h1
 have hx:nxt (tn E) v=O.map (fun i=>(E.getD i (0,0)).1):=by
   unfold nxt; rw [Gx,hO]
   refine List.map_congr_left (fun i hi=>?_)
   have:=hO2 i hi
   simp [tn,this]
 rw [hx]
 have hl:=aQ (body:=lZ (flG P N E) (O.map (fun i:Nat=>(i:Int)))) (fun k:Nat=>((O.take k).map (fun i=>(((E.getD i (0,0)).1:Nat):Int))++(O.drop k).map (fun i:Nat=>(i:Int)),(k:Int))) O.length (b:=(O.map (fun i=>(((E.getD i (0,0)).1:Nat):Int)))) ?_ ?_
 . simp only [List.take_zero,List.map_nil,List.nil_append,List.drop_zero] at hl
   rw [show ((0:Int))=((0:Nat):Int) from rfl,hl]
   simp [li]
 . intro k hk
   have hk':k < (O.map (fun i:Nat=>(i:Int))).length:=by simpa using hk
   have hi:=hO2 _ (List.getElem_mem hk)
   have hlen:((O.take k).map (fun i=>(((E.getD i (0,0)).1:Nat):Int))).length=k:=by simp; omega
   have g1:aa ((O.take k).map (fun i=>(((E.getD i (0,0)).1:Nat):Int))++(O.drop k).map (fun i:Nat=>(i:Int))) (k:Int)=some ((O[k]:Nat):Int):=by
     rw [ah (by simp; omega),List.getElem_append_right (by omega)]
     simp only [List.getElem_map,List.getElem_drop,hlen,Nat.sub_self,Nat.add_zero]
   have g2:jO (some (mkG N E)) ((O[k]:Nat):Int)=some (((E[O[k]].1:Nat):Int),((E[O[k]].2:Nat):Int),true):=by
     rw [Gf,dif_pos ⟨by omega,by omega⟩]
     simp
   unfold lZ
   simp only [dlt hk',cond_true,g1,Option.bind_some,g2,Int.toNat_natCast,aq hk' (by simp; omega)]
   congr 3
   rw [aO hk,List.map_append,List.drop_eq_getElem_cons hk,List.map_cons,List.set_append_right _ _ (by omega),hlen,Nat.sub_self,List.set_cons_zero,List.append_assoc]
   simp [hi]
 . simp [lZ]
end
end
section
theorem pz {α:Type} {m j:Nat} {f:Nat→α} (h:j < m):aa ((List.range m).map f) (j:Int)=some (f j):=by
 rw [ah (by simpa using h)]; simp
theorem uv {α:Type} {m j:Nat} {f:Nat→α} {y:α}:((List.range m).map f).set j y=(List.range m).map (fun v=>if v=j then y else f v):=by
 apply List.ext_getElem
 . simp
 . intro i h1 h2
   simp only [List.getElem_set,List.getElem_map,List.getElem_range]
   by_cases q:j=i
   . subst q; simp
   . rw [if_neg q,if_neg (fun e=>q e.symm)]
theorem jq {α:Type} {m:Nat} {f g:Nat→α} (h:∀ v,v < m→f v=g v):(List.range m).map f=(List.range m).map g:=List.map_congr_left fun v hv=>h v (List.mem_range.1 hv)
theorem zP {α:Type} (m:Nat) (z:α):List.replicate m z=(List.range m).map (fun _=>z):=by
 apply List.ext_getElem <;> simp
theorem fW (a:Int):aE a a=some ():=by unfold aE; simp
abbrev Tc:=List Int×List Int
def gG (l:List Int):List Int:=l.mergeSort fun x y=>decide (x≤y)
theorem GP {l:List Int} (h:l.length≤1073741824):srt l=some (gG l):=by unfold srt; rw [if_pos h]; rfl
def cp (l:List Int):List Int:=Lib.compact (gG l)
theorem xS (l:List Int):(gG l).Pairwise (·≤·):=by
 have:=List.pairwise_mergeSort (le:=fun x y:Int=>decide (x≤y)) (fun a b c h1 h2=>by simp at *; omega) (fun a b=>by simp; omega) l
 exact this.imp (fun h=>by simpa using h)
theorem zz (l:List Int):(cp l).Pairwise (· < ·):=(mW (xS l)).1
theorem oo (l:List Int) (a:Int):a∈cp l↔a∈l:=by
 rw [cp,(mW (xS l)).2 a]; unfold gG; exact List.mem_mergeSort
theorem FU (l:List Int):(cp l).length≤l.length:=by
 have:=Lib.compact_length_le (gG l)
 unfold gG at this
 rw [List.length_mergeSort] at this
 exact this
theorem IJ (l:List Int):(cp l).Nodup:=(zz l).imp (fun h=>by omega)
def sT (s:Stm):Tc:=(if aZ s.1 then [s.2.2.1] else [],if aY s.1 then [s.2.1] else [])
def tT (x:Tm):Tc:=if x.1=2 then (x.2.2.2.2.1,[]) else if x.1=4 then (x.2.2.2.2.1,[x.2.2.1]) else if x.1=3 then ([0],[]) else ([],[])
def cpT (t:Tc):Tc:=(cp t.1,t.2)
def d9 (x:Blk):List Tc:=x.1.map (fun s=>cpT (sT s))++[cpT (tT x.2)]
theorem Eu (x:Blk):(d9 x).length=x.1.length + 1:=by simp [d9]
def dD (X:List Blk):Nat→List Tc
 | 0=>[]
 | i + 1=>dD X i++d9 (X.getD i ([],0,0,0,[],[],[]))
theorem nJ (X:List Blk):∀ i,i≤X.length→(dD X i).length=bg X i
 | 0,_=>by simp [dD,bg,stm]
 | i + 1,h=>by
   have ih:=nJ X i (by omega)
   rw [cv (by omega)]
   simp only [dD,List.length_append,ih,Eu,cx (show i < X.length by omega)]; omega
theorem wR (X:List Blk):∀ i,i≤X.length→∀ j k,j < i→(hj:j < X.length)→k≤X[j].1.length→(dD X i)[bg X j + k]? = (d9 X[j])[k]?
 | 0,_,j,k,h,_,_=>by omega
 | i + 1,h,j,k,hji,hj,hk=>by
   have hl:=nJ X i (by omega)
   unfold dD
   by_cases q:j=i
   . subst q
     rw [List.getElem?_append_right (by omega),hl,Nat.add_sub_cancel_left,cx hj]
   . have h1:=dS X (i:=j + 1) (j:=i) (by omega) (by omega)
     rw [cv hj] at h1
     rw [List.getElem?_append_left (by omega)]
     exact wR X i (by omega) j k (by omega) hj hk
abbrev pts (X:List Blk):List Tc:=dD X X.length
theorem nT (X:List Blk):(pts X).length=bg X X.length:=nJ X _ (Nat.le_refl _)
theorem D4 {x:Blk} {k:Nat} (h:k < x.1.length):(d9 x)[k]? = some (cpT (sT x.1[k])):=by
 unfold d9; rw [List.getElem?_append_left (by simpa using h)]; simp [h]
theorem Ev {x:Blk}:(d9 x)[x.1.length]? = some (cpT (tT x.2)):=by
 unfold d9; rw [List.getElem?_append_right (by simp)]; simp
def rdr (P:List Tc) (l:Nat):List Int:=((List.range P.length).filter (fun n=>decide ((l:Int)∈(P.getD n ([],[])).1))).map (fun n:Nat=>(n:Int))
def wtr (P:List Tc) (l:Nat):List Int:=((List.range P.length).filter (fun n=>decide ((l:Int)∈(P.getD n ([],[])).2))).map (fun n:Nat=>(n:Int))
def lcs (N:Nat) (P:List Tc):List Tc:=(List.range N).map fun l=>(rdr P l,wtr P l)
theorem wn (P:List Tc) (t:Tc) (p:Tc→Bool):((List.range (P++[t]).length).filter (fun n=>p ((P++[t]).getD n ([],[])))).map (fun n:Nat=>(n:Int)) =
   ((List.range P.length).filter (fun n=>p (P.getD n ([],[])))).map (fun n:Nat=>(n:Int))++if p t then [(P.length:Int)] else []:=by
 rw [List.length_append,List.length_singleton,List.range_succ,List.filter_append,List.map_append]
 congr 1
 . congr 1
   refine List.filter_congr (fun n hn=>?_)
   have hn:n < P.length:=List.mem_range.1 hn
   rw [cx (by simp; omega),cx hn,List.getElem_append_left hn]
 . have:(P++[t]).getD P.length ([],[])=t:=by simp [List.getD]
   simp only [List.filter_cons,List.filter_nil,this]
   cases p t <;> rfl
theorem Du (P:List Tc) (t:Tc) (l:Nat):rdr (P++[t]) l=rdr P l++if (l:Int)∈t.1 then [(P.length:Int)] else []:=by
 have:=wn P t (fun u=>decide ((l:Int)∈u.1))
 unfold rdr; rw [this]; simp
theorem DH (P:List Tc) (t:Tc) (l:Nat):wtr (P++[t]) l=wtr P l++if (l:Int)∈t.2 then [(P.length:Int)] else []:=by
 have:=wn P t (fun u=>decide ((l:Int)∈u.2))
 unfold wtr; rw [this]; simp
theorem yp (P:List Tc) (l:Nat):(rdr P l).length≤P.length:=by
 unfold rdr; rw [List.length_map]
 exact Nat.le_trans (List.length_filter_le ..) (by simp)
theorem xA (P:List Tc) (l:Nat):(wtr P l).length≤P.length:=by
 unfold wtr; rw [List.length_map]
 exact Nat.le_trans (List.length_filter_le ..) (by simp)
theorem sW (l:List Int) (h:l.length≤1000000):bQ l=some l:=by
 unfold bQ
 rw [aM (by simp; omega),sI (fun e=>by subst e; rfl)]
 simp
theorem CY (s:Stm):mO (s.1,s.2.1,s.2.2.1,s.2.2.2.1,s.2.2.2.2)=some (sT s):=by
 unfold mO sT aZ aY
 by_cases h1:s.1=1
 . simp [h1]
 . by_cases h2:s.1=2
   . simp [h2]
   . by_cases h3:s.1=3
     . simp [h3]
     . by_cases h4:s.1=4
       . simp [h4]
       . by_cases h5:s.1=5
         . simp [h5]
         . have:¬ (1≤s.1∧s.1≤4):=by omega
           simp [h1,h2,h3,h4,h5,this]
theorem Cm (x:Tm) (h:x.2.2.2.2.1.length≤1000):mQ (x.1,x.2.1,x.2.2.1,x.2.2.2.1,x.2.2.2.2.1,x.2.2.2.2.2)=some (tT x):=by
 unfold mQ tT
 have hc:=sW x.2.2.2.2.1 (by omega)
 simp only [hc,Option.bind_some,nG]
 by_cases h1:x.1=2
 . simp [h1]
 . by_cases h2:x.1=4
   . simp [h2]
   . by_cases h3:x.1=3
     . simp [h3]
     . simp [h1,h2,h3]
section
variable {N:Nat} {P:List Tc}
def jl (N:Nat) (l:List Int):Prop:=∀ a∈l,0≤a∧a < (N:Int)
theorem Jd {q:List Int} (hq:jl N q) (hn:q.Nodup) (hql:q.length≤1000) (f:Nat→Tc) (hf:∀ l,l < N→(f l).1.length≤1000000) :
   loop (jB P q) (0,(List.range N).map f)=some ((List.range N).map fun (l:Nat)=>if (l:Int)∈q then ((f l).1++[(P.length:Int)],(f l).2) else f l):=by
 have h:=aQ (body:=jB P q) (fun k:Nat=>((k:Int),(List.range N).map fun (l:Nat)=>if (l:Int)∈q.take k then ((f l).1++[(P.length:Int)],(f l).2) else f l)) q.length (b:=(List.range N).map fun (l:Nat)=>if (l:Int)∈q then ((f l).1++[(P.length:Int)],(f l).2) else f l) ?_ ?_
 . simpa using h
 . intro k hk
   obtain ⟨h1,h2⟩:=hq _ (List.getElem_mem hk)
   obtain ⟨m,hm⟩:=Int.eq_ofNat_of_zero_le h1
   have hmN:m < N:=by rw [hm] at h2; exact Int.ofNat_lt.1 h2
   have hnot:¬ ((m:Nat):Int)∈q.take k:=by
     intro hmem
     obtain ⟨i,hi,e⟩:=List.getElem_of_mem hmem
     simp at hi
     rw [List.getElem_take] at e
     exact List.pairwise_iff_getElem.1 hn i k (by omega) hk (by omega) (e.trans hm.symm)
   have hg:aa ((List.range N).map fun (l:Nat)=>if (l:Int)∈q.take k then ((f l).1++[(P.length:Int)],(f l).2) else f l) ((m:Nat):Int)=some (f m):=by
     rw [pz hmN,if_neg hnot]
   have hfl:=hf m hmN
   unfold jB
   simp only [dlt hk,cond_true,ah hk,Option.bind_some,hm,hg,fW]
   rw [aM (by simp; omega)]
   simp only [Option.bind_some,aq hk (by omega:q.length≤9223372036854775807),Int.toNat_natCast,Option.some.injEq,Sum.inl.injEq,Prod.mk.injEq,true_and]
   rw [uv]
   refine jq (fun v hv=>?_)
   rw [aO hk,hm]
   by_cases e:v=m
   . subst e; simp
   . have:¬ (v:Int)=(m:Int):=by omega
     simp [e,this]
 . unfold jB
   simp
theorem Ho {q:List Int} (hq:jl N q) (hn:q.Nodup) (hql:q.length≤1000) (f:Nat→Tc) (hf:∀ l,l < N→(f l).2.length≤1000000) :
   loop (jA q P) (0,(List.range N).map f)=some ((List.range N).map fun (l:Nat)=>if (l:Int)∈q then ((f l).1,(f l).2++[(P.length:Int)]) else f l):=by
 have h:=aQ (body:=jA q P) (fun k:Nat=>((k:Int),(List.range N).map fun (l:Nat)=>if (l:Int)∈q.take k then ((f l).1,(f l).2++[(P.length:Int)]) else f l)) q.length (b:=(List.range N).map fun (l:Nat)=>if (l:Int)∈q then ((f l).1,(f l).2++[(P.length:Int)]) else f l) ?_ ?_
 . simpa using h
 . intro k hk
   obtain ⟨h1,h2⟩:=hq _ (List.getElem_mem hk)
   obtain ⟨m,hm⟩:=Int.eq_ofNat_of_zero_le h1
   have hmN:m < N:=by rw [hm] at h2; exact Int.ofNat_lt.1 h2
   have hnot:¬ ((m:Nat):Int)∈q.take k:=by
     intro hmem
     obtain ⟨i,hi,e⟩:=List.getElem_of_mem hmem
     simp at hi
     rw [List.getElem_take] at e
     exact List.pairwise_iff_getElem.1 hn i k (by omega) hk (by omega) (e.trans hm.symm)
   have hg:aa ((List.range N).map fun (l:Nat)=>if (l:Int)∈q.take k then ((f l).1,(f l).2++[(P.length:Int)]) else f l) ((m:Nat):Int)=some (f m):=by
     rw [pz hmN,if_neg hnot]
   have hfl:=hf m hmN
   unfold jA
   simp only [dlt hk,cond_true,ah hk,Option.bind_some,hm,hg,fW]
   rw [aM (by simp; omega)]
   simp only [Option.bind_some,aq hk (by omega:q.length≤9223372036854775807),Int.toNat_natCast,Option.some.injEq,Sum.inl.injEq,Prod.mk.injEq,true_and]
   rw [uv]
   refine jq (fun v hv=>?_)
   rw [aO hk,hm]
   by_cases e:v=m
   . subst e; simp
   . have:¬ (v:Int)=(m:Int):=by omega
     simp [e,this]
 . unfold jA
   simp
structure Tg (N:Nat) (t:Tc):Prop where
 r:jl N t.1
 w:jl N t.2
 rl:t.1.length≤1000
 wl:t.2.length≤1
theorem zf {t:Tc} (h:Tg N t) (hP:P.length≤100000):gK t.1 t.2 P (lcs N P)=some (P++[cpT t],lcs N (P++[cpT t])):=by
 have hc:=FU t.1
 have hrl:=h.rl
 have hwl:=h.wl
 have hq:jl N (cp t.1):=fun a ha=>h.r a ((oo _ _).1 ha)
 have hwn:t.2.Nodup:=by
   cases hw:t.2 with
   | nil=>simp
   | cons a l =>
     rw [hw] at hwl
     have:l=[]:=by cases l with
       | nil=>rfl
       | cons b l=>simp at hwl
     simp [this]
 unfold gK
 rw [GP (by omega),Option.bind_some,show fh (gG t.1)=some (cp t.1) from rfl,Option.bind_some,aM (by simp; omega),Option.bind_some]
 unfold lcs
 rw [Jd hq (IJ _) (by omega) _ (fun l hl=>by have:=yp P l; dsimp only; omega),Option.bind_some,
   Ho h.w hwn (by omega) _ (fun l hl=>by have:=xA P l; dsimp only; split <;> (dsimp only; omega)),Option.bind_some]
 simp only [Option.some.injEq,Prod.mk.injEq]
 refine ⟨rfl,jq (fun l hl=>?_)⟩
 rw [Du,DH]
 show _=(rdr P l++(if (l:Int)∈cp t.1 then _ else _),wtr P l++(if (l:Int)∈t.2 then _ else _))
 by_cases c1:(l:Int)∈cp t.1 <;> by_cases c2:(l:Int)∈t.2 <;> simp [c1,c2]
end
theorem Ie {L:List (List St)} {R:Int} {x:Stm} (h:sE L R x=0):fOk x=true∧(aY x.1=true→loc L x.2.1=true)∧(aZ x.1=true→loc L x.2.2.1=true):=by
 unfold sE dL at h
 have g1:ie x.1=some (aY x.1):=rfl
 have g2:ig x.1=some (aZ x.1):=rfl
 rw [show ic (x.1,x.2.1,x.2.2.1,x.2.2.2.1,x.2.2.2.2)=_ from nk x] at h
 simp only [Option.bind_some,g1,g2,xG] at h
 cases hf:fOk x with
 | false=>rw [hf] at h; simp at h
 | true =>
   rw [hf] at h
   simp only [Bool.not_true,cond_false] at h
   cases c1:(aY x.1&&!loc L x.2.1) with
   | true=>rw [c1] at h; simp at h
   | false =>
     rw [c1] at h
     simp only [cond_false,Option.bind_some] at h
     cases c2:(aZ x.1&&!loc L x.2.2.1) with
     | true=>rw [c2] at h; simp at h
     | false =>
       refine ⟨rfl,fun e=>?_,fun e=>?_⟩
       . rw [e] at c1; simpa using c1
       . rw [e] at c2; simpa using c2
theorem zA {a:Ar} {x:Tm} (h:tE a x=0) (hl:x.2.2.2.1.length≤20) (hl2:x.2.2.2.2.1.length≤20) (hl3:x.2.2.2.2.2.length≤20) :
   cA x=0∧bad (a.2.2.1.length:Int) x.2.2.2.2.1=false∧(x.1=4→bad (a.2.2.1.length:Int) [x.2.2.1]=false)∧(x.1=3→¬ a.2.2.1.length=0):=by
 unfold tE ek at h
 rw [show fJ (x.1,x.2.1,x.2.2.1,x.2.2.2.1,x.2.2.2.2.1,x.2.2.2.2.2)=_ from m9 x] at h
 simp only [Option.bind_some,cO x.2.2.2.1 _ (by omega),cO x.2.2.2.2.1 _ (by omega),cO x.2.2.2.2.2 _ (by omega),cO [x.2.2.1] _ (by simp),cO [x.2.1] _ (by simp),Bool.not_not] at h
 by_cases q2:cA x=0
 . rw [decide_eq_true q2,Bool.not_true,cond_false] at h
   cases c1:bad a.1 x.2.2.2.1 with
   | true=>rw [c1] at h; simp at h
   | false =>
     rw [c1] at h
     simp only [cond_false,Option.bind_some] at h
     cases c2:bad (a.2.2.1.length:Int) x.2.2.2.2.1 with
     | true=>rw [c2] at h; simp at h
     | false =>
       rw [c2] at h
       simp only [cond_false,Option.bind_some] at h
       cases c3:bad a.2.1 x.2.2.2.2.2 with
       | true=>rw [c3] at h; simp at h
       | false =>
         rw [c3] at h
         simp only [cond_false,Option.bind_some] at h
         refine ⟨q2,rfl,fun e=>?_,fun e=>?_⟩
         . cases c4:bad (a.2.2.1.length:Int) [x.2.2.1] with
           | false=>rfl
           | true=>rw [c4] at h; simp [e] at h
         . intro e0
           rw [e,e0] at h
           simp at h
 . rw [decide_eq_false q2,Bool.not_false,cond_true] at h
   exact absurd h q2
theorem cB {a b:Flt} (h:(or0 a b).1=0):a.1=0∧b.1=0:=by
 unfold or0 at h
 split at h
 . rename_i q; exact ⟨q,h⟩
 . rename_i q; exact absurd h q
theorem xM {b:Bo} (h:(vck b).1=0):∀ x∈b.2.2.2.2.2.2,(∀ s∈x.1,sE b.2.2.2.1 b.2.1 s=0)∧tE (bc b) x.2=0:=by
 unfold vck at h
 have hc:=(cB (cB (cB (cB (cB (cB h).2).2).2).2).2).2
 unfold b8 at hc
 cases hq:b.2.2.2.2.2.2.findIdx? (fun x=>(bG b x).isSome) with
 | none =>
   intro x hx
   have:=List.findIdx?_eq_none_iff.1 hq x hx
   unfold bG at this
   split at this
   . simp at this
   . rename_i hs
     refine ⟨fun s hm=>?_,?_⟩
     . have:=List.findIdx?_eq_none_iff.1 hs s hm
       simpa using this
     . by_cases q:tE (bc b) x.2=0
       . exact q
       . rw [if_neg q] at this; simp at this
 | some k =>
   exfalso
   rw [hq] at hc
   obtain ⟨hk,hcc,_⟩:=List.findIdx?_eq_some_iff_getElem.1 hq
   have e:b.2.2.2.2.2.2.getD k ([],0,0,0,[],[],[])=b.2.2.2.2.2.2[k]:=by simp [List.getD,hk]
   simp only [e] at hc
   unfold bG at hcc hc
   split at hcc
   . rename_i j hj
     rw [hj] at hc
     obtain ⟨hj1,hj2,_⟩:=List.findIdx?_eq_some_iff_getElem.1 hj
     have e2:b.2.2.2.2.2.2[k].1.getD j (0,0,0,0,false)=b.2.2.2.2.2.2[k].1[j]:=by simp [List.getD,hj1]
     simp only [e2,dW] at hc
     simp [hc] at hj2
   . rename_i hj
     rw [hj] at hc
     by_cases q:tE (bc b) b.2.2.2.2.2.2[k].2=0
     . rw [if_pos q] at hcc; simp at hcc
     . rw [if_neg q] at hc; simp only [dW] at hc; exact q hc
theorem sX {n:Nat} {l:List Int} (h:bad (n:Int) l=false):jl n l:=by
 intro a ha
 unfold bad at h
 rw [List.any_eq_false] at h
 have:=h a ha
 simp at this
 omega
structure Vb (N:Nat) (X:List Blk):Prop where
 st:∀ x∈X,∀ s∈x.1,Tg N (sT s)
 tm:∀ x∈X,Tg N (tT x.2)
 fm:∀ x∈X,cA x.2=0
 ar:∀ x∈X,x.2.2.2.2.2.1.length≤20
 pos:X≠[]→0 < N
theorem H9 {b:Bo} (h:Sm b):Vb b.2.2.2.1.length (xs b):=by
 unfold xs
 by_cases q:(vck b).1=0
 . rw [if_pos q]
   have ha:=xM q
   refine ⟨fun x hx s hs=>?_,fun x hx=>?_,fun x hx=>?_,fun x hx=>(h.term x hx).2.1,fun _=>?_⟩
   . obtain ⟨h1,h2,h3⟩:=Ie ((ha x hx).1 s hs)
     refine ⟨fun a m=>?_,fun a m=>?_,?_,?_⟩
     . unfold sT at m; dsimp only at m
       by_cases c:aZ s.1=true
       . rw [if_pos c] at m; simp at m; subst m
         have:=h3 c; unfold loc at this; simp at this; omega
       . rw [if_neg c] at m; simp at m
     . unfold sT at m; dsimp only at m
       by_cases c:aY s.1=true
       . rw [if_pos c] at m; simp at m; subst m
         have:=h2 c; unfold loc at this; simp at this; omega
       . rw [if_neg c] at m; simp at m
     . unfold sT; dsimp only; split <;> simp
     . unfold sT; dsimp only; split <;> simp
   . obtain ⟨a1,a2,a3⟩:=h.term x hx
     obtain ⟨h1,h2,h3,h4⟩:=zA (ha x hx).2 a1 a2 a3
     unfold tT
     by_cases c1:x.2.1=2
     . rw [if_pos c1]; exact ⟨sX h2,fun a m=>by simp at m,by dsimp only; omega,by simp⟩
     . rw [if_neg c1]
       by_cases c2:x.2.1=4
       . rw [if_pos c2]; exact ⟨sX h2,sX (h3 c2),by dsimp only; omega,by simp⟩
       . rw [if_neg c2]
         by_cases c3:x.2.1=3
         . rw [if_pos c3]
           have:=h4 c3
           refine ⟨fun a m=>?_,fun a m=>by simp at m,by simp,by simp⟩
           simp at m; subst m
           unfold bc at this; dsimp only at this
           omega
         . rw [if_neg c3]; exact ⟨fun a m=>by simp at m,fun a m=>by simp at m,by simp,by simp⟩
   . obtain ⟨a1,a2,a3⟩:=h.term x hx
     exact (zA (ha x hx).2 a1 a2 a3).1
   . unfold vck at q
     have hl:=(cB (cB (cB q).2).2).1
     unfold d6 at hl
     by_cases c:b.2.2.2.1=[]
     . rw [if_pos c] at hl; simp at hl
     . exact List.length_pos_iff.2 c
 . rw [if_neg q]
   exact ⟨fun x hx=>(by cases hx),fun x hx=>(by cases hx),fun x hx=>(by cases hx),fun x hx=>(by cases hx),fun e=>absurd rfl e⟩
theorem GH {N:Nat} {x:Blk} {P:List Tc} (hx:∀ s∈x.1,Tg N (sT s)) (hl:x.1.length≤1000) (hP:P.length≤10000) :
   loop (kb x) (0,P,lcs N P)=some (P++x.1.map (fun s=>cpT (sT s)),lcs N (P++x.1.map (fun s=>cpT (sT s)))):=by
 have h:=aQ (body:=kb x) (fun k:Nat=>((k:Int),P++(x.1.take k).map (fun s=>cpT (sT s)),lcs N (P++(x.1.take k).map (fun s=>cpT (sT s))))) x.1.length (b:=(P++x.1.map (fun s=>cpT (sT s)),lcs N (P++x.1.map (fun s=>cpT (sT s))))) ?_ ?_
 . simpa using h
 . intro k hk
   unfold kb
   simp only [dlt hk,cond_true,ah hk,Option.bind_some,CY]
   rw [show gK (sT x.1[k]).1 (sT x.1[k]).2 _ _=_ from zf (hx _ (List.getElem_mem hk)) (by simp; omega),Option.bind_some]
   simp only [aq hk (by omega:x.1.length≤9223372036854775807),aO hk,List.map_append,List.map_cons,List.map_nil,List.append_assoc]
 . unfold kb
   simp
theorem BL {b:Bo} (h:Sm b):kr b=some (some (pts (xs b),if bg (xs b) (xs b).length=0 then [] else lcs b.2.2.2.1.length (pts (xs b)))):=by
 obtain ⟨hb,hX8⟩:=kJ h (Nat.le_refl _)
 have hv:=H9 h
 have hNL:=h.locals
 have hxs:bg (xs b) (xs b).length≠0→xs b=b.2.2.2.2.2.2:=by
   unfold xs; split
   . intro _; rfl
   . intro hc; exact absurd (by simp [bg,stm]) hc
 have hbs:=h
 unfold kr
 rw [show dg b=_ from qS h,Option.bind_some,show db (some (bgs (xs b),((bg (xs b) (xs b).length:Nat):Int)))=some ((bg (xs b) (xs b).length:Nat):Int) from rfl,Option.bind_some]
 by_cases q:bg (xs b) (xs b).length=0
 . rw [if_pos q,q]
   have:pts (xs b)=[]:=by
     have:=nT (xs b); rw [q] at this; exact List.length_eq_zero_iff.1 this
   rw [this]; rfl
 . rw [if_neg q,decide_eq_false (by omega),cond_false,mkN (by omega),Option.bind_some]
   have hX:=hxs q
   have hl0:List.replicate b.2.2.2.1.length (([],[]):Tc)=lcs b.2.2.2.1.length []:=by rw [zP]; rfl
   rw [hl0]
   have hL:=aQ (body:=j8 b) (fun k:Nat=>((k:Int),dD (xs b) k,lcs b.2.2.2.1.length (dD (xs b) k))) (xs b).length (b:=(pts (xs b),lcs b.2.2.2.1.length (pts (xs b)))) ?_ ?_
   . rw [show loop (j8 b) (0,[],lcs b.2.2.2.1.length [])=_ from hL]; rfl
   . intro k hk
     have hk2:k < b.2.2.2.2.2.2.length:=by rw [← hX]; exact hk
     have hget:aa b.2.2.2.2.2.2 (k:Int)=some (xs b)[k]:=by rw [ah hk2]; simp only [hX]
     have hm:(xs b)[k]∈xs b:=List.getElem_mem hk
     have a0:=nJ (xs b) k (by omega)
     have a1:=dS (xs b) (i:=k + 1) (j:=(xs b).length) hk (Nat.le_refl _)
     rw [cv hk] at a1
     have a2:=hv.ar _ hm
     unfold j8
     simp only [dlt hk2,cond_true,hget,Option.bind_some]
     rw [GH (hv.st _ hm) (by omega) (by omega),Option.bind_some]
     dsimp only
     rw [Cm (xs b)[k].2 (by omega),Option.bind_some,zf (hv.tm _ hm) (by simp; omega),Option.bind_some,aq hk (by omega)]
     simp only [dD,d9,cx hk,List.append_assoc]
   . unfold j8
     dsimp only
     rw [dge (by rw [← hX]; omega),cond_false]
end
section
section
variable {P:List Tc} {C:List Tc}
theorem Ks:qa (some (P,C))=some ((P.length:Nat):Int):=rfl
end
theorem FW (a:Int):cp [a]=[a]:=by
 refine fN (zz _) (by simp) (fun x=>?_)
 rw [oo]
end
theorem eC (x:Nat):BitVec.ofInt 64 (x:Int)=BitVec.ofNat 64 x:=by simp
theorem cX (x:Nat) (h:x < 18446744073709551616):IntKind.wrap .u64 (x:Int)=(x:Int):=by
 rw [IntKind.wrap_u64]
 omega
theorem nO {k:Nat} (hk:k < 64):2 ^ k < 18446744073709551616:=Nat.pow_lt_pow_right (by decide) hk
theorem xF {k:Nat} (hk:k < 64):IntKind.wrap .u64 (1 * 2 ^ (min k (IntKind.bits .u64)))=((2 ^ k:Nat):Int):=by
 have h1:min k (IntKind.bits .u64)=k:=Nat.min_eq_left (Nat.le_of_lt hk)
 rw [h1,Int.one_mul]
 have:=cX (2 ^ k) (nO hk)
 rw [← this]
 congr 1
theorem Af (x y:Nat) (hx:x < 18446744073709551616) (hy:y < 18446744073709551616):IntKind.wrap .u64 ((BitVec.ofInt (IntKind.bits .u64) (x:Int) &&& BitVec.ofInt (IntKind.bits .u64) (y:Int)).toNat:Int)=((x &&& y:Nat):Int):=by
 show IntKind.wrap .u64 ((BitVec.ofInt 64 (x:Int) &&& BitVec.ofInt 64 (y:Int)).toNat:Int)=_
 rw [eC,eC,BitVec.toNat_and,BitVec.toNat_ofNat,BitVec.toNat_ofNat,Nat.mod_eq_of_lt hx,Nat.mod_eq_of_lt hy]
 exact cX _ (Nat.and_lt_two_pow (n:=64) _ hy)
theorem orU (x y:Nat) (hx:x < 18446744073709551616) (hy:y < 18446744073709551616):IntKind.wrap .u64 ((BitVec.ofInt (IntKind.bits .u64) (x:Int) ||| BitVec.ofInt (IntKind.bits .u64) (y:Int)).toNat:Int)=((x ||| y:Nat):Int):=by
 show IntKind.wrap .u64 ((BitVec.ofInt 64 (x:Int) ||| BitVec.ofInt 64 (y:Int)).toNat:Int)=_
 rw [eC,eC,BitVec.toNat_or,BitVec.toNat_ofNat,BitVec.toNat_ofNat,Nat.mod_eq_of_lt hx,Nat.mod_eq_of_lt hy]
 exact cX _ (Nat.or_lt_two_pow (n:=64) hx hy)
theorem ED (x k:Nat):(x &&& 2 ^ k=0)↔x.testBit k=false:=by
 constructor
 . intro h
   have:=congrArg (fun n=>n.testBit k) h
   simpa [Nat.testBit_and,Nat.testBit_two_pow_self] using this
 . intro h
   apply Nat.eq_of_testBit_eq
   intro i
   rw [Nat.testBit_and,Nat.testBit_two_pow,Nat.zero_testBit]
   by_cases hi:k=i
   . subst hi; simp [h]
   . simp [hi]
theorem GM (x k i:Nat):(x ||| 2 ^ k).testBit i=(x.testBit i||decide (k=i)):=by
 rw [Nat.testBit_or,Nat.testBit_two_pow]
def Wd (w:Int):Prop:=0≤w∧w < 18446744073709551616
def mem (l:List Int) (i:Nat):Bool:=match l[i / 64]? with | some w=>w.toNat.testBit (i % 64) | none=>false
structure Ds (n:Nat) (l:List Int):Prop where
 hn:n≤1048576
 len:l.length=(n + 63) / 64
 wd:∀ w∈l,Wd w
 top:∀ i,n≤i→mem l i=false
theorem qG {n:Nat} {l:List Int} (i:Int):ef (some ((n:Int),l)) i=some (decide (0≤i∧i < n)):=by
 unfold ef
 rw [show mr (some ((n:Int),l))=some (n:Int) from rfl]
 by_cases h:0≤i
 . simp [h]
 . simp [h]
theorem Ds.word {n:Nat} {l:List Int} (h:Ds n l) {k:Nat} (hk:k < n):∃ x:Nat,l[k / 64]? = some (x:Int)∧x < 18446744073709551616:=by
 have hl:k / 64 < l.length:=by rw [h.len]; omega
 refine ⟨(l[k / 64]).toNat,?_,?_⟩
 . rw [List.getElem?_eq_getElem hl,Int.toNat_of_nonneg (h.wd _ (List.getElem_mem hl)).1]
 . have:=h.wd _ (List.getElem_mem hl)
   unfold Wd at this
   omega
theorem dw {l:List Int} {k x:Nat} (h:l[k / 64]? = some (x:Int)):mem l k=x.testBit (k % 64):=by
 unfold mem
 rw [h]
 simp
theorem nI {n:Nat} {l:List Int} (h:Ds n l) (i:Int):bX (some ((n:Int),l)) i=some (decide (0≤i∧i < n)&&mem l i.toNat):=by
 unfold bX
 rw [qG]
 by_cases hi:0≤i∧i < n
 . obtain ⟨k,rfl⟩:=Int.eq_ofNat_of_zero_le hi.1
   have hk:k < n:=by omega
   have hn:=h.hn
   obtain ⟨x,hx,hx2⟩:=h.word hk
   have e1:IntKind.wrap .i64 (Int.tdiv (k:Int) 64)=((k / 64:Nat):Int):=by
     rw [show Int.tdiv (k:Int) 64=((k / 64:Nat):Int) from rfl]
     exact w64 (by omega) (by omega)
   have e2:Int.tmod (k:Int) 64=((k % 64:Nat):Int):=rfl
   have g:aa l ((k / 64:Nat):Int)=some (x:Int):=by
     unfold aa
     rw [if_pos (Int.natCast_nonneg _),Int.toNat_natCast]
     exact hx
   have hd:decide (0≤(k:Int)∧(k:Int) < n)=true:=by simpa using hk
   rw [hd,e1,e2]
   simp only [Option.bind_some,cond_true,g,tA (Int.natCast_nonneg _),Int.toNat_natCast,Bool.true_and]
   have E:IntKind.wrap .u64 ((BitVec.ofInt (IntKind.bits .u64) (x:Int) &&& BitVec.ofInt (IntKind.bits .u64) (IntKind.wrap .u64 (1 * 2 ^ (min (k % 64) (IntKind.bits .u64))))).toNat:Int)=((x &&& 2 ^ (k % 64):Nat):Int):=by
     rw [xF (Nat.mod_lt k (by decide))]
     exact Af x _ hx2 (nO (Nat.mod_lt k (by decide)))
   simp only [E,dw hx]
   have hb:=ED x (k % 64)
   cases ht:x.testBit (k % 64) with
   | false=>simp [hb.2 ht]
   | true =>
     have:¬ (x &&& 2 ^ (k % 64)=0):=fun e=>by rw [hb.1 e] at ht; cases ht
     have h2:¬ (((x &&& 2 ^ (k % 64):Nat):Int)=0):=by omega
     rw [decide_eq_false h2]
     rfl
 . rw [decide_eq_false hi]
   rfl
theorem w9 {l:List Int} {q x y:Nat} (hq:l[q]? = some (x:Int)) (j:Nat):mem (l.set q (y:Int)) j=if j / 64=q then y.testBit (j % 64) else mem l j:=by
 unfold mem
 rw [List.getElem?_set]
 have hlt:q < l.length:=(List.getElem?_eq_some_iff.1 hq).1
 by_cases hj:j / 64=q
 . rw [if_pos hj.symm,if_pos hj,← hj] 
   simp [hj,hlt]
 . rw [if_neg (fun e=>hj e.symm),if_neg hj]
theorem nE {n:Nat} {l:List Int} (h:Ds n l) (i:Int):∃ l',cN i n l=some (decide (0≤i∧i < n)&&!mem l i.toNat,l')∧Ds n l'∧∀ j,mem l' j=(mem l j||decide ((0≤i∧i < n)∧i.toNat=j)):=by
 unfold cN
 rw [qG,nI h]
 by_cases hi:0≤i∧i < n
 . rw [decide_eq_true hi]
   cases hm:mem l i.toNat with
   | true=>exact ⟨l,rfl,h,fun j=>by
       by_cases hj:i.toNat=j
       . subst hj; simp [hm]
       . simp [hj]⟩
   | false =>
     obtain ⟨k,rfl⟩:=Int.eq_ofNat_of_zero_le hi.1
     have hk:k < n:=by omega
     have hn:=h.hn
     obtain ⟨x,hx,hx2⟩:=h.word hk
     have e1:IntKind.wrap .i64 (Int.tdiv (k:Int) 64)=((k / 64:Nat):Int):=by
       rw [show Int.tdiv (k:Int) 64=((k / 64:Nat):Int) from rfl]
       exact w64 (by omega) (by omega)
     have e2:Int.tmod (k:Int) 64=((k % 64:Nat):Int):=rfl
     have g:aa l ((k / 64:Nat):Int)=some (x:Int):=by
       unfold aa
       rw [if_pos (Int.natCast_nonneg _),Int.toNat_natCast]
       exact hx
     have E:IntKind.wrap .u64 ((BitVec.ofInt (IntKind.bits .u64) (x:Int) ||| BitVec.ofInt (IntKind.bits .u64) (IntKind.wrap .u64 (1 * 2 ^ (min (k % 64) (IntKind.bits .u64))))).toNat:Int)=((x ||| 2 ^ (k % 64):Nat):Int):=by
       rw [xF (Nat.mod_lt k (by decide))]
       exact orU x _ hx2 (nO (Nat.mod_lt k (by decide)))
     have hlt:k / 64 < l.length:=(List.getElem?_eq_some_iff.1 hx).1
     have hmem:∀ j,mem (l.set (k / 64) ((x ||| 2 ^ (k % 64):Nat):Int)) j=(mem l j||decide (((0:Int)≤(k:Int)∧(k:Int) < n)∧k=j)):=fun j=>by
       rw [w9 hx]
       by_cases hj:j / 64=k / 64
       . rw [if_pos hj,GM,dw (by rw [hj]; exact hx)]
         have:(k % 64=j % 64)↔k=j:=by omega
         simp [this,hk]
       . rw [if_neg hj]
         have:¬ k=j:=fun e=>hj (by rw [e])
         simp [this]
     refine ⟨l.set (k / 64) ((x ||| 2 ^ (k % 64):Nat):Int),?_,⟨hn,by rw [List.length_set]; exact h.len,fun w hw=>?_,fun j hj=>?_⟩,hmem⟩
     . rw [e1,e2]
       simp only [Option.bind_some,cond_true,cond_false,g,tA (Int.natCast_nonneg _),Int.toNat_natCast,Bool.true_and,Bool.not_true,Bool.not_false,E]
     . rcases List.mem_or_eq_of_mem_set hw with hw | rfl
       . exact h.wd w hw
       . have:=Nat.or_lt_two_pow (n:=64) hx2 (nO (Nat.mod_lt k (by decide)))
         unfold Wd
         omega
     . rw [hmem,h.top j hj]
       have:¬ k=j:=by omega
       simp [this]
 . rw [decide_eq_false hi]
   exact ⟨l,rfl,h,fun j=>by simp [hi]⟩
theorem nD (x r j:Nat):(x / 2 ^ r * 2 ^ r).testBit j=(decide (r≤j)&&x.testBit j):=by
 rw [Nat.testBit_mul_two_pow]
 by_cases h:r≤j
 . rw [Nat.testBit_div_two_pow,Nat.sub_add_cancel h]
 . simp [h]
theorem CO (x r:Nat) (hx:x < 18446744073709551616) (hr:r < 64):IntKind.wrap .u64 ((Int.fdiv (x:Int) (2 ^ (min r (IntKind.bits .u64)))) * 2 ^ (min r (IntKind.bits .u64)))=((x / 2 ^ r * 2 ^ r:Nat):Int):=by
 have h1:min r (IntKind.bits .u64)=r:=Nat.min_eq_left (Nat.le_of_lt hr)
 have hp:((2:Int) ^ r)=((2 ^ r:Nat):Int):=by simp
 have h2:Int.fdiv (x:Int) ((2 ^ r:Nat):Int)=((x / 2 ^ r:Nat):Int):=by
   rw [Int.fdiv_eq_ediv_of_nonneg _ (Int.natCast_nonneg _)]
   rfl
 rw [h1,hp,h2,← Int.natCast_mul]
 exact cX _ (Nat.lt_of_le_of_lt (Nat.div_mul_le_self x (2 ^ r)) hx)
theorem Ey {x:Nat} (h0:x≠0) (h:x < 18446744073709551616):Lib.ctz 64 x < 64∧x.testBit (Lib.ctz 64 x)=true∧∀ j,j < Lib.ctz 64 x→x.testBit j=false:=by
 have h':x < 2 ^ 64:=h
 obtain ⟨m,hm,hk⟩:=Lib.ctzFrom_spec 64 x (by omega) h'
 have e:Lib.ctz 64 x=Lib.ctzFrom 64 x:=by simp [Lib.ctz,h0]
 rw [e]
 clear e
 revert hm hk
 generalize Lib.ctzFrom 64 x=c
 intro hm hk
 refine ⟨hk,?_,fun j hj=>?_⟩
 . rw [hm,Nat.mul_comm,Nat.testBit_mul_two_pow]
   simp
 . rw [hm,Nat.mul_comm,Nat.testBit_mul_two_pow]
   simp [Nat.not_le.2 hj]
theorem CU {n:Int} {l:List Int} (hw:∀ w∈l,Wd w) (hlen:l.length≤20000):∀ (d a w:Nat),a + 1 + d=l.length→w < 18446744073709551616 →
   ∃ r,loop (gN (n,l)) ((a:Int),(w:Int))=some r∧((r = .inr (-1)∧w=0∧∀ q,a < q→q < l.length→l[q]? = some 0) ∨
     ∃ b v:Nat,r = .inl ((b:Int),(v:Int))∧v≠0∧v < 18446744073709551616∧a≤b∧b < l.length∧((b=a∧v=w)∨(a < b∧w=0∧l[b]? = some (v:Int)))∧∀ q,a < q→q < b→l[q]? = some 0):=by
 intro d
 induction d with
 | zero =>
   intro a w ha hx
   by_cases h0:w=0
   . subst h0
     refine ⟨.inr (-1),eK ?_,.inl ⟨rfl,rfl,fun q h1 h2=>by omega⟩⟩
     have e:IntKind.wrap .i64 ((a:Int) + 1)=((l.length:Nat):Int):=by rw [w64 (by omega) (by omega)]; omega
     unfold gN
     simp [e]
   . refine ⟨.inl ((a:Int),(w:Int)),eK ?_,.inr ⟨a,w,rfl,h0,hx,Nat.le_refl a,by omega,.inl ⟨rfl,rfl⟩,fun q h1 h2=>by omega⟩⟩
     have h1:¬ ((w:Int)=0):=by omega
     unfold gN
     simp [h1,h0]
 | succ d ih =>
   intro a w ha hx
   by_cases h0:w=0
   . subst h0
     have hlt:a + 1 < l.length:=by omega
     have hwd:=hw _ (List.getElem_mem hlt)
     obtain ⟨x,hxe⟩:∃ x:Nat,l[a + 1]=(x:Int):=⟨l[a + 1].toNat,(Int.toNat_of_nonneg hwd.1).symm⟩
     have hx2:x < 18446744073709551616:=by have:=hwd.2; rw [hxe] at this; omega
     have hq:l[a + 1]? = some (x:Int):=by rw [List.getElem?_eq_getElem hlt,hxe]
     obtain ⟨r,h1,h2⟩:=ih (a + 1) x (by omega) hx2
     have e:IntKind.wrap .i64 ((a:Int) + 1)=((a + 1:Nat):Int):=by rw [w64 (by omega) (by omega)]; rfl
     have hne:¬ (((a + 1:Nat):Int)=((l.length:Nat):Int)):=by omega
     have hg:aa l ((a + 1:Nat):Int)=some (x:Int):=by
       unfold aa
       rw [if_pos (Int.natCast_nonneg _),Int.toNat_natCast]
       exact hq
     refine ⟨r,(nA (s':=(((a + 1:Nat):Int),(x:Int))) ?_).trans h1,?_⟩
     . unfold gN
       simp only [e,hg,Option.bind_some,decide_eq_false hne,cond_false]
       rfl
     . rcases h2 with ⟨h3,h4,h5⟩ | ⟨b,v,h3,h4,h5,h6,h7,h8,h9⟩
       . refine .inl ⟨h3,rfl,fun q g1 g2=>?_⟩
         by_cases hqa:q=a + 1
         . subst hqa; rw [hq,h4]; rfl
         . exact h5 q (by omega) g2
       . refine .inr ⟨b,v,h3,h4,h5,by omega,h7,.inr ?_,fun q g1 g2=>?_⟩
         . rcases h8 with ⟨rfl,rfl⟩ | ⟨g1,g2,g3⟩
           . exact ⟨by omega,rfl,hq⟩
           . exact ⟨by omega,rfl,g3⟩
         . by_cases hqa:q=a + 1
           . subst hqa
             rcases h8 with ⟨rfl,rfl⟩ | ⟨k1,k2,k3⟩
             . omega
             . rw [hq,k2]; rfl
           . exact h9 q (by omega) g2
   . refine ⟨.inl ((a:Int),(w:Int)),eK ?_,.inr ⟨a,w,rfl,h0,hx,Nat.le_refl a,by omega,.inl ⟨rfl,rfl⟩,fun q h1 h2=>by omega⟩⟩
     have h1:¬ ((w:Int)=0):=by omega
     unfold gN
     simp [h1,h0]
theorem rV {l:List Int} {j:Nat} (h:∀ w,l[j / 64]? = some w→w=0):mem l j=false:=by
 unfold mem
 cases hl:l[j / 64]? with
 | none=>rfl
 | some w=>rw [h w hl]; simp
theorem wh {n:Nat} {l:List Int} (h:Ds n l) (i:Int):∃ r,cH (some ((n:Int),l)) i=some r∧((r = -1∧∀ j:Nat,i≤(j:Int)→mem l j=false) ∨
   ∃ k:Nat,r=(k:Int)∧i≤(k:Int)∧mem l k=true∧∀ j:Nat,i≤(j:Int)→j < k→mem l j=false):=by
 obtain ⟨c,hc⟩:∃ c:Nat,(if i < 0 then 0 else i)=(c:Int):=⟨(if i < 0 then 0 else i).toNat,by split <;> omega⟩
 have hci:∀ j:Nat,i≤(j:Int)↔c≤j:=fun j=>by split at hc <;> omega
 have hn:=h.hn
 have hl:=h.len
 unfold cH
 simp only [hc,qG,Option.bind_some]
 by_cases hk:c < n
 . have hd : decide (0 ≤ (c : Int) ∧ (c : Int) < n) = true := by simpa using hk
   obtain ⟨x,hx,hx2⟩:=h.word hk
   have e1:IntKind.wrap .i64 (Int.tdiv (c:Int) 64)=((c / 64:Nat):Int):=by
     rw [show Int.tdiv (c:Int) 64=((c / 64:Nat):Int) from rfl]
     exact w64 (by omega) (by omega)
   have e2:Int.tmod (c:Int) 64=((c % 64:Nat):Int):=rfl
   have g:aa l ((c / 64:Nat):Int)=some (x:Int):=by
     unfold aa
     rw [if_pos (Int.natCast_nonneg _),Int.toNat_natCast]
     exact hx
   have hr:c % 64 < 64:=Nat.mod_lt c (by decide)
   have hw2:x / 2 ^ (c % 64) * 2 ^ (c % 64) < 18446744073709551616:=Nat.lt_of_le_of_lt (Nat.div_mul_le_self x _) hx2
   obtain ⟨r,hlp,hcase⟩:=CU (n:=(n:Int)) h.wd (by omega) (l.length - 1 - c / 64) (c / 64) _ (by omega) hw2
   simp only [hd,Bool.not_true,cond_false,e1,e2,g,Option.bind_some,tA (Int.natCast_nonneg _),Int.toNat_natCast,CO x _ hx2 hr,hlp]
   rcases hcase with ⟨rfl,h4,h5⟩ | ⟨b,v,rfl,h4,h5,h6,h7,h8,h9⟩
   . refine ⟨-1,rfl,.inl ⟨rfl,fun j hj=>?_⟩⟩
     have hj:=(hci j).1 hj
     by_cases hja:j / 64=c / 64
     . rw [dw (by rw [hja]; exact hx)]
       have:=nD x (c % 64) (j % 64)
       rw [h4,Nat.zero_testBit] at this
       have hle:c % 64≤j % 64:=by omega
       simpa [hle] using this.symm
     . refine rV (fun w hw=>?_)
       have hlt:=(List.getElem?_eq_some_iff.1 hw).1
       rw [h5 (j / 64) (by omega) hlt] at hw
       exact (Option.some.inj hw).symm
   . obtain ⟨t1,t2,t3⟩:=Ey h4 h5
     have ht:tzF (v:Int)=some ((Lib.ctz 64 v:Nat):Int):=by
       unfold tzF
       rw [if_pos ⟨Int.natCast_nonneg _,by omega⟩,Int.toNat_natCast]
     have e3:IntKind.wrap .i64 (IntKind.wrap .i64 ((b:Int) * 64) + ((Lib.ctz 64 v:Nat):Int))=((b * 64 + Lib.ctz 64 v:Nat):Int):=by
       rw [w64 (x:=(b:Int) * 64) (by omega) (by omega),w64 (by omega) (by omega)]
       omega
     refine ⟨((b * 64 + Lib.ctz 64 v:Nat):Int),by simp only [ht,Option.bind_some,e3],.inr ⟨_,rfl,?_⟩⟩
     generalize Lib.ctz 64 v=z at t1 t2 t3
     have d1:(b * 64 + z) / 64=b:=by omega
     have d2:(b * 64 + z) % 64=z:=by omega
     rcases h8 with ⟨rfl,rfl⟩ | ⟨g1,g2,g3⟩
     . rw [nD,Bool.and_eq_true] at t2
       have hz:c % 64≤z:=by simpa using t2.1
       refine ⟨(hci _).2 (by omega),?_,fun j hj hjk=>?_⟩
       . rw [dw (x:=x) (by rw [d1]; exact hx),d2]
         exact t2.2
       . have hj:=(hci j).1 hj
         have:=t3 (j % 64) (by omega)
         rw [nD] at this
         rw [dw (by rw [show j / 64=c / 64 by omega]; exact hx)]
         have hle:c % 64≤j % 64:=by omega
         simpa [hle] using this
     . refine ⟨(hci _).2 (by omega),?_,fun j hj hjk=>?_⟩
       . rw [dw (x:=v) (by rw [d1]; exact g3),d2]
         exact t2
       . have hj:=(hci j).1 hj
         by_cases hja:j / 64=c / 64
         . rw [dw (by rw [hja]; exact hx)]
           have:=nD x (c % 64) (j % 64)
           rw [g2,Nat.zero_testBit] at this
           have hle:c % 64≤j % 64:=by omega
           simpa [hle] using this.symm
         . by_cases hjb:j / 64=b
           . rw [dw (by rw [hjb]; exact g3)]
             exact t3 _ (by omega)
           . exact rV (fun w hw=>by
               rw [h9 (j / 64) (by omega) (by omega)] at hw
               exact (Option.some.inj hw).symm)
 . have hd:decide (0≤(c:Int)∧(c:Int) < n)=false:=by simpa using hk
   simp only [hd,Bool.not_false,cond_true]
   exact ⟨-1,rfl,.inl ⟨rfl,fun j hj=>h.top j (by have:=(hci j).1 hj; omega)⟩⟩
theorem sO (m j:Nat):mem (List.replicate m 0) j=false:=rV (fun w hw=>by
 rw [List.getElem?_replicate] at hw
 split at hw
 . exact (Option.some.inj hw).symm
 . cases hw)
theorem yI {n:Nat} (h:n≤1048576):Ds n (List.replicate ((n + 63) / 64) 0) :=
 ⟨h,List.length_replicate,fun w hw=>by
   obtain ⟨_,rfl⟩:=List.mem_replicate.1 hw
   exact ⟨Int.le_refl _,by decide⟩,fun j _=>sO _ j⟩
theorem w7 (n:Int):ew n=if n < 0 then some (.inl 2) else if 1048576 < n then some (.inl 5) else some (.inr (0,n,List.replicate ((n.toNat + 63) / 64) 0)):=by
 unfold ew
 by_cases h1:n < 0
 . simp [h1]
 . by_cases h2:1048576 < n
   . simp [h1,h2]
   . obtain ⟨k,rfl⟩:=Int.eq_ofNat_of_zero_le (by omega:0≤n)
     have e:IntKind.wrap .i64 (Int.tdiv (IntKind.wrap .i64 (IntKind.wrap .i64 ((k:Int) + 64) - 1)) 64)=(((k + 63) / 64:Nat):Int):=by
       rw [w64 (x:=(k:Int) + 64) (by omega) (by omega),w64 (x:=(k:Int) + 64 - 1) (by omega) (by omega),show (k:Int) + 64 - 1=((k + 63:Nat):Int) by omega]
       rw [show Int.tdiv ((k + 63:Nat):Int) 64=(((k + 63) / 64:Nat):Int) from rfl]
       exact w64 (by omega) (by omega)
     rw [e]
     have hm:(mk ((((k + 63) / 64:Nat):Int)) ((((k + 63) / 64:Nat):Int)) (0:Int))=some (List.replicate ((k + 63) / 64) 0):=by
       unfold mk
       rw [if_pos (by constructor <;> omega),Int.toNat_natCast]
     rw [hm]
     simp [h1,h2]
def ca (n:Nat) (l:List Int):List Nat:=(List.range n).filter (mem l)
def liN (L:List Nat):List Int:=L.map Int.ofNat
theorem nr {p:Nat→Bool} {c:Nat}:∀ (d:Nat),(∀ j,c≤j→j < c + d→p j=false)→(List.range (c + d)).filter p=(List.range c).filter p
 | 0,_=>rfl
 | d + 1,h=>by
   rw [← Nat.add_assoc,List.range_succ,List.filter_append,nr d (fun j h1 h2=>h j h1 (by omega))]
   simp [h (c + d) (by omega) (by omega)]
theorem nj (p:Nat→Bool) (c:Nat):((List.range c).filter p).length≤c:=by
 have:=List.length_filter_le p (List.range c)
 simpa using this
theorem yV {n:Nat} {l:List Int} (h:Ds n l) {body:Int×List Int→Option ((Int×List Int)⊕List Int)}
   (hb:∀ (c:List Int) (k:Nat),mem l k=true→body ((k:Int),c)=(app c [(k:Int)]).bind fun z=>(cH (some ((n:Int),l)) ((k:Int) + 1)).bind fun i=>some (.inl (i,z))) (he:∀ c,body (-1,c)=some (.inr c)) :
   ∃ r,cH (some ((n:Int),l)) 0=some r∧loop body (r,[])=some (liN (ca n l)):=by
 have hn:=h.hn
 have lt_of:∀ k,mem l k=true→k < n:=fun k hk=>by
   rcases Nat.lt_or_ge k n with h1 | h1
   . exact h1
   . rw [h.top k h1] at hk; cases hk
 have key:∀ (r:Int) (acc:List Int),(∃ c:Nat,c≤n∧acc=liN ((List.range c).filter (mem l))∧((r = -1∧∀ j:Nat,(c:Int)≤(j:Int)→mem l j=false)∨∃ k:Nat,r=(k:Int)∧(c:Int)≤(k:Int)∧mem l k=true∧∀ j:Nat,(c:Int)≤(j:Int)→j < k→mem l j=false)) →
     loop body (r,acc)=some (liN (ca n l)):=by
   intro r acc hI
   refine wA (fun s=>∃ c:Nat,c≤n∧s.2=liN ((List.range c).filter (mem l))∧((s.1 = -1∧∀ j:Nat,(c:Int)≤(j:Int)→mem l j=false)∨∃ k:Nat,s.1=(k:Int)∧(c:Int)≤(k:Int)∧mem l k=true∧∀ j:Nat,(c:Int)≤(j:Int)→j < k→mem l j=false)) (fun s=>if s.1 < 0 then 0 else n + 1 - s.1.toNat) ?_ (s:=(r,acc)) hI
   rintro ⟨r,acc⟩ ⟨c,hcn,rfl,hr⟩
   rcases hr with ⟨rfl,h2⟩ | ⟨k,rfl,h2,h3,h4⟩
   . right
     have e:ca n l=(List.range c).filter (mem l):=by
       unfold ca
       have:=nr (p:=mem l) (c:=c) (n - c) (fun j h1 _=>h2 j (by omega))
       rw [show c + (n - c)=n by omega] at this
       exact this
     rw [e]
     exact he _
   . left
     have hk:=lt_of k h3
     obtain ⟨r',g1,g2⟩:=wh h (((k + 1:Nat):Int))
     have e1:(k:Int) + 1=((k + 1:Nat):Int):=rfl
     have e2:(List.range (k + 1)).filter (mem l)=(List.range c).filter (mem l)++[k]:=by
       have:=nr (p:=mem l) (c:=c) (k - c) (fun j h5 h6=>h4 j (by omega) (by omega))
       rw [show c + (k - c)=k by omega] at this
       rw [List.range_succ,List.filter_append,this]
       simp [h3]
     have e3:app (liN ((List.range c).filter (mem l))) [(k:Int)]=some (liN ((List.range (k + 1)).filter (mem l))):=by
       have:=nj (mem l) c
       unfold app
       rw [if_pos (by simp [liN]; omega),e2]
       simp [liN]
     refine ⟨(r',liN ((List.range (k + 1)).filter (mem l))),?_,⟨k + 1,by omega,rfl,g2⟩,?_⟩
     . rw [hb _ k h3]
       simp only [e3,e1,g1,Option.bind_some]
     . show (if r' < 0 then 0 else n + 1 - r'.toNat) < (if (k:Int) < 0 then 0 else n + 1 - (k:Int).toNat)
       rw [if_neg (by omega:¬ (k:Int) < 0),Int.toNat_natCast]
       rcases g2 with ⟨rfl,_⟩ | ⟨k',rfl,k1,k2,_⟩
       . simp; omega
       . rw [if_neg (by omega:¬ (k':Int) < 0),Int.toNat_natCast]
         have:=lt_of k' k2
         omega
 obtain ⟨r,g1,g2⟩:=wh h 0
 exact ⟨r,g1,key r [] ⟨0,Nat.zero_le n,rfl,g2⟩⟩
theorem EA {n:Nat} {l:List Int} (h:Ds n l) (k:Nat):bX (some ((n:Int),l)) (k:Int)=some (mem l k):=by
 rw [nI h,Int.toNat_natCast]
 cases hm:mem l k with
 | false=>simp
 | true =>
   have:k < n:=by
     rcases Nat.lt_or_ge k n with h1 | h1
     . exact h1
     . rw [h.top k h1] at hm; cases hm
   simp [this]
def pc:Nat→Nat→Nat
 | 0,_=>0
 | n + 1,x=>(x % 2) + pc n (x / 2)
theorem kz (a b y M:Nat) (ha:a < 256) (hb:b < 256):(a + 256 * y) &&& (b + 256 * M)=(a &&& b) + 256 * (y &&& M):=by
 have h1:a &&& b < 256:=Nat.and_lt_two_pow (n:=8) a hb
 apply Nat.eq_of_testBit_eq
 intro i
 have e:∀ (u v:Nat),u < 256→(u + 256 * v).testBit i=if i < 8 then u.testBit i else v.testBit (i - 8):=fun u v hu=>by
   rw [Nat.add_comm,show 256 * v=2 ^ 8 * v from rfl,Nat.testBit_two_pow_mul_add v (show u < 2 ^ 8 from hu)]
 rw [Nat.testBit_and,e a y ha,e b M hb,e _ _ h1]
 split <;> simp [Nat.testBit_and]
theorem nH (P:Nat→Bool) (h:(List.range 256).all P=true) {a:Nat} (ha:a < 256):P a=true:=List.all_eq_true.1 h a (List.mem_range.2 ha)
def s1 (M x:Nat):Nat:=((x / 2) &&& M) + (x &&& M)
def s2 (M x:Nat):Nat:=((x / 4) &&& M) + (x &&& M)
def s3 (M x:Nat):Nat:=(x / 16 + x) &&& M
theorem DO (a y M:Nat) (ha:a < 256):s1 (85 + 256 * M) (a + 256 * y)=s1 85 a + 256 * s1 M y:=by
 unfold s1
 have h2:(a + 256 * y) / 2=(a / 2 + 128 * (y % 2)) + 256 * (y / 2):=by omega
 have h3:(a / 2 + 128 * (y % 2)) &&& 85=(a / 2) &&& 85:=by
   have h4:y % 2=0∨y % 2=1:=by omega
   rcases h4 with h4 | h4
   . rw [h4]; rfl
   . rw [h4]
     have:=nH (fun a=>decide (((a / 2 + 128 * 1) &&& 85)=((a / 2) &&& 85))) (by decide +kernel) ha
     exact of_decide_eq_true this
 rw [kz a 85 y M ha (by decide),h2,kz _ 85 _ M (by omega) (by decide),h3]
 omega
theorem FX {a:Nat} (ha:a < 256):s1 85 a < 256:=by
 have:=nH (fun a=>decide (s1 85 a < 256)) (by decide +kernel) ha
 exact of_decide_eq_true this
theorem El (a y M:Nat) (ha:a < 256):s2 (51 + 256 * M) (a + 256 * y)=s2 51 a + 256 * s2 M y:=by
 unfold s2
 have h2:(a + 256 * y) / 4=(a / 4 + 64 * (y % 4)) + 256 * (y / 4):=by omega
 have h3:(a / 4 + 64 * (y % 4)) &&& 51=(a / 4) &&& 51:=by
   have h4:y % 4=0∨y % 4=1∨y % 4=2∨y % 4=3:=by omega
   have:=nH (fun a=>decide (((a / 4 + 64 * 1) &&& 51)=((a / 4) &&& 51)∧((a / 4 + 64 * 2) &&& 51)=((a / 4) &&& 51)∧((a / 4 + 64 * 3) &&& 51)=((a / 4) &&& 51))) (by decide +kernel) ha
   have:=of_decide_eq_true this
   rcases h4 with h4 | h4 | h4 | h4 <;> rw [h4]
   . rfl
   . exact this.1
   . exact this.2.1
   . exact this.2.2
 rw [kz a 51 y M ha (by decide),h2,kz _ 51 _ M (by omega) (by decide),h3]
 omega
theorem xH {a:Nat} (ha:a < 256):((s2 51 (s1 85 a)) / 16 + (s2 51 (s1 85 a)) % 16)=pc 8 a∧(s2 51 (s1 85 a)) % 16≤4∧(s2 51 (s1 85 a)) / 16≤4∧s2 51 (s1 85 a) < 256∧pc 8 a≤8:=by
 have:=nH (fun a=>decide (((s2 51 (s1 85 a)) / 16 + (s2 51 (s1 85 a)) % 16)=pc 8 a∧(s2 51 (s1 85 a)) % 16≤4∧(s2 51 (s1 85 a)) / 16≤4∧s2 51 (s1 85 a) < 256∧pc 8 a≤8)) (by decide +kernel) ha
 exact of_decide_eq_true this
theorem Ej (a y M:Nat) (ha:a < 256) (h1:a % 16≤4) (h2:a / 16≤4) (h3:y % 16≤4):s3 (15 + 256 * M) (a + 256 * y)=(a / 16 + a % 16) + 256 * s3 M y:=by
 unfold s3
 have e:(a + 256 * y) / 16 + (a + 256 * y)=(a / 16 + a % 16 + 16 * (a / 16 + y % 16)) + 256 * (y / 16 + y):=by omega
 rw [e,kz _ 15 _ M (by omega) (by decide)]
 have:(a / 16 + a % 16 + 16 * (a / 16 + y % 16)) &&& 15=a / 16 + a % 16:=by
   rw [show (15:Nat)=2 ^ 4 - 1 from rfl,Nat.and_two_pow_sub_one_eq_mod]
   omega
 rw [this]
theorem zi:∀ (n m x:Nat),pc (n + m) x=pc n x + pc m (x / 2 ^ n)
 | 0,m,x=>by simp [pc]
 | n + 1,m,x=>by
   rw [show n + 1 + m=(n + m) + 1 by omega,show pc ((n + m) + 1) x=x % 2 + pc (n + m) (x / 2) from rfl,show pc (n + 1) x=x % 2 + pc n (x / 2) from rfl]
   rw [zi n m,Nat.div_div_eq_div_mul,Nat.pow_succ,Nat.mul_comm 2]
   omega
theorem GK (a y:Nat) (ha:a < 256):pc 8 (a + 256 * y)=pc 8 a:=by
 unfold pc pc pc pc pc pc pc pc pc
 omega
def dU:Nat→Nat→Nat
 | _,0=>0
 | b,n + 1=>b + 256 * dU b n
def pcs:Nat→Nat→Nat
 | 0,_=>0
 | n + 1,x=>pc 8 (x % 256) + 256 * pcs n (x / 256)
theorem Ir (n:Nat):∀ x,x < 256 ^ n→s3 (dU 15 n) (s2 (dU 51 n) (s1 (dU 85 n) x))=pcs n x∧(s2 (dU 51 n) (s1 (dU 85 n) x)) % 16≤4:=by
 induction n with
 | zero => intro x hx; have : x = 0 := by simp at hx; omega
           subst this; decide
 | succ n ih =>
   intro x hx
   have hx2:x / 256 < 256 ^ n:=by
     rw [Nat.pow_succ] at hx
     exact Nat.div_lt_of_lt_mul (by rw [Nat.mul_comm]; exact hx)
   obtain ⟨i1,i2⟩:=ih _ hx2
   have ha:x % 256 < 256:=Nat.mod_lt _ (by decide)
   obtain ⟨b1,b2,b3,b4,b5⟩:=xH ha
   have e:x=x % 256 + 256 * (x / 256):=by omega
   unfold dU
   have e1:s1 (85 + 256 * dU 85 n) x=s1 85 (x % 256) + 256 * s1 (dU 85 n) (x / 256):=by
     conv=>lhs; rw [e]
     exact DO _ _ _ ha
   rw [e1,El _ _ _ (FX ha),Ej _ _ _ b4 b2 b3 i2,i1,b1]
   refine ⟨rfl,?_⟩
   omega
theorem EF (x:Nat) (hx:x < 18446744073709551616):s3 1085102592571150095 (s2 3689348814741910323 (s1 6148914691236517205 x))=pcs 8 x :=
 (Ir 8 x hx).1
theorem HC (x:Nat):∃ p0 p1 p2 p3 p4 p5 p6 p7:Nat,pcs 8 x=p0 + 256 * (p1 + 256 * (p2 + 256 * (p3 + 256 * (p4 + 256 * (p5 + 256 * (p6 + 256 * (p7 + 256 * 0)))))))∧pc 64 x=p0 + p1 + p2 + p3 + p4 + p5 + p6 + p7∧p0≤8∧p1≤8∧p2≤8∧p3≤8∧p4≤8∧p5≤8∧p6≤8∧p7≤8:=by
 have h:∀ y,pc 8 (y % 256)≤8:=fun y=>(xH (Nat.mod_lt y (by decide))).2.2.2.2
 have g:∀ m y,pc (8 + m) y=pc 8 (y % 256) + pc m (y / 256):=fun m y=>by
   rw [zi 8 m]
   congr 1
   conv=>lhs; rw [show y=y % 256 + 256 * (y / 256) by omega]
   exact GK _ _ (Nat.mod_lt _ (by decide))
 refine ⟨_,_,_,_,_,_,_,_,rfl,?_,h _,h _,h _,h _,h _,h _,h _,h _⟩
 rw [show (64:Nat)=8 + (8 + (8 + (8 + (8 + (8 + (8 + (8 + 0))))))) from rfl,g,g,g,g,g,g,g,g]
 simp only [pc]
 omega
theorem dv {k L R x:Nat} (hk:0 < k) (h:x=L + k * R) (hL:L < k):x / k=R:=by
 rw [h,Nat.add_mul_div_left _ _ hk,Nat.div_eq_of_lt hL,Nat.zero_add]
theorem JD {y z u v s:Nat} {p0 p1 p2 p3 p4 p5 p6 p7:Nat} (hy:y=p0 + 256 * (p1 + 256 * (p2 + 256 * (p3 + 256 * (p4 + 256 * (p5 + 256 * (p6 + 256 * (p7 + 256 * 0)))))))) (hs:s=p0 + p1 + p2 + p3 + p4 + p5 + p6 + p7) (h0:p0≤8) (h1:p1≤8) (h2:p2≤8) (h3:p3≤8) (h4:p4≤8) (h5:p5≤8) (h6:p6≤8) (h7:p7≤8)
   (hz:z=y + y / 256) (hu:u=z + z / 65536) (hv:v=u + u / 4294967296):v % 128=s∧v < 9223372036854775808:=by
 have e1:y / 256=p1 + 256 * (p2 + 256 * (p3 + 256 * (p4 + 256 * (p5 + 256 * (p6 + 256 * p7))))):=dv (L:=p0) (by decide) (by rw [hy]; rfl) (by omega)
 rw [e1,hy] at hz
 have e2:z / 65536=(p2 + p3) + 256 * ((p3 + p4) + 256 * ((p4 + p5) + 256 * ((p5 + p6) + 256 * ((p6 + p7) + 256 * p7)))):=dv (L:=(p0 + p1) + 256 * (p1 + p2)) (by decide) (by rw [hz]; clear hz hu hv hy e1; omega) (by clear hz hu hv hy e1; omega)
 rw [e2,hz] at hu
 clear e1 e2 hz hy
 have e3:u / 4294967296=(p4 + p5 + p6 + p7) + 256 * ((p5 + p6 + p7) + 256 * ((p6 + p7) + 256 * p7)):=dv (L:=(p0 + p1 + p2 + p3) + 256 * ((p1 + p2 + p3 + p4) + 256 * ((p2 + p3 + p4 + p5) + 256 * (p3 + p4 + p5 + p6)))) (by decide) (by rw [hu]; clear hu hv; omega) (by clear hu hv; omega)
 rw [e3,hu] at hv
 clear e3 hu
 refine ⟨?_,by omega⟩
 have:v=s + 128 * (2 * ((p1+p2+p3+p4 + (p5+p6+p7)) + 256 * ((p2+p3+p4+p5 + (p6+p7)) + 256 * ((p3+p4+p5+p6 + p7) + 256 * ((p4+p5+p6+p7) + 256 * ((p5+p6+p7) + 256 * ((p6+p7) + 256 * p7))))))):=by rw [hv,hs]; clear hv hs; omega
 rw [this,Nat.add_mul_mod_self_left]
 exact Nat.mod_eq_of_lt (by omega)

def ocA (x m:Int):Int:=IntKind.wrap .u64 ((BitVec.ofInt (IntKind.bits .u64) x &&& BitVec.ofInt (IntKind.bits .u64) m).toNat:Int)
def ocS (x:Int) (k:Nat):Int:=Int.fdiv x (2 ^ (min k (IntKind.bits .u64)))
def oc1 (x:Int):Int:=IntKind.wrap .u64 (ocA (ocS x 1) 6148914691236517205 + ocA x 6148914691236517205)
def oc2 (x:Int):Int:=IntKind.wrap .u64 (ocA (ocS x 2) 3689348814741910323 + ocA x 3689348814741910323)
def oc3 (x:Int):Int:=ocA (IntKind.wrap .u64 (ocS x 4 + x)) 1085102592571150095
def oc4 (x:Int):Int:=IntKind.wrap .u64 (x + ocS x 8)
def oc5 (x:Int):Int:=IntKind.wrap .u64 (x + ocS x 16)
def oc6 (x:Int):Int:=IntKind.wrap .u64 (x + ocS x 32)
theorem C6 (x:Int):lP x=some (IntKind.wrap .i64 ((BitVec.ofInt (IntKind.bits .i64) (IntKind.wrap .i64 (oc6 (oc5 (oc4 (oc3 (oc2 (oc1 x))))))) &&& BitVec.ofInt (IntKind.bits .i64) 127).toNat:Int)):=rfl
theorem k8 (x m:Nat) (M:Int) (hM:M=(m:Int)) (hx:x < 18446744073709551616) (hm:m < 18446744073709551616):ocA (x:Int) M=((x &&& m:Nat):Int):=by
 rw [hM]
 exact Af x m hx hm
theorem iQ (x k:Nat) (hk:k < 64):ocS (x:Int) k=((x / 2 ^ k:Nat):Int):=by
 unfold ocS
 have h1:min k (IntKind.bits .u64)=k:=Nat.min_eq_left (Nat.le_of_lt hk)
 have hp:((2:Int) ^ k)=((2 ^ k:Nat):Int):=by simp
 rw [h1,hp,Int.fdiv_eq_ediv_of_nonneg _ (Int.natCast_nonneg _)]
 rfl
theorem eP (x m:Nat):x &&& m≤m:=Nat.and_le_right
theorem Gy (x:Nat) (hx:x < 18446744073709551616):oc1 (x:Int)=((s1 6148914691236517205 x:Nat):Int):=by
 unfold oc1 s1
 rw [iQ x 1 (by decide),k8 (x / 2 ^ 1) 6148914691236517205 6148914691236517205 rfl (by omega) (by decide),k8 x 6148914691236517205 6148914691236517205 rfl hx (by decide),← Int.natCast_add]
 have b1:=eP (x / 2 ^ 1) 6148914691236517205
 have b2:=eP x 6148914691236517205
 exact cX _ (by omega)
theorem F7 (x:Nat) (hx:x < 18446744073709551616):oc2 (x:Int)=((s2 3689348814741910323 x:Nat):Int):=by
 unfold oc2 s2
 rw [iQ x 2 (by decide),k8 (x / 2 ^ 2) 3689348814741910323 3689348814741910323 rfl (by omega) (by decide),k8 x 3689348814741910323 3689348814741910323 rfl hx (by decide),← Int.natCast_add]
 have b1:=eP (x / 2 ^ 2) 3689348814741910323
 have b2:=eP x 3689348814741910323
 exact cX _ (by omega)
theorem GL (z:Nat) (hz:z≤7378697629483820646):oc3 (z:Int)=((s3 1085102592571150095 z:Nat):Int):=by
 unfold oc3 s3
 rw [iQ z 4 (by decide),← Int.natCast_add,cX _ (by omega),k8 _ 1085102592571150095 1085102592571150095 rfl (by omega) (by decide)]
theorem IA (x:Nat):s1 6148914691236517205 x < 18446744073709551616:=by
 have b1:=eP (x / 2) 6148914691236517205
 have b2:=eP x 6148914691236517205
 unfold s1; omega
theorem IR (x:Nat):s2 3689348814741910323 x≤7378697629483820646:=by
 have b1:=eP (x / 4) 3689348814741910323
 have b2:=eP x 3689348814741910323
 unfold s2; omega
theorem Gv (w:Nat) (h:w + w / 256 < 18446744073709551616):oc4 (w:Int)=((w + w / 256:Nat):Int):=by
 unfold oc4
 rw [iQ w 8 (by decide),← Int.natCast_add]
 exact cX _ h
theorem Ge (w:Nat) (h:w + w / 65536 < 18446744073709551616):oc5 (w:Int)=((w + w / 65536:Nat):Int):=by
 unfold oc5
 rw [iQ w 16 (by decide),← Int.natCast_add]
 exact cX _ h
theorem Gi (w:Nat) (h:w + w / 4294967296 < 18446744073709551616):oc6 (w:Int)=((w + w / 4294967296:Nat):Int):=by
 unfold oc6
 rw [iQ w 32 (by decide),← Int.natCast_add]
 exact cX _ h
theorem GB (v:Nat) (h:v < 9223372036854775808):IntKind.wrap .i64 ((BitVec.ofInt (IntKind.bits .i64) (IntKind.wrap .i64 (v:Int)) &&& BitVec.ofInt (IntKind.bits .i64) 127).toNat:Int)=((v % 128:Nat):Int):=by
 rw [w64 (x:=(v:Int)) (by omega) (by omega)]
 show IntKind.wrap .i64 ((BitVec.ofInt 64 (v:Int) &&& BitVec.ofInt 64 ((127:Nat):Int)).toNat:Int)=_
 rw [eC,eC,BitVec.toNat_and,BitVec.toNat_ofNat,BitVec.toNat_ofNat,Nat.mod_eq_of_lt (by omega),Nat.mod_eq_of_lt (by decide),show (127:Nat)=2 ^ 7 - 1 from rfl,Nat.and_two_pow_sub_one_eq_mod]
 exact w64 (by omega) (by omega)
theorem D8 (w s:Nat) (h:∃ p0 p1 p2 p3 p4 p5 p6 p7:Nat,w=p0 + 256 * (p1 + 256 * (p2 + 256 * (p3 + 256 * (p4 + 256 * (p5 + 256 * (p6 + 256 * (p7 + 256 * 0)))))))∧s=p0 + p1 + p2 + p3 + p4 + p5 + p6 + p7∧p0≤8∧p1≤8∧p2≤8∧p3≤8∧p4≤8∧p5≤8∧p6≤8∧p7≤8) :
   IntKind.wrap .i64 ((BitVec.ofInt (IntKind.bits .i64) (IntKind.wrap .i64 (oc6 (oc5 (oc4 (w:Int))))) &&& BitVec.ofInt (IntKind.bits .i64) 127).toNat:Int)=((s:Nat):Int):=by
 obtain ⟨p0,p1,p2,p3,p4,p5,p6,p7,q,qs,c0,c1,c2,c3,c4,c5,c6,c7⟩:=h
 obtain ⟨r1,r2⟩:=JD q qs c0 c1 c2 c3 c4 c5 c6 c7 rfl rfl rfl
 clear q qs c0 c1 c2 c3 c4 c5 c6 c7
 generalize h1:w + w / 256=w1 at *
 generalize h2:w1 + w1 / 65536=w2 at *
 generalize h3:w2 + w2 / 4294967296=w3 at *
 rw [Gv w (by omega),h1,Ge w1 (by omega),h2,Gi w2 (by omega),h3,GB w3 r2,r1]
theorem FP (x:Nat) (hx:x < 18446744073709551616):lP (x:Int)=some ((pc 64 x:Nat):Int):=by
 rw [C6,Gy x hx,F7 _ (IA x),GL _ (IR _),EF x hx]
 exact congrArg some (D8 _ _ (HC x))
theorem rf:∀ (n x:Nat),pc n x=((List.range n).filter (fun i=>x.testBit i)).length
 | 0,_=>rfl
 | n + 1,x=>by
   have e:(fun i=>x.testBit i) ∘ Nat.succ=fun i=>(x / 2).testBit i:=funext fun i=>by
     show x.testBit (i + 1)=_
     rw [Nat.testBit_succ]
   rw [show pc (n + 1) x=x % 2 + pc n (x / 2) from rfl,rf n (x / 2),List.range_succ_eq_map,List.filter_cons,List.filter_map,e]
   have h0:x.testBit 0=decide (x % 2=1):=Nat.testBit_zero x
   rw [h0]
   by_cases h:x % 2=1
   . rw [if_pos (decide_eq_true h),List.length_cons,List.length_map,h]
     omega
   . rw [if_neg (by simpa using h),List.length_map]
     omega
def cE (l:List Int):Nat:=(l.map fun w=>pc 64 w.toNat).sum
theorem mem_cons (w:Int) (l:List Int) (i:Nat):mem (w :: l) i=if i < 64 then w.toNat.testBit i else mem l (i - 64):=by
 unfold mem
 by_cases h:i < 64
 . rw [if_pos h,Nat.div_eq_of_lt h,Nat.mod_eq_of_lt h]
   rfl
 . rw [if_neg h,show i / 64=(i - 64) / 64 + 1 by omega,show i % 64=(i - 64) % 64 by omega]
   rfl
theorem yq:∀ l:List Int,((List.range (64 * l.length)).filter (mem l)).length=cE l
 | []=>rfl
 | w :: l=>by
   rw [show 64 * (w :: l).length=64 + 64 * l.length by simp; omega,List.range_add,List.filter_append,List.length_append,List.filter_map,List.length_map]
   have e1:(List.range 64).filter (mem (w :: l))=(List.range 64).filter (fun i=>w.toNat.testBit i):=List.filter_congr fun i hi=>by
     rw [mem_cons,if_pos (List.mem_range.1 hi)]
   have e2:(mem (w :: l)) ∘ (64 + ·)=mem l:=funext fun i=>by
     show mem (w :: l) (64 + i)=_
     rw [mem_cons,if_neg (by omega),Nat.add_sub_cancel_left]
   rw [e1,e2,yq l,← rf]
   simp [cE]
theorem Er {n:Nat} {l:List Int} (h:Ds n l):(ca n l).length=cE l:=by
 have hl:=h.len
 rw [← yq]
 have:=nr (p:=mem l) (c:=n) (64 * l.length - n) (fun j h1 _=>h.top j h1)
 rw [show n + (64 * l.length - n)=64 * l.length by omega] at this
 rw [this]
 rfl
theorem Jf (n x:Nat):pc n x≤n:=by
 rw [rf]; exact nj _ _
theorem vJ {l:List Int} {k:Nat} (hk:k < l.length):cE (l.take (k + 1))=cE (l.take k) + pc 64 (l[k]).toNat:=by
 unfold cE
 rw [aO hk,List.map_append,List.sum_append]
 simp
theorem qY {n:Nat} {l:List Int} (h:Ds n l):eh (some ((n:Int),l))=some (((ca n l).length:Nat):Int):=by
 have hn:=h.hn
 have hl:=h.len
 have hb:∀ k,k≤l.length→cE (l.take k)≤64 * k:=fun k=>by
   induction k with
   | zero=>intro _; simp [cE]
   | succ k ih =>
     intro hk
     have:=ih (by omega)
     have h2:=Jf 64 (l[k]).toNat
     rw [vJ (by omega:k < l.length)]
     omega
 unfold eh
 have hlp:loop (jH ((n:Int),l)) ((0:Int),(0:Int))=some ((cE l:Nat):Int):=by
   have:=aQ (body:=jH ((n:Int),l)) (fun k:Nat=>(((cE (l.take k):Nat):Int),(k:Int))) l.length (b:=((cE l:Nat):Int)) ?_ ?_
   . exact this
   . intro k hk
     unfold jH
     have hw:=h.wd _ (List.getElem_mem hk)
     unfold Wd at hw
     obtain ⟨x,hx⟩:=Int.eq_ofNat_of_zero_le hw.1
     have ho:=FP x (by omega)
     rw [← hx] at ho
     have hp:l[k].toNat=x:=by omega
     have h1:=hb k (by omega)
     have h2:=hb (k + 1) (by omega)
     have e:cE (l.take (k + 1))=cE (l.take k) + pc 64 x:=by
       rw [vJ hk,hp]
     simp only [dlt hk,cond_true,ah hk,ho,Option.bind_some]
     rw [aq hk (by omega),e,w64 (by omega) (by omega),← Int.natCast_add]
   . unfold jH
     simp
 simp only [Option.isNone_some,cond_false,Option.bind_some]
 rw [hlp,Er h]
 rfl
section
structure Qr {α:Type} (ring:List α) (f m:Int) (l:List α):Prop where
 m_:m=((l.length:Nat):Int)
 f0:0≤f
 fl:(ring=[]∧f=0)∨f < ((ring.length:Nat):Int)
 le:l.length≤ring.length
 sz:ring.length≤1000000
 at_:∀ i x,l[i]? = some x→ring[(f.toNat + i) % ring.length]? = some x
theorem Qr.nil {α:Type}:Qr ([]:List α) 0 0 []:=⟨rfl,Int.le_refl 0,.inl ⟨rfl,rfl⟩,Nat.le_refl _,by simp,fun i x h=>by simp at h⟩
section
variable {α β:Type} {ring:List α} {f m:Int} {l:List α}
theorem CV (z:α) (a:List α) (k:Nat) (h:a.length≤k):cpy (List.replicate k z) 0 (a.take k)=a++List.replicate (k - a.length) z:=by
 unfold cpy
 rw [List.take_of_length_le h]
 simp
theorem C8 (z:α) (h0:0≤f) (h1:f≤((ring.length:Nat):Int)) (hs:ring.length≤1000000) (K:List α→Option β) :
   (mk (IntKind.wrap .i64 ((IntKind.wrap .i64 (2 * (((ring.length:Nat):Int)))) + 1)) (IntKind.wrap .i64 ((IntKind.wrap .i64 (2 * (((ring.length:Nat):Int)))) + 1)) z:Option (List α)).bind (fun z15=>(subL ring f (((ring.length:Nat):Int))).bind fun _=>(some (cpy z15 ((0:Int).toNat) ((List.drop (f:Int).toNat (List.take (((ring.length:Nat):Int):Int).toNat ring)).take (z15.length - (0:Int).toNat)))).bind fun z20=>(subL z20 (((min (List.drop (f:Int).toNat (List.take (((ring.length:Nat):Int):Int).toNat ring)).length (z15.length - (0:Int).toNat):Nat):Int)) (((z15.length:Nat):Int))).bind fun _=>(subL ring 0 f).bind fun _=>(some (cpy z20 ((((min (List.drop (f:Int).toNat (List.take (((ring.length:Nat):Int):Int).toNat ring)).length (z15.length - (0:Int).toNat):Nat):Int):Int).toNat) ((List.drop (0:Int).toNat (List.take (f:Int).toNat ring)).take (((((z15.length:Nat):Int):Int).toNat) - (((min (List.drop (f:Int).toNat (List.take (((ring.length:Nat):Int):Int).toNat ring)).length (z15.length - (0:Int).toNat):Nat):Int):Int).toNat)))).bind fun z22=>K z22)
     = K (ring.drop f.toNat++(ring.take f.toNat++List.replicate (ring.length + 1) z)):=by
 have w1:IntKind.wrap .i64 (2 * (((ring.length:Nat):Int)))=2 * ((ring.length:Nat):Int):=w64 (by omega) (by omega)
 have w2:IntKind.wrap .i64 (2 * ((ring.length:Nat):Int) + 1)=((2 * ring.length + 1:Nat):Int):=by rw [w64 (by omega) (by omega)]; omega
 obtain ⟨k,rfl⟩:=Int.eq_ofNat_of_zero_le h0
 have hk:k≤ring.length:=by omega
 have hmk:mk ((2 * ring.length + 1:Nat):Int) ((2 * ring.length + 1:Nat):Int) z=some (List.replicate (2 * ring.length + 1) z):=by
   unfold mk
   rw [if_pos ⟨by omega,Int.le_refl _,by omega⟩,Int.toNat_natCast]
 rw [w1,w2,hmk]
 simp only [Option.bind_some,Int.toNat_natCast,Int.toNat_zero,List.take_length,Nat.sub_zero,List.length_replicate,List.drop_zero,List.length_drop]
 have hmin:min (ring.length - k) (2 * ring.length + 1)=ring.length - k:=by omega
 rw [hmin,kN (by omega) (by omega) (by omega)]
 simp only [Option.bind_some]
 have hl:(ring.drop k).length≤2 * ring.length + 1:=by rw [List.length_drop]; omega
 rw [CV z (ring.drop k) _ hl,kN (by omega) (by omega) (by simp; omega),kN (by omega) (by omega) (by omega)]
 simp only [Option.bind_some,Int.toNat_natCast]
 congr 1
 unfold cpy
 have hd:(ring.drop k).length=ring.length - k:=List.length_drop
 have ht:(ring.take k).length=k:=by rw [List.length_take]; omega
 rw [List.take_of_length_le (l:=ring.take k) (by rw [ht]; omega),ht,List.take_append_of_le_length (by rw [hd]; exact Nat.le_refl _),List.take_of_length_le (l:=ring.drop k) (by rw [hd]; exact Nat.le_refl _),List.drop_append,List.drop_of_length_le (l:=ring.drop k) (by rw [hd]; omega),hd,List.nil_append,List.drop_replicate]
 congr 3
 omega
theorem Qr.grow (z:α) (h:Qr ring f m l) (he:m=((ring.length:Nat):Int)) (hl:l.length≤10000):Qr (ring.drop f.toNat++(ring.take f.toNat++List.replicate (ring.length + 1) z)) 0 m l∧l.length < (ring.drop f.toNat++(ring.take f.toNat++List.replicate (ring.length + 1) z)).length:=by
 have hn:l.length=ring.length:=by have:=h.m_; omega
 have hf:f.toNat≤ring.length:=by rcases h.fl with ⟨h1,h2⟩ | h1 <;> omega
 have hlen:(ring.drop f.toNat++(ring.take f.toNat++List.replicate (ring.length + 1) z)).length=2 * ring.length + 1:=by simp; omega
 refine ⟨⟨h.m_,Int.le_refl 0,.inr (by rw [hlen]; omega),by rw [hlen]; omega,by rw [hlen]; omega,fun i x hx=>?_⟩,by rw [hlen]; omega⟩
 have hi:i < l.length:=(List.getElem?_eq_some_iff.1 hx).1
 have h1:=h.at_ i x hx
 rw [hlen,Int.toNat_zero,Nat.zero_add,Nat.mod_eq_of_lt (by omega)]
 by_cases hc:f.toNat + i < ring.length
 . rw [Nat.mod_eq_of_lt hc] at h1
   rw [List.getElem?_append_left (by rw [List.length_drop]; omega),List.getElem?_drop]
   exact h1
 . rw [Nat.mod_eq_sub_mod (by omega),Nat.mod_eq_of_lt (by omega)] at h1
   rw [List.getElem?_append_right (by rw [List.length_drop]; omega),List.length_drop,List.getElem?_append_left (by rw [List.length_take]; omega),List.getElem?_take,if_pos (by omega)]
   rw [← h1]
   congr 1
   omega
theorem wL (a b:Nat):Int.tmod (a:Int) (b:Int)=((a % b:Nat):Int):=rfl
theorem Qr.push (x:α) (h:Qr ring f m l) (hl:l.length < ring.length):Int.tmod (IntKind.wrap .i64 (f + m)) ((ring.length:Nat):Int)=(((f.toNat + l.length) % ring.length:Nat):Int)∧(f.toNat + l.length) % ring.length < ring.length∧IntKind.wrap .i64 (m + 1)=((l.length + 1:Nat):Int)∧Qr (ring.set ((f.toNat + l.length) % ring.length) x) f ((l.length + 1:Nat):Int) (l++[x]):=by
 have hm:=h.m_
 have hf:=h.f0
 have hs:=h.sz
 have hfl:f < ((ring.length:Nat):Int):=by rcases h.fl with ⟨h1,_⟩ | h1; (subst h1; simp at hl); exact h1
 have hp:0 < ring.length:=by omega
 have hlt:=Nat.mod_lt (f.toNat + l.length) hp
 refine ⟨?_,hlt,?_,⟨by simp,hf,.inr (by rw [List.length_set]; exact hfl),by rw [List.length_set]; simp; omega,by rw [List.length_set]; exact hs,fun i y hy=>?_⟩⟩
 . rw [hm,w64 (by omega) (by omega)]
   obtain ⟨k,rfl⟩:=Int.eq_ofNat_of_zero_le hf
   rw [← Int.natCast_add]
   exact wL _ _
 . rw [hm,w64 (by omega) (by omega)]; omega
 . rw [List.length_set,List.getElem?_set]
   rcases Nat.lt_trichotomy i l.length with hi | hi | hi
   . rw [List.getElem?_append_left hi] at hy
     have hne:¬ (f.toNat + l.length) % ring.length=(f.toNat + i) % ring.length:=fun e=>by
       have hf':f.toNat < ring.length:=by omega
       by_cases c1:f.toNat + l.length < ring.length
       . rw [Nat.mod_eq_of_lt c1,Nat.mod_eq_of_lt (by omega)] at e; omega
       . rw [Nat.mod_eq_sub_mod (by omega),Nat.mod_eq_of_lt (by omega)] at e
         by_cases c2:f.toNat + i < ring.length
         . rw [Nat.mod_eq_of_lt c2] at e; omega
         . rw [Nat.mod_eq_sub_mod (by omega),Nat.mod_eq_of_lt (by omega)] at e; omega
     rw [if_neg hne]
     exact h.at_ i y hy
   . subst hi
     rw [List.getElem?_append_right (Nat.le_refl _),Nat.sub_self] at hy
     rw [if_pos rfl,if_pos hlt]
     simpa using hy
   . rw [List.getElem?_eq_none (by simp; omega)] at hy; cases hy
theorem Qr.pop (z x:α) {l':List α} (h:Qr ring f m (x :: l')):m≠0∧aa ring f=some x∧nz ((ring.length:Nat):Int)=some ()∧IntKind.wrap .i64 (m - 1)=((l'.length:Nat):Int)∧Qr (ring.set f.toNat z) (Int.tmod (IntKind.wrap .i64 (f + 1)) ((ring.length:Nat):Int)) ((l'.length:Nat):Int) l':=by
 have hm:=h.m_
 have hf:=h.f0
 have hs:=h.sz
 have hle:=h.le
 simp only [List.length_cons] at hm hle
 have hfl:f < ((ring.length:Nat):Int):=by rcases h.fl with ⟨h1,_⟩ | h1; (subst h1; simp at hle); exact h1
 have h0:=h.at_ 0 x rfl
 rw [Nat.add_zero,Nat.mod_eq_of_lt (by omega)] at h0
 have hmod:Int.tmod (IntKind.wrap .i64 (f + 1)) ((ring.length:Nat):Int)=(((f.toNat + 1) % ring.length:Nat):Int):=by
   rw [w64 (by omega) (by omega)]
   obtain ⟨k,rfl⟩:=Int.eq_ofNat_of_zero_le hf
   exact wL (k + 1) _
 refine ⟨by omega,by unfold aa; rw [if_pos hf]; exact h0,tN (by omega),by rw [w64 (by omega) (by omega)]; omega,?_⟩
 rw [hmod]
 have hlt:=Nat.mod_lt (f.toNat + 1) (show 0 < ring.length by omega)
 refine ⟨rfl,by omega,.inr (by rw [List.length_set]; omega),by rw [List.length_set]; omega,by rw [List.length_set]; exact hs,fun i y hy=>?_⟩
 have hi:i < l'.length:=(List.getElem?_eq_some_iff.1 hy).1
 have h1:=h.at_ (i + 1) y (by simpa using hy)
 rw [List.length_set,Int.toNat_natCast,List.getElem?_set]
 have e1:((f.toNat + 1) % ring.length + i) % ring.length=(f.toNat + (i + 1)) % ring.length:=by
   rw [Nat.mod_add_mod]; congr 1; omega
 rw [e1]
 have hne:¬ f.toNat=(f.toNat + (i + 1)) % ring.length:=fun e=>by
   by_cases c:f.toNat + (i + 1) < ring.length
   . rw [Nat.mod_eq_of_lt c] at e; omega
   . rw [Nat.mod_eq_sub_mod (by omega),Nat.mod_eq_of_lt (by omega)] at e; omega
 rw [if_neg hne]
 exact h1
end
end
section
section
variable {ring:List (Int)} {f m:Int} {l:List (Int)}
end
section
variable {ring:List (Int)} {f m:Int} {l:List (Int)}
theorem Cx {w:(Option (List ((Int)×Int)))} (h0:0≤f) (h1:f≤((ring.length:Nat):Int)) (hs:ring.length≤1000000):lI ring f m w=some (ring.drop f.toNat++(ring.take f.toNat++List.replicate (ring.length + 1) 0),w):=by
 unfold lI
 exact C8 0 h0 h1 hs (fun z=>some (z,w))
theorem BT {w:(Option (List ((Int)×Int)))} (xb:List (Int)) (i:Nat) (hi:i < xb.length) (hx:xb.length≤10000) (h:Qr ring f m l) (hl:l.length≤10000):∃ r f',gJ xb ((i:Int),ring,f,m,w)=some (.inl (((i + 1:Nat):Int),r,f',((l.length + 1:Nat):Int),w))∧Qr r f' ((l.length + 1:Nat):Int) (l++[xb[i]]):=by
 have hf:=h.f0
 have hfl:f≤((ring.length:Nat):Int):=by rcases h.fl with ⟨h1,h2⟩ | h1 <;> omega
 have hle:=h.le
 have hm:=h.m_
 by_cases hc:m=((ring.length:Nat):Int)
 . obtain ⟨hq,hq2⟩:=Qr.grow 0 h hc hl
   have hg:=Cx (w:=w) (m:=m) hf hfl h.sz
   generalize (ring.drop f.toNat++(ring.take f.toNat++List.replicate (ring.length + 1) 0))=r at hq hq2 hg
   obtain ⟨p1,p2,p3,p4⟩:=hq.push xb[i] hq2
   rw [Int.zero_add] at p1
   refine ⟨_,0,?_,p4⟩
   unfold gJ
   simp only [dlt hi,cond_true,ah hi,Option.bind_some,hc,decide_true]
   rw [← hc,hg]
   simp only [Option.bind_some,Int.zero_add]
   rw [tN (by omega)]
   simp only [Option.bind_some,p1,ah p2,Int.toNat_natCast,p3,aq hi (by omega)]
 . have hq2:l.length < ring.length:=by omega
   obtain ⟨p1,p2,p3,p4⟩:=h.push xb[i] hq2
   refine ⟨_,f,?_,p4⟩
   unfold gJ
   simp only [dlt hi,cond_true,ah hi,Option.bind_some,hc,decide_false,cond_false]
   rw [tN (by omega)]
   simp only [Option.bind_some,p1,ah p2,Int.toNat_natCast,p3,aq hi (by omega)]
theorem Cv {w:(Option (List ((Int)×Int)))} (xb:List (Int)) (h:Qr ring f m l) (hl:l.length + xb.length≤10000):∃ r f',lH xb ring f m w=some (r,f',((l.length + xb.length:Nat):Int),w)∧Qr r f' ((l.length + xb.length:Nat):Int) (l++xb):=by
 obtain ⟨b,h1,h2⟩:=b0 (body:=gJ xb) (fun s=>∃ k:Nat,k≤xb.length∧s.1=(k:Int)∧s.2.2.2.1=((l.length + k:Nat):Int)∧Qr s.2.1 s.2.2.1 s.2.2.2.1 (l++xb.take k)∧w=s.2.2.2.2) (fun s=>xb.length - s.1.toNat) (Q:=fun b=>∃ r f',b=(r,f',((l.length + xb.length:Nat):Int),w)∧Qr r f' ((l.length + xb.length:Nat):Int) (l++xb)) (fun s hs=>by
   obtain ⟨i,r,f',m',w'⟩:=s
   obtain ⟨k,hk,e1,e2,hq,hw⟩:=hs
   dsimp only at e1 e2 hq hw
   subst e1 hw
   by_cases hc:k < xb.length
   . obtain ⟨r2,f2,g1,g2⟩:=BT (w:=w) xb k hc (by omega) hq (by simp; omega)
     refine .inl ⟨_,g1,⟨k + 1,hc,rfl,by simp; omega,?_,rfl⟩,by dsimp only; rw [Int.toNat_natCast,Int.toNat_natCast]; omega⟩
     have e3:l++xb.take (k + 1)=(l++xb.take k)++[xb[k]]:=by rw [aO hc,List.append_assoc]
     dsimp only
     rw [e3]
     exact g2
   . obtain rfl:k=xb.length:=by omega
     refine .inr ⟨(r,f',m',w),?_,r,f',by rw [e2],?_⟩
     . unfold gJ
       simp only [dge hc,cond_false]
     . rw [← e2]; simpa using hq) (s:=(0,ring,f,m,w)) ⟨0,Nat.zero_le _,rfl,by simpa using h.m_,by simpa using h,rfl⟩
 obtain ⟨r,f',rfl,hq⟩:=h2
 refine ⟨r,f',?_,hq⟩
 unfold lH
 rw [h1]
 rfl
theorem CD {w:(Option (List ((Int)×Int)))} {x:Int} (h:Qr ring f m (x :: l)):∃ r f',lJ ring f m w=some (x,true,r,f',((l.length:Nat):Int),w)∧Qr r f' ((l.length:Nat):Int) l:=by
 obtain ⟨h1,h2,h3,h4,h5⟩:=h.pop 0 x
 refine ⟨_,_,?_,h5⟩
 unfold lJ jC
 simp only [Option.bind_some,h1,decide_false,cond_false,h2,h3,h4]
end
section
variable {ring:List (List UInt8)} {f m:Int} {l:List (List UInt8)}
end
section
variable {ring:List (List UInt8)} {f m:Int} {l:List (List UInt8)}
end
end
section
section
variable {α:Type} [DecidableEq α]
theorem Eb (k:α) (x:Option (List (α×Int))):gt k x = !decide (aD k (x.getD []) > 0):=by cases x <;> rfl
theorem DM (k:α) (x:Option (List (α×Int))):cW k x=if aD k (x.getD []) > 0 then x.getD [] else bI k (wrap64 (aD k (x.getD []) + 1)) (x.getD []):=by cases x <;> rfl
structure Wr (ring:List α) (f m:Int) (w:Option (List (α×Int))) (l:List α):Prop where
 q:Qr ring f m l
 nd:l.Nodup
 ks:((w.getD []).map (·.1)).Nodup
 c:∀ k,aD k (w.getD [])=if k∈l then 1 else 0
theorem Wr.nil:Wr ([]:List α) 0 0 none []:=⟨Qr.nil,List.nodup_nil,List.nodup_nil,fun k=>rfl⟩
end
section
variable {ring:List (Int)} {f m:Int} {l:List (Int)} {w:Option (List ((Int)×Int))}
theorem Dc (k:Int) (h:Wr ring f m w l) (hl:l.length≤9000):∃ r f' w',cF k ring f m w=some (!decide (k∈l),r,f',(((if k∈l then l else l++[k]).length:Nat):Int),w')∧Wr r f' (((if k∈l then l else l++[k]).length:Nat):Int) w' (if k∈l then l else l++[k]):=by
 have hc:=h.c k
 unfold cF rm
 rw [Eb,DM]
 by_cases hk:k∈l
 . rw [if_pos hk] at hc
   have hm:=h.q.m_
   simp only [hc,if_pos hk,hk,decide_true,Bool.not_true,Option.bind_some,show (1:Int) > 0 by omega,if_true,Bool.not_false,cond_true]
   rw [hm]
   exact ⟨_,_,_,rfl,⟨hm ▸ h.q,h.nd,by simpa using h.ks,by simpa using h.c⟩⟩
 . rw [if_neg hk] at hc
   have h0:¬ ((0:Int) > 0):=by omega
   have h1:wrap64 (0 + 1)=1:=IntWalk.wrap64_in (0 + 1) (by decide)
   obtain ⟨r,f',g1,g2⟩:=Cv (w:=some (bI k 1 (w.getD []))) [k] h.q (by simp; omega)
   simp only [hc,if_neg hk,hk,decide_false,Bool.not_false,Option.bind_some,h0,h1,if_false,Bool.not_true,cond_false]
   rw [g1]
   refine ⟨r,f',some (bI k 1 (w.getD [])),?_,⟨?_,?_,?_,fun k'=>?_⟩⟩
   . simp
   . simpa using g2
   . exact List.nodup_append.2 ⟨h.nd,by simp,fun a ha b hb e=>by simp at hb; subst hb; subst e; exact hk ha⟩
   . exact vV k 1 _ h.ks
   . show aD k' (bI k 1 (w.getD []))=_
     rw [xj,h.c k']
     by_cases h2:k'=k <;> simp [h2]
theorem CS {x:Int} (h:Wr ring f m w (x :: l)):∃ r f' w',fw ring f m w=some (x,true,r,f',((l.length:Nat):Int),w')∧Wr r f' ((l.length:Nat):Int) w' l:=by
 obtain ⟨r,f',g1,g2⟩:=CD (w:=w) h.q
 refine ⟨r,f',w.map (bF x),?_,⟨g2,(List.nodup_cons.1 h.nd).2,?_,fun k=>?_⟩⟩
 . unfold fw
   rw [g1]
   rfl
 . cases w with
   | none=>exact List.nodup_nil
   | some w=>exact (wk x w h.ks).1
 . have hx:=(List.nodup_cons.1 h.nd).1
   have hc:=h.c k
   cases w with
   | none =>
     have hx0:=h.c x
     rw [if_pos (by simp)] at hx0
     exact absurd (show (0:Int)=1 from hx0) (by decide)
   | some w =>
     show aD k (bF x w)=_
     have hc:aD k w=_:=hc
     rw [wZ x k w h.ks,hc]
     by_cases h2:k=x
     . subst h2; simp [hx]
     . simp [h2]
theorem DB (h:Wr ring f m w l):fv ring f m w=some (((l.length:Nat):Int),ring,w):=by
 unfold fv jC
 rw [h.q.m_]; rfl
end
section
variable {ring:List (List UInt8)} {f m:Int} {l:List (List UInt8)} {w:Option (List ((List UInt8)×Int))}
end
end
section
abbrev Sw:=Option (Int×List Int)
theorem yu {n:Nat} {l:List Int} (h:Ds n l) {k:Nat} (hk:mem l k=true):k < n:=by
 rcases Nat.lt_or_ge k n with h1 | h1
 . exact h1
 . rw [h.top k h1] at hk; cases hk
theorem EW {n:Nat} {l:List Int} (h:Ds n l):gP (some ((n:Int),l))=some (liN (ca n l)):=by
 have hn:=h.hn
 obtain ⟨r,g1,g2⟩:=yV h (body:=p9 (some ((n:Int),l))) (fun c k hk=>by
   have:=yu h hk
   unfold p9
   dsimp only
   rw [show decide (0≤(k:Int))=true by simp,cond_true,w64 (by omega) (by omega)]) (fun c=>rfl)
 unfold gP
 rw [show gY (some ((n:Int),l))=some () from rfl,Option.bind_some,g1,Option.bind_some,g2]; rfl
theorem s9 {α:Type} (n:Nat) (z:α) (h:n≤1073741824):mk (n:Int) (n:Int) z=some (List.replicate n z):=by
 unfold mk
 rw [if_pos ⟨by omega,Int.le_refl _,by omega⟩,Int.toNat_natCast]
section
variable {P:Pts} {N:Nat} {E:ArG}
abbrev bks (N:Nat) (E:ArG):List (List Int):=(List.range N).map fun v=>li (nxt (tn E) v)
theorem Do (hn:N≤1048576) (he:E.length≤67108864):m4 (flG P N E) (N:Int)=some (bks N E):=by
 unfold m4
 rw [s9 N ([]:List Int) (by omega),Option.bind_some]
 have hl:=aQ (body:=mH (flG P N E) (List.replicate N [])) (fun k:Nat=>((List.range N).map (fun v=>if v < k then li (nxt (tn E) v) else []),(k:Int))) N (b:=bks N E) ?_ ?_
 . have e:(List.replicate N ([]:List Int))=(List.range N).map (fun v=>if v < 0 then li (nxt (tn E) v) else []):=by
     rw [zP]; exact jq fun v _=>by simp
   rw [show ((List.replicate N ([]:List Int)),(0:Int))=((List.range N).map (fun v=>if v < 0 then li (nxt (tn E) v) else []),((0:Nat):Int)) by rw [← e]; rfl,hl]; rfl
 . intro k hk
   unfold mH
   simp only [List.length_replicate,dlt hk,cond_true,CA hn he hk,Option.bind_some,pz hk,Int.toNat_natCast,uv,aq hk (by omega:N≤9223372036854775807)]
   congr 3
   refine jq fun v _=>?_
   by_cases h1:v=k
   . subst h1; simp
   . have:v < k + 1↔v < k:=by omega
     simp [h1,this]
 . unfold mH
   simp only [List.length_replicate,dge (show ¬ N < N by omega),cond_false]
   congr 2
   exact jq fun v hv=>by simp [hv]
end
section
variable {N:Nat} {E:ArG}
theorem Ef (hN:N≤1000) {Wn:List Nat} (hl:Wn.length≤1000000) {l0:List Int} (h0:Ds N l0) (hz:∀ j,mem l0 j=false) (hw:∀ n∈Wn,n < N) :
   ∃ l',loop (jQ (li Wn) (N:Int)) (0,l0)=some l'∧Ds N l'∧∀ j,mem l' j=decide (j∈Wn):=by
 obtain ⟨b,h1,h2⟩:=b0 (body:=jQ (li Wn) (N:Int)) (fun s=>∃ k:Nat,k≤Wn.length∧s.1=(k:Int)∧Ds N s.2∧∀ j,mem s.2 j=decide (j∈Wn.take k)) (fun s=>Wn.length - s.1.toNat) (Q:=fun b=>Ds N b∧∀ j,mem b j=decide (j∈Wn)) (fun s hs=>by
   obtain ⟨i,l⟩:=s
   obtain ⟨k,hk,rfl,hd,hm⟩:=hs
   dsimp only at hd hm ⊢
   by_cases hc:k < Wn.length
   . obtain ⟨l',g1,g2,g3⟩:=nE hd ((Wn[k]:Nat):Int)
     refine .inl ⟨(((k + 1:Nat):Int),l'),?_,⟨k + 1,hc,rfl,g2,fun j=>?_⟩,by dsimp only; omega⟩
     . unfold jQ
       simp only [bT,dlt hc,cond_true,iF hc,Option.bind_some,g1,aq hc (by omega:Wn.length≤9223372036854775807)]
     . have:=hw _ (List.getElem_mem hc)
       rw [g3,hm,aO hc,Int.toNat_natCast]
       rw [Bool.eq_iff_iff]
       simp only [Bool.or_eq_true,decide_eq_true_eq,List.mem_append,List.mem_singleton]
       constructor
       . rintro (h | ⟨_,h⟩)
         . exact .inl h
         . exact .inr h.symm
       . rintro (h | h)
         . exact .inl h
         . exact .inr ⟨⟨by omega,by omega⟩,h.symm⟩
   . obtain rfl:k=Wn.length:=by omega
     refine .inr ⟨l,?_,hd,fun j=>by rw [hm,List.take_length]⟩
     unfold jQ
     simp only [bT,dge hc,cond_false]) (s:=(0,l0)) ⟨0,Nat.zero_le _,rfl,h0,fun j=>by simp [hz]⟩
 exact ⟨b,h1,h2⟩
theorem Gm {L:List Nat} {n:Nat}:(n:Int)∈li L↔n∈L:=by
 unfold li
 rw [List.mem_map]
 constructor
 . rintro ⟨a,h,e⟩
   have:a=n:=by exact_mod_cast e
   exact this ▸ h
 . exact fun h=>⟨n,h,rfl⟩
theorem B2 {L:List Nat} {k:Nat} (h:L.Nodup) (hk:k < L.length):L[k]∉L.take k:=by
 have h2:(L.take (k + 1)).Nodup:=h.sublist (List.take_sublist _ _)
 rw [aO hk,List.nodup_append] at h2
 exact fun hm=>h2.2.2 _ hm _ (List.mem_singleton.2 rfl) rfl
theorem wS {ring:List Int} {f m:Int} {l:List Int} {w:Option (List (Int×Int))} {k:Nat} {L:List Nat} (h:Wr ring f m w (li L)) (hk:k∉L) (hl:L.length≤9000) :
   ∃ r f' m' w',cF (k:Int) ring f m w=some (true,r,f',m',w')∧Wr r f' m' w' (li (L++[k])):=by
 obtain ⟨r,f',w',g1,g2⟩:=Dc (k:Int) h (by rw [bT]; exact hl)
 have hn:¬ ((k:Int)∈li L):=fun h=>hk (Gm.1 h)
 rw [if_neg hn] at g1 g2
 rw [show decide ((k:Int)∈li L)=false from decide_eq_false hn] at g1
 have e:li (L++[k])=li L++[(k:Int)]:=by simp [li]
 exact ⟨r,f',_,w',g1,by rw [e]; exact g2⟩
theorem EM (hN:N≤1000) {Rn:List Nat} (hR:Rn.Nodup) {l0:List Int} (h0:Ds N l0) (hz:∀ j,mem l0 j=false) (hr:∀ n∈Rn,n < N) :
   ∃ l' r f m w,loop (jN (li Rn) (N:Int)) (0,l0,[],0,0,none)=some (l',r,f,m,w)∧Ds N l'∧(∀ j,mem l' j=decide (j∈Rn))∧Wr r f m w (li Rn):=by
 have hl:Rn.length≤N:=sd hR hr
 obtain ⟨b,h1,h2⟩:=b0 (body:=jN (li Rn) (N:Int)) (fun s=>∃ k:Nat,k≤Rn.length∧s.1=(k:Int)∧Ds N s.2.1∧(∀ j,mem s.2.1 j=decide (j∈Rn.take k))∧Wr s.2.2.1 s.2.2.2.1 s.2.2.2.2.1 s.2.2.2.2.2 (li (Rn.take k))) (fun s=>Rn.length - s.1.toNat) (Q:=fun b=>Ds N b.1∧(∀ j,mem b.1 j=decide (j∈Rn))∧Wr b.2.1 b.2.2.1 b.2.2.2.1 b.2.2.2.2 (li Rn)) (fun s hs=>by
   obtain ⟨i,l,ring,f,m,w⟩:=s
   obtain ⟨k,hk,rfl,hd,hm,hw⟩:=hs
   dsimp only at hd hm hw ⊢
   by_cases hc:k < Rn.length
   . obtain ⟨l',g1,g2,g3⟩:=nE hd ((Rn[k]:Nat):Int)
     obtain ⟨r',f',m',w',g4,g5⟩:=wS (l:=[]) hw (B2 hR hc) (by rw [List.length_take]; omega)
     refine .inl ⟨(((k + 1:Nat):Int),l',r',f',m',w'),?_,⟨k + 1,hc,rfl,g2,fun j=>?_,by rw [aO hc]; exact g5⟩,by dsimp only; omega⟩
     . unfold jN
       simp only [bT,dlt hc,cond_true,iF hc,Option.bind_some,g1,g4,aq hc (by omega:Rn.length≤9223372036854775807)]
     . have:=hr _ (List.getElem_mem hc)
       dsimp only
       rw [g3,hm,aO hc,Int.toNat_natCast]
       rw [Bool.eq_iff_iff]
       simp only [Bool.or_eq_true,decide_eq_true_eq,List.mem_append,List.mem_singleton]
       constructor
       . rintro (h | ⟨_,h⟩)
         . exact .inl h
         . exact .inr h.symm
       . rintro (h | h)
         . exact .inl h
         . exact .inr ⟨⟨by omega,by omega⟩,h.symm⟩
   . obtain rfl:k=Rn.length:=by omega
     refine .inr ⟨(l,ring,f,m,w),?_,hd,fun j=>by rw [hm,List.take_length],by rw [List.take_length] at hw; exact hw⟩
     unfold jN
     simp only [bT,dge hc,cond_false]) (s:=(0,l0,[],0,0,none)) ⟨0,Nat.zero_le _,rfl,h0,fun j=>by simp [hz],Wr.nil⟩
 obtain ⟨l',r,f,m,w⟩:=b
 exact ⟨l',r,f,m,w,h1,h2⟩
theorem nY {W:Nat→Bool} {s:(Nat→Bool)×List Nat} {u:Nat} (h:¬ (s.1 u=false∧W u=false)):stW W s u=s:=if_neg h
theorem yf {W:Nat→Bool} {s:(Nat→Bool)×List Nat} {u:Nat} (h:s.1 u=false∧W u=false):stW W s u=(cb s.1 u,s.2++[u]):=if_pos h
theorem Dd {R W:Nat→Bool} (hE:inN N E) (hN:N≤1000) {St:List Int} (hS:Ds N St) (hW:∀ j,mem St j=W j) {A:List Nat} {v:Nat} (hA:∀ u∈A,(u,v)∈E) (hAl:A.length≤1000000)
   (hv:Lv E N R W v) {V:Nat→Bool} {Q:List Nat} (hV:∀ n,V n=true→Lv E N R W n) (hQ:∀ n∈Q,V n=true) (hQd:Q.Nodup) {fd ring:List Int} {f m:Int} {w:Option (List (Int×Int))}
   (hd:Ds N fd) (hm:∀ j,mem fd j=V j) (hw:Wr ring f m w (li Q)) :
   ∃ fd' r' f' m' w',loop (fB (N:Int) St (N:Int) (li A)) (0,fd,ring,f,m,w)=some (fd',r',f',m',w')∧Ds N fd'∧(∀ j,mem fd' j=(A.foldl (stW W) (V,Q)).1 j)∧Wr r' f' m' w' (li (A.foldl (stW W) (V,Q)).2):=by
 have hF:∀ k,k≤A.length→(∀ n∈((A.take k).foldl (stW W) (V,Q)).2,((A.take k).foldl (stW W) (V,Q)).1 n=true)∧((A.take k).foldl (stW W) (V,Q)).2.length≤N:=fun k hk=>by
   obtain ⟨_,i2,i3,i4,_⟩:=nL hE hv (A.take k) V Q (fun u hu=>hA u (List.mem_of_mem_take hu)) hV hQ hQd
   exact ⟨i3,sd i4 (fun x hx=>Lv.lt hE (i2 x (i3 x hx)))⟩
 obtain ⟨b,h1,h2⟩:=b0 (body:=fB (N:Int) St (N:Int) (li A)) (fun s=>∃ k:Nat,k≤A.length∧s.1=(k:Int)∧Ds N s.2.1∧(∀ j,mem s.2.1 j=((A.take k).foldl (stW W) (V,Q)).1 j)∧Wr s.2.2.1 s.2.2.2.1 s.2.2.2.2.1 s.2.2.2.2.2 (li ((A.take k).foldl (stW W) (V,Q)).2)) (fun s=>A.length - s.1.toNat) (Q:=fun b=>Ds N b.1∧(∀ j,mem b.1 j=(A.foldl (stW W) (V,Q)).1 j)∧Wr b.2.1 b.2.2.1 b.2.2.2.1 b.2.2.2.2 (li (A.foldl (stW W) (V,Q)).2)) (fun s hs=>by
   obtain ⟨i,l,ring,f,m,w⟩:=s
   obtain ⟨k,hk,rfl,hd,hm,hw⟩:=hs
   dsimp only at hd hm hw ⊢
   by_cases hc:k < A.length
   . have hu:=hA _ (List.getElem_mem hc)
     have huN:=(hE _ hu).1
     dsimp only at huN
     obtain ⟨hq,hql⟩:=hF k hk
     have eF:(A.take (k + 1)).foldl (stW W) (V,Q)=stW W ((A.take k).foldl (stW W) (V,Q)) A[k]:=by rw [aO hc,List.foldl_append]; rfl
     have hHas:bX (some ((N:Int),St)) ((A[k]:Nat):Int)=some (W A[k]):=by rw [EA hS,hW]
     have hw1:IntKind.wrap .i64 ((k:Int) + 1)=((k + 1:Nat):Int):=aq hc (by omega)
     obtain ⟨l',g1,g2,g3⟩:=nE hd ((A[k]:Nat):Int)
     rw [hm,Int.toNat_natCast,show decide ((0:Int)≤((A[k]:Nat):Int)∧((A[k]:Nat):Int) < (N:Int))=true from decide_eq_true ⟨by omega,by omega⟩,Bool.true_and] at g1
     left
     cases hWk:W A[k] with
     | true =>
       refine ⟨(((k + 1:Nat):Int),l,ring,f,m,w),?_,⟨k + 1,hc,rfl,hd,?_,?_⟩,by dsimp only; omega⟩
       . unfold fB
         simp only [bT,dlt hc,cond_true,iF hc,Option.bind_some,hHas,hWk,Bool.not_true,cond_false,hw1]
       . rw [eF,nY (by simp [hWk])]; exact hm
       . rw [eF,nY (by simp [hWk])]; exact hw
     | false =>
       cases hVk:((A.take k).foldl (stW W) (V,Q)).1 A[k] with
       | true =>
         rw [hVk] at g1
         refine ⟨(((k + 1:Nat):Int),l',ring,f,m,w),?_,⟨k + 1,hc,rfl,g2,?_,?_⟩,by dsimp only; omega⟩
         . unfold fB
           simp only [bT,dlt hc,cond_true,iF hc,Option.bind_some,hHas,hWk,Bool.not_false,g1,Bool.not_true,cond_false,hw1]
         . intro j
           rw [eF,nY (by simp [hVk])]
           dsimp only
           rw [g3,hm,Int.toNat_natCast]
           by_cases e:A[k]=j
           . subst e; rw [hVk]; rfl
           . simp [e]
         . rw [eF,nY (by simp [hVk])]; exact hw
       | false =>
         rw [hVk] at g1
         have hnq:A[k]∉((A.take k).foldl (stW W) (V,Q)).2:=fun h=>by rw [hq _ h] at hVk; cases hVk
         obtain ⟨r',f',m',w',g4,g5⟩:=wS (l:=[]) hw hnq (by omega)
         refine ⟨(((k + 1:Nat):Int),l',r',f',m',w'),?_,⟨k + 1,hc,rfl,g2,?_,?_⟩,by dsimp only; omega⟩
         . unfold fB
           simp only [bT,dlt hc,cond_true,iF hc,Option.bind_some,hHas,hWk,Bool.not_false,g1,g4,hw1]
         . intro j
           rw [eF,yf ⟨hVk,hWk⟩]
           dsimp only [cb]
           rw [g3,hm,Int.toNat_natCast]
           congr 1
           rw [decide_eq_decide]
           exact ⟨fun h=>h.2.symm,fun h=>⟨⟨by omega,by omega⟩,h.symm⟩⟩
         . rw [eF,yf ⟨hVk,hWk⟩]; exact g5
   . obtain rfl:k=A.length:=by omega
     rw [List.take_length] at hm hw
     refine .inr ⟨(l,ring,f,m,w),?_,hd,hm,hw⟩
     unfold fB
     simp only [bT,dge hc,cond_false]) (s:=(0,fd,ring,f,m,w)) ⟨0,Nat.zero_le _,rfl,hd,hm,hw⟩
 obtain ⟨l',r,f,m,w⟩:=b
 exact ⟨l',r,f,m,w,h1,h2⟩
end
section
variable {N:Nat} {E:ArG}
abbrev fb (L:List Nat):Nat→Bool:=fun n=>decide (n∈L)
theorem Ct (hE:inN N E) (hN:N≤1000) (hEl:E.length≤1000000) {Rn Wn:List Nat} (hR:Rn.Nodup) (hr:∀ n∈Rn,n < N) (hw:∀ n∈Wn,n < N) (hwl:Wn.length≤1000000) :
   ∃ l',mV (bks N E) (li Rn) (li Wn)=some (.inr ((N:Int),l'))∧Ds N l'∧∀ n,mem l' n=true↔Lv E N (fb Rn) (fb Wn) n:=by
 have hz:=sO ((N + 63) / 64)
 have hD:=yI (n:=N) (by omega)
 obtain ⟨St,s1,s2,s3⟩:=Ef hN hwl hD hz hw
 obtain ⟨F0,r0,f0,m0,w0,t1,t2,t3,t4⟩:=EM hN hR hD hz hr
 have hNew:ew (((bks N E).length:Nat):Int)=some (.inr (0,(N:Int),List.replicate ((N + 63) / 64) 0)):=by
   rw [show (bks N E).length=N by simp,w7,if_neg (by omega),if_neg (by omega)]; rfl
 have hV0:∀ n,mem F0 n=true→Lv E N (fb Rn) (fb Wn) n:=fun n hn=>by
   rw [t3,decide_eq_true_eq] at hn
   exact .rd (hr n hn) (decide_eq_true hn)
 obtain ⟨b,h1,h2⟩:=b0 (body:=mn (bks N E) (N:Int) St (N:Int)) (fun s=>∃ Q:List Nat,Ds N s.1∧Wr s.2.1 s.2.2.1 s.2.2.2.1 s.2.2.2.2 (li Q)∧(∀ n,mem s.1 n=true→Lv E N (fb Rn) (fb Wn) n)∧(∀ n∈Q,mem s.1 n=true)∧Q.Nodup∧(∀ v,mem s.1 v=true→v∈Q∨M8 E (fb Wn) (mem s.1) v)∧∀ n∈Rn,mem s.1 n=true)
   (fun s=>2 * cz N (mem s.1) + s.2.2.2.1.toNat) (Q:=fun b=>Ds N b∧∀ n,mem b n=true↔Lv E N (fb Rn) (fb Wn) n) (fun s hs=>by
   obtain ⟨fd,ring,f,m,w⟩:=s
   obtain ⟨Q,hd,hq,hV,hQ,hQd,hC,hRn⟩:=hs
   dsimp only at hd hq hV hQ hC hRn ⊢
   have hlen:=DB hq
   have hm:=hq.q.m_
   cases Q with
   | nil =>
     refine .inr ⟨fd,?_,hd,fun n=>⟨hV n,fun h=>Lv.least (V:=mem fd) (fun n _ hn=>hRn n (by simpa using hn)) (fun a ha hc=>?_) h⟩⟩
     . unfold mn
       simp only [hlen,Option.bind_some,show (li ([]:List Nat)).length=0 from rfl,show decide ((0:Int) < ((0:Nat):Int))=false from rfl,cond_false]
     . rcases hC _ hc.2.1 with h1 | h1
       . cases h1
       . have:=h1 a.1 ha hc.2.2
         rw [hc.1] at this; cases this
   | cons v Q =>
     have hvV:=hQ v (List.mem_cons_self ..)
     have hvN:=yu hd hvV
     have hLv:=hV v hvV
     have hli:li (v :: Q)=(v:Int) :: li Q:=rfl
     rw [hli] at hq
     obtain ⟨r1,f1,w1,p1,p2⟩:=CS hq
     have hA:∀ u∈nxt (tn E) v,(u,v)∈E:=fun u hu=>by rw [iN,zh] at hu; exact hu
     have hAl:(nxt (tn E) v).length≤1000000:=by
       unfold nxt; rw [List.length_map]
       have:=rh ((tn E).map (·.1)) v
       rw [List.length_map,Gk] at this; omega
     have hQd':=(List.nodup_cons.1 hQd)
     have hQ':∀ n∈Q,mem fd n=true:=fun n hn=>hQ n (List.mem_cons_of_mem _ hn)
     obtain ⟨fd',r',f',m',w',g1,g2,g3,g4⟩:=Dd (R:=fb Rn) (W:=fb Wn) hE hN s2 s3 hA hAl hLv hV hQ' hQd'.2 hd (fun _=>rfl) p2
     obtain ⟨i1,i2,i3,i4,i5,i6,i7,i8⟩:=nL (R:=fb Rn) hE hLv (nxt (tn E) v) (mem fd) Q hA hV hQ' hQd'.2
     have e3:mem fd'=((nxt (tn E) v).foldl (stW (fb Wn)) (mem fd,Q)).1:=funext g3
     rw [← e3] at i1 i2 i3 i5 i7 i8
     refine .inl ⟨(fd',r',f',m',w'),?_,⟨((nxt (tn E) v).foldl (stW (fb Wn)) (mem fd,Q)).2,g2,g4,i2,i3,i4,fun u hu=>?_,fun n hn=>i1 n (hRn n hn)⟩,?_⟩
     . have hgt:decide ((0:Int) < (((li (v :: Q)).length:Nat):Int))=true:=by rw [hli]; simp
       have hb:aa (bks N E) (v:Int)=some (li (nxt (tn E) v)):=pz hvN
       rw [hli] at hlen hgt
       unfold mn
       simp only [hlen,Option.bind_some,hgt,cond_true,p1,hb,g1]
     . rcases i5 u hu with h | h
       . rcases hC u h with h | h
         . rcases List.mem_cons.1 h with rfl | h
           . exact .inr (fun x hx hwx=>i7 x (iN.2 (zh.2 hx)) hwx)
           . exact .inl (i6 u h)
         . exact .inr (fun x hx hwx=>i1 x (h x hx hwx))
       . exact .inl h
     . have hm':=g4.q.m_
       dsimp only
       rw [hm',hm,hli,bT,Int.toNat_natCast,Int.toNat_natCast,List.length_cons,bT]
       omega) (s:=(F0,r0,f0,m0,w0)) ⟨Rn,t2,t4,hV0,fun n hn=>by rw [t3]; exact decide_eq_true hn,hR,fun v hv => .inl (by rw [t3,decide_eq_true_eq] at hv; exact hv),fun n hn=>by rw [t3]; exact decide_eq_true hn⟩
 refine ⟨b,?_,h2⟩
 unfold mV
 rw [hNew]
 simp only [Option.bind_some,s1,t1,h1]
end
end
section
abbrev NB (b:Bo):Nat:=bg (xs b) (xs b).length
def rN (P:List Tc) (l:Nat):List Nat:=(List.range P.length).filter (fun n=>decide ((l:Int)∈(P.getD n ([],[])).1))
def wN (P:List Tc) (l:Nat):List Nat:=(List.range P.length).filter (fun n=>decide ((l:Int)∈(P.getD n ([],[])).2))
theorem yL {P:List Tc} {l n:Nat} (hn:n < P.length):n∈rN P l↔(l:Int)∈P[n].1:=by
 unfold rN
 rw [List.mem_filter,List.mem_range,cx hn,decide_eq_true_eq]
 exact ⟨fun h=>h.2,fun h=>⟨hn,h⟩⟩
theorem zb {P:List Tc} {l n:Nat} (hn:n < P.length):n∈wN P l↔(l:Int)∈P[n].2:=by
 unfold wN
 rw [List.mem_filter,List.mem_range,cx hn,decide_eq_true_eq]
 exact ⟨fun h=>h.2,fun h=>⟨hn,h⟩⟩
theorem GY (P:List Tc) (l:Nat):(rN P l).Nodup:=List.nodup_range.filter _
theorem HZ {P:List Tc} {l n:Nat} (h:n∈rN P l):n < P.length:=List.mem_range.1 (List.mem_filter.1 h).1
theorem I3 {P:List Tc} {l n:Nat} (h:n∈wN P l):n < P.length:=List.mem_range.1 (List.mem_filter.1 h).1
theorem Gs (P:List Tc) (l:Nat):(wN P l).length≤P.length:=by
 have:=List.length_filter_le (fun n=>decide ((l:Int)∈(P.getD n ([],[])).2)) (List.range P.length)
 simpa [wN] using this
def LvS (b:Bo) (l:Nat):Nat→Prop:=Lv (c9 (xs b)) (NB b) (fb (rN (pts (xs b)) l)) (fb (wN (pts (xs b)) l))
def lvB (b:Bo) (l n:Nat):Bool:=@decide (LvS b l n) (Classical.propDecidable _)
theorem eL {b:Bo} {l n:Nat}:lvB b l n=true↔LvS b l n:=by unfold lvB; exact @decide_eq_true_iff _ (Classical.propDecidable _)
theorem yd (b:Bo):inN (NB b) (c9 (xs b)):=n4 (xs b) _ (Nat.le_refl _)
theorem oG {b:Bo} {l n:Nat} (h:lvB b l n=true):n < NB b:=Lv.lt (yd b) (eL.1 h)
theorem EQ {E:List (Nat×Nat)} {N:Nat} {W:Nat→Bool} {n:Nat}:¬ Lv E N (fb []) W n:=fun h=>by
 have:=Lv.least (V:=fun _=>false) (fun n _ hn=>by simp at hn) (fun a ha hc=>by cases hc.2.1) h
 cases this
def SlotOk (b:Bo) (l:Nat) (s:Sw):Prop:=(s=none∧∀ n,¬ LvS b l n)∨∃ w,s=some ((NB b:Int),w)∧Ds (NB b) w∧∀ n,mem w n=true↔LvS b l n
theorem SlotOk.has {b:Bo} {l:Nat} {s:Sw} (h:SlotOk b l s) (p:Int):bX s p=some (decide (0≤p)&&lvB b l p.toNat):=by
 rcases h with ⟨rfl,h⟩ | ⟨w,rfl,hd,h⟩
 . have:lvB b l p.toNat=false:=by
     cases e:lvB b l p.toNat with
     | true=>exact absurd (eL.1 e) (h _)
     | false=>rfl
   rw [this,Bool.and_false]
   unfold bX ef mr
   by_cases q:0≤p
   . simp [q,show ¬ p < 0 by omega]
   . simp [q]
 . rw [nI hd]
   congr 1
   have e:mem w p.toNat=lvB b l p.toNat:=by rw [Bool.eq_iff_iff,h,eL]
   rw [e]
   cases q:lvB b l p.toNat with
   | false=>simp
   | true =>
     have:=oG q
     rw [Bool.and_true,Bool.and_true,decide_eq_decide]
     constructor
     . exact fun h=>h.1
     . exact fun h=>⟨h,by omega⟩
structure CsOk (b:Bo) (C:List Sw):Prop where
 z:NB b=0→C=[]
 len:0 < NB b→C.length=b.2.2.2.1.length
 ok:∀ l s,C[l]? = some s→SlotOk b l s
theorem B3 {P:List Tc} {L l:Nat} (hl:l < L) (hP:P.length≤1000):mh (some (P,lcs L P)) (l:Int)=some (li (rN P l),li (wN P l)):=by
 have hr:=yp P l
 have hw:=xA P l
 have hlen:(lcs L P).length=L:=by simp [lcs]
 have hg:aa (lcs L P) (l:Int)=some (rdr P l,wtr P l):=by
   rw [ah (by rw [hlen]; exact hl)]; simp [lcs]
 unfold mh
 simp only [Option.isNone_some,Bool.false_or,decide_eq_false (show ¬ ((l:Int) < 0) by omega),cond_false,Option.bind_some,hlen,decide_eq_false (show ¬ ((L:Int)≤(l:Int)) by omega),hg]
 rw [sW _ (by omega),sW _ (by omega)]
 rfl
theorem CT {b:Bo} (h:Sm b):∃ C,kh b=some (some ((NB b:Int),C))∧CsOk b C:=by
 have hb:NB b≤32:=(kJ h (Nat.le_refl _)).1
 have hP:(pts (xs b)).length=NB b:=nT _
 have hL:=h.locals
 have hE:=yd b
 have hEl:(c9 (xs b)).length≤1024:=qX (yB h) (Nat.le_refl _)
 unfold kh
 rw [show kr b=_ from BL h,Option.bind_some,Ks,Option.bind_some,hP]
 by_cases h0:NB b=0
 . refine ⟨[],?_,⟨fun _=>rfl,fun h=>by omega,fun l s hs=>by simp at hs⟩⟩
   rw [decide_eq_true (show ((NB b:Nat):Int)=0 by omega),cond_true]
 . rw [decide_eq_false (show ¬ ((NB b:Nat):Int)=0 by omega),cond_false,if_neg h0,show kw b=_ from Ce h,s9 _ _ (by omega)]
   simp only [Option.bind_some,bf]
   rw [Do (Nat.le_trans hb (by decide)) (Nat.le_trans hEl (by decide)),Option.bind_some]
   obtain ⟨C,h1,h2⟩:=b0 (body:=j5 (some (pts (xs b),lcs b.2.2.2.1.length (pts (xs b)))) (bks (NB b) (c9 (xs b))) (List.replicate b.2.2.2.1.length none)) (fun s=>∃ k:Nat,k≤b.2.2.2.1.length∧s.1=(k:Int)∧s.2.length=b.2.2.2.1.length∧∀ l x,s.2[l]? = some x→(l < k→SlotOk b l x)∧(k≤l→x=none)) (fun s=>b.2.2.2.1.length - s.1.toNat) (Q:=fun C=>C.length=b.2.2.2.1.length∧∀ l x,C[l]? = some x→SlotOk b l x) (fun s hs=>by
     obtain ⟨i,C⟩:=s
     obtain ⟨k,hk,rfl,hlen,hC⟩:=hs
     dsimp only at hlen hC ⊢
     by_cases hc:k < b.2.2.2.1.length
     . left
       have hkC:k < C.length:=by omega
       have hn:=(hC k C[k] (List.getElem?_eq_getElem hkC)).2 (Nat.le_refl _)
       have hw1:IntKind.wrap .i64 ((k:Int) + 1)=((k + 1:Nat):Int):=aq hc (by omega)
       have hgo:=B3 (P:=pts (xs b)) hc (by rw [hP]; exact Nat.le_trans hb (by decide))
       by_cases hr:rN (pts (xs b)) k=[]
       . refine ⟨(((k + 1:Nat):Int),C),?_,⟨k + 1,hc,rfl,hlen,fun l x hx=>⟨fun hl=>?_,fun hl=>(hC l x hx).2 (by omega)⟩⟩,by dsimp only; omega⟩
         . unfold j5
           simp only [List.length_replicate,dlt hc,cond_true,hgo,Option.bind_some,hr,show (li ([]:List Nat)).length=0 from rfl,show decide ((0:Int) < ((0:Nat):Int))=false from rfl,cond_false,hw1]
         . by_cases e:l=k
           . subst e
             rw [List.getElem?_eq_getElem hkC,hn] at hx
             obtain rfl:=Option.some.inj hx
             refine .inl ⟨rfl,fun n hl=>?_⟩
             unfold LvS at hl
             rw [hr] at hl
             exact EQ hl
           . exact (hC l x hx).1 (by omega)
       . obtain ⟨w,g1,g2,g3⟩:=Ct hE (Nat.le_trans hb (by decide)) (Nat.le_trans hEl (by decide)) (GY (pts (xs b)) k) (fun n hn=>hP ▸ HZ hn) (fun n (hn:n∈wN (pts (xs b)) k)=>hP ▸ I3 hn) (Nat.le_trans (Gs (pts (xs b)) k) (by rw [hP]; exact Nat.le_trans hb (by decide)))
         have hpos:decide ((0:Int) < (((li (rN (pts (xs b)) k)).length:Nat):Int))=true:=by
           rw [bT]
           have:(rN (pts (xs b)) k).length≠0:=fun e=>hr (List.length_eq_zero_iff.1 e)
           exact decide_eq_true (by omega)
         have e1:aa C (k:Int)=some none:=by rw [ah hkC,hn]
         have e2:aa (C.set k (some ((NB b:Int),w))) (k:Int)=some (some ((NB b:Int),w)):=by rw [ah (by simpa using hkC)]; simp
         refine ⟨(((k + 1:Nat):Int),C.set k (some ((NB b:Int),w))),?_,⟨k + 1,hc,rfl,by simpa using hlen,fun l x hx=>⟨fun hl=>?_,fun hl=>?_⟩⟩,by dsimp only; omega⟩
         . unfold j5
           simp only [List.length_replicate,dlt hc,cond_true,hgo,Option.bind_some,hpos,e1,g1,fW,Int.toNat_natCast,e2,qY g2,bf,hw1,List.set_set]
         . by_cases e:l=k
           . subst e
             rw [List.getElem?_set_self hkC] at hx
             obtain rfl:=Option.some.inj hx
             exact .inr ⟨w,rfl,g2,g3⟩
           . rw [List.getElem?_set_ne (fun h=>e h.symm)] at hx
             exact (hC l x hx).1 (by omega)
         . rw [List.getElem?_set_ne (by omega)] at hx
           exact (hC l x hx).2 (by omega)
     . obtain rfl:k=b.2.2.2.1.length:=by omega
       refine .inr ⟨C,?_,hlen,fun l x hx=>(hC l x hx).1 ?_⟩
       . unfold j5
         simp only [List.length_replicate,dge hc,cond_false]
       . have:=(List.getElem?_eq_some_iff.1 hx).1; omega) (s:=(0,List.replicate b.2.2.2.1.length none)) ⟨0,Nat.zero_le _,rfl,by simp,fun l x hx=>⟨fun h=>by omega,fun _=>by rw [List.getElem?_replicate] at hx; split at hx <;> simp at hx; exact hx.symm⟩⟩
   refine ⟨C,?_,⟨fun h=>absurd h h0,fun _=>h2.1,h2.2⟩⟩
   rw [h1]; rfl
section
variable {b:Bo} {C:List Sw}
theorem Fu:qm (some ((NB b:Int),C))=some ((NB b:Nat):Int):=rfl
theorem FV {q:Nat} (hq:q < C.length):mN (some ((NB b:Int),C)) (q:Int)=some C[q]:=by
 unfold mN
 simp only [Option.isNone_some,Bool.false_or,decide_eq_false (show ¬ ((q:Int) < 0) by omega),cond_false,Option.bind_some,decide_eq_false (show ¬ ((C.length:Int)≤(q:Int)) by omega),ah hq]
end
end
section
def lvN (b:Bo) (l:Nat):List Nat:=(List.range (NB b)).filter (lvB b l)
theorem Fp (b:Bo) (l:Nat):(lvN b l).length≤NB b:=nj _ _
theorem yc {b:Bo} {l:Nat} {w:List Int} (h:∀ n,mem w n=true↔LvS b l n):ca (NB b) w=lvN b l:=by
 unfold ca lvN
 congr 1
 funext n
 rw [Bool.eq_iff_iff,h,eL]
theorem wB {b:Bo} {l:Nat} (h:∀ n,¬ LvS b l n):lvN b l=[]:=by
 unfold lvN
 rw [List.filter_eq_nil_iff]
 exact fun n _ hn=>h n (eL.1 hn)
theorem SlotOk.count {b:Bo} {l:Nat} {s:Sw} (h:SlotOk b l s):eh s=some (((lvN b l).length:Nat):Int):=by
 rcases h with ⟨rfl,h⟩ | ⟨w,rfl,hd,h⟩
 . rw [wB h]; rfl
 . rw [qY hd,yc h]
section
variable {b:Bo} {C:List Sw}
end
end
def pT (x:Blk) (k:Nat):Tc:=match x.1[k]? with | some s=>sT s | none=>tT x.2
theorem yJ {X:List Blk} {j k:Nat} (hj:j < X.length) (hk:k≤X[j].1.length):(pts X)[bg X j + k]? = some (cpT (pT X[j] k)):=by
 rw [wR X _ (Nat.le_refl _) j k hj hj hk]
 unfold pT
 by_cases q:k < X[j].1.length
 . rw [D4 q,List.getElem?_eq_getElem q]
 . have:k=X[j].1.length:=by omega
   subst this
   rw [Ev,List.getElem?_eq_none (Nat.le_refl _)]
section
section
variable {b:Bo} {C:List Sw}
theorem DD:gP none=some []:=by
 unfold gP
 have h1:cH none 0=some (-1):=rfl
 rw [show gY none=some () from rfl,Option.bind_some,h1,Option.bind_some,eK (b:=([]:List Int)) rfl]; rfl
theorem BR (hC:CsOk b C) {k:Nat} (hk:k < C.length):fy (some ((NB b:Int),C)) (k:Int)=some (li (lvN b k)):=by
 unfold fy
 rw [FV hk,Option.bind_some]
 rcases hC.ok k _ (List.getElem?_eq_getElem hk) with ⟨e,h⟩ | ⟨w,e,hd,h⟩
 . rw [e,DD,wB h]; rfl
 . rw [e,EW hd,yc h]; rfl
end
end
def ins (i:Int):List Int→List Int
 | []=>[i]
 | x :: l=>if i < x then i :: x :: l else x :: ins i l
theorem n5 (i a:Int):∀ l,a∈ins i l↔a=i∨a∈l
 | []=>by simp [ins]
 | x :: l=>by
   unfold ins
   split
   . simp
   . rw [List.mem_cons,n5 i a l,List.mem_cons]
     constructor
     . rintro (h | h | h) <;> simp [h]
     . rintro (h | h | h) <;> simp [h]
theorem tg (i:Int):∀ l:List Int,l.Pairwise (· < ·)→i∉l→(ins i l).Pairwise (· < ·)
 | [],_,_=>by simp [ins]
 | x :: l,h,hi=>by
   obtain ⟨h1,h2⟩:=List.pairwise_cons.1 h
   have hx:i≠x:=fun e=>hi (by simp [e])
   unfold ins
   split
   . rename_i hlt
     refine List.pairwise_cons.2 ⟨fun a ha=>?_,h⟩
     rcases List.mem_cons.1 ha with rfl | ha
     . exact hlt
     . have:=h1 a ha; omega
   . refine List.pairwise_cons.2 ⟨fun a ha=>?_,tg i l h2 (fun hm=>hi (by simp [hm]))⟩
     rcases (n5 i a l).1 ha with rfl | ha
     . omega
     . exact h1 a ha
theorem xC (i:Int):∀ l:List Int,(ins i l).length=l.length + 1
 | []=>rfl
 | x :: l=>by unfold ins; split <;> simp [xC i l]
theorem rH (i x:Int) (l:List Int):ins i (x :: l)=if i < x then i :: x :: l else x :: ins i l:=rfl
def Ac (L:List Int) (i:Int):Bool:=decide (i∈L)
def aC (s:Int) (L:List Int) (i:Int):List Int:=if (0≤i∧i < s)∧i∉L then ins i L else L
def bw (s:Int) (L:List Int) (i:Int):Bool:=decide ((0≤i∧i < s)∧i∉L)
def rOr (s:Int) (L:List Int):List Int→List Int×Bool
 | []=>(L,false)
 | x :: l=>((rOr s (aC s L x) l).1,bw s L x||(rOr s (aC s L x) l).2)
theorem wv (s:Int) (L:List Int) (i:Int):(aC s L i).length≤L.length + 1:=by
 unfold aC
 split
 . rw [xC]; exact Nat.le_refl _
 . omega
theorem rT (s:Int) (x:Int):∀ (l L:List Int),rOr s L (l++[x])=(aC s (rOr s L l).1 x,(rOr s L l).2||bw s (rOr s L l).1 x)
 | [],L=>by simp [rOr]
 | y :: l,L=>by
   rw [List.cons_append]
   unfold rOr
   rw [rT s x l]
   simp [Bool.or_assoc]
theorem xI {s:Int} {L:List Int} (h:L.Pairwise (· < ·)) (i:Int):(aC s L i).Pairwise (· < ·):=by
 unfold aC
 split
 . rename_i h4; exact tg _ _ h h4.2
 . exact h
theorem dm {s:Int} {L:List Int} (i x:Int):x∈aC s L i↔x∈L∨(x=i∧0≤i∧i < s):=by
 unfold aC
 split
 . rename_i h4
   rw [n5]
   constructor
   . rintro (h | h)
     . exact .inr ⟨h,h4.1⟩
     . exact .inl h
   . rintro (h | h)
     . exact .inr h
     . exact .inl h.1
 . rename_i h4
   constructor
   . exact .inl
   . rintro (h | ⟨rfl,h⟩)
     . exact h
     . refine Classical.byContradiction fun h5=>h4 ⟨h,h5⟩
theorem zg (s:Int):∀ (l L:List Int),L.Pairwise (· < ·)→(rOr s L l).1.Pairwise (· < ·)
 | [],_,h=>h
 | x :: l,L,h=>zg s l _ (xI h x)
theorem n8 (s:Int) (x:Int):∀ (l L:List Int),x∈(rOr s L l).1↔x∈L∨(x∈l∧0≤x∧x < s)
 | [],L=>by simp [rOr]
 | y :: l,L=>by
   unfold rOr
   dsimp only
   rw [n8 s x l,dm,List.mem_cons]
   constructor
   . rintro ((h | ⟨h,h2⟩) | ⟨h,h2⟩)
     . exact .inl h
     . subst h; exact .inr ⟨.inl rfl,h2⟩
     . exact .inr ⟨.inr h,h2⟩
   . rintro (h | ⟨h | h,h2⟩)
     . exact .inl (.inl h)
     . subst h; exact .inl (.inr ⟨rfl,h2⟩)
     . exact .inr ⟨h,h2⟩
theorem yS (s:Int):∀ (l L:List Int),(rOr s L l).2=true↔∃ x∈l,(0≤x∧x < s)∧x∉L
 | [],L=>by simp [rOr]
 | y :: l,L=>by
   unfold rOr
   dsimp only
   rw [Bool.or_eq_true,yS s l]
   unfold bw
   rw [decide_eq_true_eq]
   constructor
   . rintro (h | ⟨x,h1,h2,h3⟩)
     . exact ⟨y,by simp,h⟩
     . exact ⟨x,by simp [h1],h2,fun h=>h3 ((dm _ _).2 (.inl h))⟩
   . rintro ⟨x,h1,h2,h3⟩
     by_cases hy:(0≤y∧y < s)∧y∉L
     . exact .inl hy
     . rcases List.mem_cons.1 h1 with rfl | h1
       . exact absurd ⟨h2,h3⟩ hy
       . refine .inr ⟨x,h1,h2,fun h=>?_⟩
         rcases (dm _ _).1 h with h | ⟨rfl,h⟩
         . exact h3 h
         . exact hy ⟨h,h3⟩
theorem sF {A B:List Int} (hA:A.Pairwise (· < ·)) (hB:B.Pairwise (· < ·)) (h:∀ x∈A,x∈B):A.length≤B.length:=by
 have e:B.filter (fun x=>decide (x∈A))=A:=by
   refine fN (List.Pairwise.filter _ hB) hA fun x=>?_
   rw [List.mem_filter,decide_eq_true_eq]
   exact ⟨fun h=>h.2,fun hx=>⟨h x hx,hx⟩⟩
 rw [← e]
 exact List.length_filter_le _ _
theorem wP {x:Int}:∀ {A:List Int},(∀ y∈A,y < x)→ins x A=A++[x]
 | [],_=>rfl
 | a :: A,h=>by
   have:=h a (by simp)
   rw [rH,if_neg (by omega),wP (fun y hy=>h y (by simp [hy]))]
   rfl
structure Rp (n:Nat) (l:List Int) (L:List Int):Prop where
 ds:Ds n l
 rs:L.Pairwise (· < ·)
 mm:∀ x:Int,x∈L↔0≤x∧mem l x.toNat=true
theorem FG (M:List Nat) (x:Int):x∈liN M↔0≤x∧x.toNat∈M:=by
 unfold liN
 rw [List.mem_map]
 constructor
 . rintro ⟨a,ha,rfl⟩
   exact ⟨Int.natCast_nonneg _,by simpa using ha⟩
 . rintro ⟨h1,h2⟩
   exact ⟨x.toNat,h2,Int.toNat_of_nonneg h1⟩
theorem fT {n:Nat} {l:List Int} (h:Ds n l) {k:Nat} (hk:mem l k=true):k < n:=by
 rcases Nat.lt_or_ge k n with h1 | h1
 . exact h1
 . rw [h.top k h1] at hk; cases hk
theorem Df {n:Nat} {l:List Int} (h:Ds n l) (k:Nat):k∈ca n l↔mem l k=true:=by
 unfold ca
 rw [List.mem_filter,List.mem_range]
 exact ⟨fun h=>h.2,fun hk=>⟨fT h hk,hk⟩⟩
theorem Gb (n:Nat) (l:List Int):(liN (ca n l)).Pairwise (· < ·):=by
 unfold liN ca
 rw [List.pairwise_map]
 refine List.Pairwise.imp (fun h=>?_) (List.Pairwise.filter (mem l) (List.pairwise_lt_range (n:=n)))
 exact Int.ofNat_lt.2 h
theorem Rp.eq {n:Nat} {l L:List Int} (h:Rp n l L):liN (ca n l)=L :=
 fN (Gb n l) h.rs (fun x=>by rw [FG,Df h.ds,h.mm])
theorem Rp.len {n:Nat} {l L:List Int} (h:Rp n l L):(ca n l).length=L.length:=by
 rw [← h.eq]; simp [liN]
theorem Rp.le {n:Nat} {l L:List Int} (h:Rp n l L):L.length≤n:=by
 rw [← h.len]; exact nj _ _
theorem GA {n:Nat} (h:n≤1048576):Rp n (List.replicate ((n + 63) / 64) 0) [] :=
 ⟨yI h,List.Pairwise.nil,fun x=>by simp [sO]⟩
theorem Rp.has {n:Nat} {l L:List Int} (h:Rp n l L) (i:Int):bX (some ((n:Int),l)) i=some (Ac L i):=by
 rw [nI h.ds]
 congr 1
 unfold Ac
 rw [Bool.eq_iff_iff,Bool.and_eq_true,decide_eq_true_eq,decide_eq_true_eq,h.mm]
 constructor
 . exact fun h=>⟨h.1.1,h.2⟩
 . intro h2
   have:=fT h.ds h2.2
   exact ⟨⟨h2.1,by omega⟩,h2.2⟩
theorem Rp.add {n:Nat} {l L:List Int} (h:Rp n l L) (i:Int):∃ l',cN i n l=some (bw n L i,l')∧Rp n l' (aC n L i):=by
 obtain ⟨l',h1,h2,h3⟩:=nE h.ds i
 have hm:=h.mm i
 have e:(decide (0≤i∧i < n)&&!mem l i.toNat)=bw n L i:=by
   unfold bw
   rw [Bool.eq_iff_iff,Bool.and_eq_true,decide_eq_true_eq,decide_eq_true_eq,hm]
   constructor
   . rintro ⟨h5,h6⟩
     exact ⟨h5,fun h7=>by rw [h7.2] at h6; cases h6⟩
   . rintro ⟨h5,h6⟩
     refine ⟨h5,?_⟩
     cases h7:mem l i.toNat with
     | false=>rfl
     | true=>exact absurd ⟨h5.1,h7⟩ h6
 refine ⟨l',by rw [h1,e],h2,?_,fun x=>?_⟩
 . unfold aC
   split
   . rename_i h4
     exact tg _ _ h.rs h4.2
   . exact h.rs
 . rw [h3]
   unfold aC
   split
   . rename_i h4
     rw [n5,h.mm,Bool.or_eq_true,decide_eq_true_eq]
     constructor
     . rintro (rfl | h5)
       . exact ⟨h4.1.1,.inr ⟨h4.1,rfl⟩⟩
       . exact ⟨h5.1,.inl h5.2⟩
     . rintro ⟨h5,h6 | h6⟩
       . exact .inr ⟨h5,h6⟩
       . exact .inl (by omega)
   . rename_i h4
     rw [h.mm,Bool.or_eq_true,decide_eq_true_eq]
     constructor
     . exact fun h5=>⟨h5.1,.inl h5.2⟩
     . rintro ⟨h5,h6 | h6⟩
       . exact ⟨h5,h6⟩
       . have hx:x=i:=by omega
         subst hx
         refine ⟨h5,?_⟩
         cases h7:mem l x.toNat with
         | true=>rfl
         | false=>exact absurd ⟨h6.1,fun h8=>by rw [(hm.1 h8).2] at h7; cases h7⟩ h4
theorem Rp.count {n:Nat} {l L:List Int} (h:Rp n l L):eh (some ((n:Int),l))=some ((L.length:Nat):Int):=by
 rw [qY h.ds,h.len]
theorem BV {n:Nat} {l L:List Int} (h:Rp n l L) {body:Int×List Int→Option ((Int×List Int)⊕List Int)}
   (hb:∀ (c:List Int) (k:Nat),mem l k=true→body ((k:Int),c)=(app c [(k:Int)]).bind fun z=>(cH (some ((n:Int),l)) ((k:Int) + 1)).bind fun i=>some (.inl (i,z))) (he:∀ c,body (-1,c)=some (.inr c)) :
   ∃ r,cH (some ((n:Int),l)) 0=some r∧loop body (r,[])=some L:=by
 have:=yV h.ds hb he
 rw [h.eq] at this
 exact this
def rk (L:List Int) (i:Int):Nat:=(L.filter (fun x=>decide (x < i))).length
theorem zp (L:List Int) (i:Int):rk L i≤L.length:=List.length_filter_le _ _
theorem rX (i:Int):∀ {L:List Int},L.Pairwise (· < ·)→∀ k (hk:k < L.length),L[k] < i↔k < rk L i
 | [],_,k,hk=>by simp at hk
 | x :: L,h,k,hk=>by
   obtain ⟨h1,h2⟩:=List.pairwise_cons.1 h
   by_cases hx:x < i
   . have e:rk (x :: L) i=rk L i + 1:=by unfold rk; simp [hx]
     rw [e]
     cases k with
     | zero=>simp [hx]
     | succ k =>
       have:=rX i h2 k (by simpa using hk)
       simp only [List.getElem_cons_succ]
       rw [this]
       omega
   . have e:rk (x :: L) i=0:=by
       unfold rk
       rw [List.length_eq_zero_iff,List.filter_eq_nil_iff]
       intro y hy
       rcases List.mem_cons.1 hy with rfl | hy
       . simpa using hx
       . have:=h1 y hy
         simp
         omega
     rw [e]
     have:x≤(x :: L)[k]:=by
       cases k with
       | zero=>exact Int.le_refl _
       | succ k=>exact Int.le_of_lt (h1 _ (by simp))
     omega
theorem tH {L:List Int} (h:L.Pairwise (· < ·)) {i:Int} {n:Nat} (hn:n≤L.length) (h1:∀ k (hk:k < L.length),k < n→L[k] < i) (h2:∀ k (hk:k < L.length),n≤k→¬ L[k] < i):rk L i=n:=by
 have hl:=zp L i
 rcases Nat.lt_trichotomy (rk L i) n with h3 | h3 | h3
 . have:=(rX i h (rk L i) (by omega)).1 (h1 _ (by omega) h3)
   omega
 . exact h3
 . exact absurd ((rX i h n (by omega)).2 h3) (h2 n (by omega) (Nat.le_refl _))
theorem EJ {L:List Int} (h:L.Pairwise (· < ·)) {k:Nat} (hk:k < L.length):rk L (L[k] + 1)=k + 1:=by
 have hp:=List.pairwise_iff_getElem.1 h
 refine tH h (by omega) (fun j hj hjk=>?_) (fun j hj hjk=>?_)
 . rcases Nat.lt_or_ge j k with h1 | h1
   . have:=hp j k hj hk h1; omega
   . have:j=k:=by omega
     subst this; omega
 . have:=hp k j hk hj (by omega); omega
theorem F5 {L:List Int} (h:L.Pairwise (· < ·)) {k:Nat} (hk:k < L.length):rk L L[k]=k:=by
 have hp:=List.pairwise_iff_getElem.1 h
 refine tH h (by omega) (fun j hj hjk=>hp j k hj hk hjk) (fun j hj hjk=>?_)
 rcases Nat.lt_or_ge k j with h1 | h1
 . have:=hp k j hk hj h1; omega
 . have:j=k:=by omega
   subst this; omega
theorem yO {L:List Int} (h:L.Pairwise (· < ·)) (i:Int):i∈L↔∃ hk:rk L i < L.length,L[rk L i]=i:=by
 constructor
 . intro hi
   obtain ⟨k,hk,rfl⟩:=List.getElem_of_mem hi
   have e:=F5 h hk
   exact ⟨by rw [e]; exact hk,by simp only [e]⟩
 . rintro ⟨hk,e⟩
   rw [← e]
   exact List.getElem_mem hk
theorem CK (a b:Int):mK a b=some (decide (a < b)):=by
 unfold mK mI
 simp
theorem E7 (s:Nat) (h:s≤4611686018427387904):IntKind.wrap .i64 (Int.fdiv (IntKind.wrap .u64 (IntKind.wrap .i64 (s:Int))) (2 ^ (min (Int.toNat 1) (IntKind.bits .u64))))=((s / 2:Nat):Int):=by
 rw [w64 (x:=(s:Int)) (by omega) (by omega)]
 have e1:IntKind.wrap .u64 (s:Int)=(s:Int):=by rw [IntKind.wrap_u64]; omega
 rw [e1]
 have e2:((2:Int) ^ (min (Int.toNat 1) (IntKind.bits .u64)))=((2:Nat):Int):=rfl
 rw [e2,Int.fdiv_eq_ediv_of_nonneg _ (Int.natCast_nonneg _)]
 rw [show (s:Int) / ((2:Nat):Int)=((s / 2:Nat):Int) from rfl]
 exact w64 (by omega) (by omega)
theorem FL {L:List Int} (h:L.Pairwise (· < ·)) (hl:L.length≤4000000) (x:Int):loop (pU L x) ((0:Int),((L.length:Nat):Int))=some ((rk L x:Nat):Int):=by
 refine wA (fun s=>∃ lo hi:Nat,s=((lo:Int),(hi:Int))∧lo≤hi∧hi≤L.length∧(∀ k (hk:k < L.length),k < lo→L[k] < x)∧(∀ k (hk:k < L.length),hi≤k→¬ L[k] < x)) (fun s=>s.2.toNat - s.1.toNat) ?_ ⟨0,L.length,rfl,Nat.zero_le _,Nat.le_refl _,fun k hk h=>absurd h (by omega),fun k hk h=>absurd h (by omega)⟩
 rintro s ⟨lo,hi,rfl,h1,h2,h3,h4⟩
 unfold pU
 by_cases hlt:lo < hi
 . left
   have hm:(lo + hi) / 2 < L.length:=by omega
   have hmid:=E7 (lo + hi) (by omega)
   rw [Int.natCast_add] at hmid
   have hp:=List.pairwise_iff_getElem.1 h
   simp only [dlt hlt,cond_true,hmid,ah hm,Option.bind_some,CK]
   by_cases hx:L[(lo + hi) / 2] < x
   . refine ⟨((((lo + hi) / 2 + 1:Nat):Int),(hi:Int)),?_,⟨_,hi,rfl,by omega,h2,fun k hk hkl=>?_,h4⟩,?_⟩
     . rw [decide_eq_true hx,cond_true,aq hm (by omega)]
     . rcases Nat.lt_or_ge k ((lo + hi) / 2) with h5 | h5
       . have:=hp k _ hk hm h5; omega
       . have:k=(lo + hi) / 2:=by omega
         subst this; exact hx
     . show (hi:Int).toNat - (((lo + hi) / 2 + 1:Nat):Int).toNat < (hi:Int).toNat - (lo:Int).toNat
       rw [Int.toNat_natCast,Int.toNat_natCast,Int.toNat_natCast]; omega
   . refine ⟨((lo:Int),(((lo + hi) / 2:Nat):Int)),?_,⟨lo,_,rfl,by omega,by omega,h3,fun k hk hkl=>?_⟩,?_⟩
     . rw [decide_eq_false hx,cond_false]
     . rcases Nat.lt_or_ge ((lo + hi) / 2) k with h5 | h5
       . have:=hp _ k hm hk h5; omega
       . have:k=(lo + hi) / 2:=by omega
         subst this; exact hx
     . show (((lo + hi) / 2:Nat):Int).toNat - (lo:Int).toNat < (hi:Int).toNat - (lo:Int).toNat
       rw [Int.toNat_natCast,Int.toNat_natCast,Int.toNat_natCast]; omega
 . right
   have e:hi=lo:=by omega
   subst e
   rw [tH h h2 h3 h4]
   simp only [dge hlt,cond_false]
theorem Fl {L:List Int} (h:L.Pairwise (· < ·)) (hl:L.length≤4000000) (x:Int):lM L x=some (((rk L x:Nat):Int),decide (x∈L)):=by
 unfold lM
 rw [FL h hl]
 simp only [Option.bind_some]
 have hm:=yO h x
 by_cases hk:rk L x < L.length
 . simp only [dlt hk,cond_true,ah hk,Option.bind_some]
   by_cases hx:L[rk L x]=x
   . have:x∈L:=hm.2 ⟨hk,hx⟩
     simp [hx,this]
   . have:¬ x∈L:=fun h=>hx (hm.1 h).2
     simp [hx,this,mi]
 . have:¬ x∈L:=fun h=>hk (hm.1 h).1
   simp only [dge hk,cond_false,Option.bind_some,decide_eq_false this]
theorem Cy {L:List Int} (h:L.Pairwise (· < ·)) (hl:L.length≤4000000) (x:Int):bR (some L) x=some ((rk L x:Nat):Int):=by
 unfold bR
 simp only [Option.isNone_some,cond_false,Option.bind_some,Fl h hl]
theorem gf {L:List Int} (k:Nat):bS (some L) (k:Int)=some (L.getD k 0,decide (k < L.length)):=by
 unfold bS gR
 have h0:¬ ((k:Int) < 0):=by omega
 simp only [decide_eq_false h0,cond_false,Option.bind_some,Option.isNone_some]
 by_cases hk:k < L.length
 . have h1:¬ (((L.length:Nat):Int)≤(k:Int)):=by omega
   simp only [decide_eq_false h1,cond_false,ah hk,Option.bind_some]
   simp [hk]
 . have h1:(((L.length:Nat):Int)≤(k:Int)):=by omega
   simp only [decide_eq_true h1,cond_true]
   simp [hk]
structure Sp (L:List Int):Prop where
 rs:L.Pairwise (· < ·)
 bd:∀ x∈L,0≤x∧x≤2147483647
 ln:L.length≤1000000
theorem Sp.rank {L:List Int} (h:Sp L) (x:Int):bR (some L) x=some ((rk L x:Nat):Int):=Cy h.rs (Nat.le_trans h.ln (by decide)) x
theorem Sp.has {L:List Int} (h:Sp L) (x:Int):fD (some L) x=some (decide (x∈L)):=by
 have hl:=h.ln
 unfold fD
 rw [h.rank]
 simp only [Option.bind_some,gf]
 have hm:=yO h.rs x
 congr 1
 rw [Bool.eq_iff_iff,Bool.and_eq_true,decide_eq_true_eq,decide_eq_true_eq,decide_eq_true_eq,hm]
 constructor
 . rintro ⟨h1,h2⟩
   refine ⟨h1,?_⟩
   simpa [h1] using h2
 . rintro ⟨h1,h2⟩
   refine ⟨h1,?_⟩
   simpa [h1] using h2
theorem rn {L:List Int} (h:Sp L) {k:Nat} (hk:k < L.length):bR (some L) (IntKind.wrap .i64 (L[k] + 1))=some ((k + 1:Nat):Int):=by
 have hb:=h.bd L[k] (List.getElem_mem hk)
 rw [w64 (by omega) (by omega),h.rank,EJ h.rs hk]
theorem Ik {x i:Int} (L:List Int) (h:x < i):rk (x :: L) i=rk L i + 1:=by unfold rk; simp [h]
theorem I1 {x i:Int} {L:List Int} (h:¬ x < i) (hs:(x :: L).Pairwise (· < ·)):rk (x :: L) i=0:=by
 obtain ⟨h1,h2⟩:=List.pairwise_cons.1 hs
 unfold rk
 rw [List.length_eq_zero_iff,List.filter_eq_nil_iff]
 intro y hy
 rcases List.mem_cons.1 hy with rfl | hy
 . simpa using h
 . have:=h1 y hy
   simp
   omega
theorem yv (i:Int):∀ {L:List Int},L.Pairwise (· < ·)→i∉L→L.take (rk L i)++[i]++L.drop (rk L i)=ins i L
 | [],_,_=>rfl
 | x :: L,hs,hi=>by
   obtain ⟨h1,h2⟩:=List.pairwise_cons.1 hs
   have hne:i≠x:=fun e=>hi (by simp [e])
   by_cases hx:x < i
   . rw [Ik L hx,rH,if_neg (by omega),← yv i h2 (fun h=>hi (by simp [h]))]
     simp
   . rw [I1 hx hs,rH,if_pos (by omega)]
     rfl
def un (L M:List Int):List Int:=(rOr 2147483648 L M).1
theorem Ck {L:List Int} (h:Sp L) (i:Int) (hl:L.length + 1≤1000000):lR i L=some (bw 2147483648 L i,aC 2147483648 L i)∧Sp (aC 2147483648 L i):=by
 refine ⟨?_,xI h.rs i,fun x hx=>?_,Nat.le_trans (wv _ _ _) hl⟩
 . have hcond:(fE i).bind (fun t380=>cond (!t380) (some (true)) ((fD (some L) i).bind fun t395=>some (t395)))=some (!bw 2147483648 L i):=by
     rw [show fE i=some ((decide (0≤i))&&(decide (i≤2147483647))) from rfl,h.has]
     unfold bw
     by_cases h1:0≤i
     . by_cases h2:i≤2147483647
       . have h3:i < 2147483648:=by omega
         simp [h1,h2,h3]
       . have h3:¬ i < 2147483648:=by omega
         simp [h1,h2,h3]
     . simp [h1]
   unfold lR
   have hm:∀ {β:Type} (k:Bool→Option β),((fE i).bind fun t380=>(cond (!t380) (some (true)) ((fD (some L) i).bind fun t395=>some (t395))).bind k)=k (!bw 2147483648 L i):=fun k=>by
     have:=congrArg (fun z=>Option.bind z k) hcond
     simpa [Option.bind_assoc] using this
   rw [hm]
   cases ho:bw 2147483648 L i with
   | false =>
     have:¬ ((0≤i∧i < 2147483648)∧i∉L):=of_decide_eq_false ho
     unfold aC
     rw [if_neg this]
     rfl
   | true =>
     have hh:(0≤i∧i < 2147483648)∧i∉L:=of_decide_eq_true ho
     have he:aC 2147483648 L i=ins i L:=by unfold aC; rw [if_pos hh]
     have hrk:=zp L i
     have hi:da L ((rk L i:Nat):Int) [i]=some (ins i L):=by
       unfold da
       rw [if_pos ⟨by omega,by omega,by simp,by simp; omega⟩,Int.toNat_natCast,yv i h.rs hh.2]
     simp only [Bool.not_true,cond_false,h.rank,Option.bind_some,hi,nG,he]
 . rcases (dm i x).1 hx with h1 | ⟨rfl,h2⟩
   . exact h.bd x h1
   . omega
def pj (l:List Int):List Int:=l.mergeSort fun x y=>decide (x≤y)
theorem E4 {l:List Int} (h:l.length≤1073741824):srt l=some (pj l):=by unfold srt; rw [if_pos h]; rfl
def cpS (l:List Int):List Int:=Lib.compact (pj l)
theorem Fe (l:List Int):(cpS l).length≤l.length:=by
 have:=Lib.compact_length_le (pj l)
 unfold pj at this
 rw [List.length_mergeSort] at this
 exact this
def okm (i:Int):Bool:=decide (0≤i)&&decide (i≤2147483647)
def ofS (xa:List Int):List Int:=cpS (xa.filter okm)
theorem FO {xa:List Int} (h:xa.length≤1000000):ii xa=some (ofS xa):=by
 have hlp:loop (j9 xa) ((0:Int),([]:List Int))=some (xa.filter okm):=by
   have:=aQ (body:=j9 xa) (fun k:Nat=>((k:Int),(xa.take k).filter okm)) xa.length (b:=xa.filter okm) ?_ ?_
   . exact this
   . intro k hk
     unfold j9
     have hle:=List.length_filter_le okm (xa.take k)
     have ha:app ((xa.take k).filter okm) [xa[k]]=some ((xa.take k).filter okm++[xa[k]]):=aM (by simp at hle ⊢; omega)
     have e:(xa.take (k + 1)).filter okm=(xa.take k).filter okm++(if okm xa[k] then [xa[k]] else []):=by
       rw [aO hk,List.filter_append]
       cases hm:okm xa[k] <;> simp [hm]
     simp only [dlt hk,cond_true,ah hk,Option.bind_some,show ∀ i,fE i=some (okm i) from fun _=>rfl,ha,e,aq hk (by omega)]
     cases hm:okm xa[k] <;> simp
   . unfold j9
     simp
 unfold ii
 rw [hlp]
 have hle:=List.length_filter_le okm xa
 simp only [Option.bind_some,E4 (l:=xa.filter okm) (by omega)]
 rfl
theorem EB (xa:List Int):(ofS xa).length≤xa.length:=Nat.le_trans (Fe _) (List.length_filter_le _ _)
structure Mx (n:Nat) (f:Option (List Int)) (b:Option (Int×List Int)) (L:List Int):Prop where
 hn:n≤1048576
 rs:L.Pairwise (· < ·)
 bd:∀ x∈L,0≤x∧x < n
 st:(f=some L∧b=none∧L.length≤8)∨∃ w,f=none∧b=some ((n:Int),w)∧Rp n w L
theorem Rp.bd {n:Nat} {w L:List Int} (h:Rp n w L):∀ x∈L,0≤x∧x < n:=fun x hx=>by
 have:=(h.mm x).1 hx
 have:=fT h.ds this.2
 omega
theorem ll {n:Nat} {L:List Int} (hn:n≤1048576) (hr:L.Pairwise (· < ·)) (hb:∀ x∈L,0≤x∧x < n) (hl:L.length≤9):Sp L :=
 ⟨hr,fun x hx=>by have:=hb x hx; omega,by omega⟩
theorem Gc {n:Nat} {L:List Int} (hr:L.Pairwise (· < ·)) (hb:∀ x∈L,0≤x∧x < n):L.length≤n:=by
 have h2:((List.range n).map (fun k:Nat=>(k:Int))).Pairwise (· < ·):=by
   rw [List.pairwise_map]
   exact List.Pairwise.imp (fun h=>Int.ofNat_lt.2 h) (List.pairwise_lt_range (n:=n))
 have:=sF hr h2 (fun x hx=>by
   have:=hb x hx
   rw [List.mem_map]
   exact ⟨x.toNat,List.mem_range.2 (by omega),by omega⟩)
 simpa using this
theorem Mx.len {n:Nat} {f:Option (List Int)} {b:Option (Int×List Int)} {L:List Int} (h:Mx n f b L):L.length≤n:=Gc h.rs h.bd
theorem FD {n:Nat} {L:List Int} {i:Int} (hn:n≤1048576) (hi:0≤i∧i < n):aC 2147483648 L i=aC n L i∧bw 2147483648 L i=bw n L i:=by
 have h1:0≤i∧i < 2147483648:=by omega
 unfold aC bw
 simp [h1,hi]
theorem Ed {n:Nat} {L:List Int} {i:Int} (hi:¬ (0≤i∧i < n)):aC n L i=L∧bw n L i=false:=by
 unfold aC bw
 rw [if_neg (fun h=>hi h.1),decide_eq_false (fun h=>hi h.1)]
 exact ⟨rfl,rfl⟩
theorem sj {n:Nat} {L:List Int} (i:Int) (hb:∀ x∈L,0≤x∧x < n):∀ x∈aC n L i,0≤x∧x < n:=fun x hx=>by
 rcases (dm i x).1 hx with h | ⟨rfl,h⟩
 . exact hb x h
 . exact h
theorem ky (n:Int) (f:Option (List Int)) (b:Option (Int×List Int)):dd (some (n,f,b))=some b.isSome:=by
 unfold dd
 cases b <;> rfl
theorem vG {n:Nat} {L:List Int} (hn:n≤1048576) (h:Sp L) (hb:∀ x∈L,0≤x∧x < n) (b:Option (Int×List Int)):∃ w,jD n (some L) b=some (some ((n:Int),w))∧Rp n w L:=by
 have hl:=h.ln
 have hp:=List.pairwise_iff_getElem.1 h.rs
 have key:=b0 (body:=pV n L) (fun s=>∃ k:Nat,k≤L.length∧s.1=L.getD k 0∧s.2.1=decide (k < L.length)∧Rp n s.2.2 (L.take k)) (fun s=>if s.2.1 then (L.filter (fun x=>decide (s.1≤x))).length else 0) (Q:=fun w=>Rp n w L) ?_ (s:=(L.getD 0 0,decide (0 < L.length),List.replicate ((n + 63) / 64) (0:Int))) ⟨0,Nat.zero_le _,rfl,rfl,GA hn⟩
 . obtain ⟨w,k1,k2⟩:=key
   refine ⟨w,?_,k2⟩
   unfold jD
   have h1:¬ ((n:Int) < 0):=by omega
   have h2:¬ (1048576 < (n:Int)):=by omega
   rw [w7,if_neg h1,if_neg h2,Int.toNat_natCast]
   simp only [Option.bind_some,show fx L=some L from rfl]
   have at0:bS (some L) 0=some (L.getD 0 0,decide (0 < L.length)):=gf 0
   rw [at0]
   simp only [Option.bind_some,k1]
 . rintro ⟨i,t,w⟩ ⟨k,hk,rfl,rfl,hw⟩
   dsimp only at hw ⊢
   unfold pV
   by_cases hkl:k < L.length
   . left
     have hg:L.getD k 0=L[k]:=by simp [hkl]
     obtain ⟨w',a1,a2⟩:=hw.add L[k]
     have hbk:=hb L[k] (List.getElem_mem hkl)
     have hlt:∀ y∈L.take k,y < L[k]:=fun y hy=>by
       obtain ⟨j,hj,rfl⟩:=List.mem_take_iff_getElem.1 hy
       exact hp j k (by omega) hkl (by omega)
     have hni:L[k]∉L.take k:=fun hm=>by have:=hlt _ hm; omega
     have e:aC n (L.take k) L[k]=L.take (k + 1):=by
       unfold aC
       rw [if_pos ⟨hbk,hni⟩,wP hlt,aO hkl]
     rw [e] at a2
     refine ⟨(L.getD (k + 1) 0,decide (k + 1 < L.length),w'),?_,⟨k + 1,by omega,rfl,rfl,a2⟩,?_⟩
     . simp only [decide_eq_true hkl,cond_true,hg,a1,Option.bind_some,rn h hkl,gf]
     . dsimp only
       rw [decide_eq_true hkl,if_pos rfl,hg]
       by_cases hk2:k + 1 < L.length
       . have hg2:L.getD (k + 1) 0=L[k + 1]:=by simp [hk2]
         rw [decide_eq_true hk2,if_pos rfl,hg2]
         have hs:(L.filter (fun x=>decide (L[k + 1]≤x)))=(L.filter (fun x=>decide (L[k]≤x))).filter (fun x=>decide (L[k + 1]≤x)):=by
           rw [List.filter_filter]
           refine List.filter_congr fun x hx=>?_
           have:=hp k (k + 1) hkl hk2 (by omega)
           by_cases h1:L[k + 1]≤x
           . have h2:L[k]≤x:=by omega
             simp [h1,h2]
           . simp [h1]
         rw [hs,List.length_filter_lt_length_iff_exists]
         refine ⟨L[k],List.mem_filter.2 ⟨List.getElem_mem hkl,by simp⟩,?_⟩
         have:=hp k (k + 1) hkl hk2 (by omega)
         simp
         omega
       . rw [decide_eq_false hk2]
         simp only [Bool.false_eq_true,if_false]
         refine List.length_pos_of_mem (a:=L[k]) (List.mem_filter.2 ⟨List.getElem_mem hkl,by simp⟩)
   . right
     have e:k=L.length:=by omega
     subst e
     rw [List.take_length] at hw
     refine ⟨w,?_,hw⟩
     simp
theorem nC {n:Nat} {f:Option (List Int)} {b:Option (Int×List Int)} {L:List Int} (h:Mx n f b L) (i:Int):∃ f' b',cG i n f b=some (bw n L i,f',b')∧Mx n f' b' (aC n L i)∧b'.isSome=(b.isSome||decide (8 < (aC n L i).length)):=by
 have hn:=h.hn
 have hcond:(cond (decide (i < 0)) (some (true)) ((ej (some ((n:Int),f,b))).bind fun i173=>some (decide (i173≤i))))=some (!decide (0≤i∧i < n)):=by
   rw [show ej (some ((n:Int),f,b))=some (n:Int) from rfl]
   by_cases h1:i < 0
   . have h2:¬ 0≤i:=by omega
     simp [h1,h2]
   . have h2:0≤i:=by omega
     by_cases h3:(n:Int)≤i
     . have h4:¬ i < n:=by omega
       simp [h1,h2,h3,h4]
     . have h4:i < n:=by omega
       simp [h1,h2,h3,h4]
 unfold cG
 rw [hcond]
 simp only [Option.bind_some]
 by_cases hi:0≤i∧i < (n:Int)
 . rw [decide_eq_true hi]
   simp only [Bool.not_true,cond_false,ky,Option.bind_some]
   rcases h.st with ⟨rfl,rfl,h8⟩ | ⟨w,rfl,rfl,hw⟩
   . have hsp:=ll hn h.rs h.bd (by omega)
     obtain ⟨a1,a2⟩:=Ck hsp i (by omega)
     obtain ⟨e1,e2⟩:=FD (L:=L) hn hi
     rw [e1,e2] at a1
     rw [e1] at a2
     have hl9:(aC n L i).length≤9:=by have:=wv n L i; omega
     simp only [Option.isSome_none,cond_false,Option.bind_some,a1,show ∀ M:List Int,gR (some M)=some ((M.length:Nat):Int) from fun _=>rfl,Bool.false_or]
     by_cases h9:8 < (aC n L i).length
     . have h9':(8:Int) < (((aC n L i).length:Nat):Int):=by omega
       obtain ⟨w,t1,t2⟩:=vG hn a2 (sj i h.bd) none
       rw [decide_eq_true h9',decide_eq_true h9]
       simp only [cond_true,t1,Option.bind_some]
       exact ⟨_,_,rfl,⟨hn,a2.rs,sj i h.bd,.inr ⟨w,rfl,rfl,t2⟩⟩,rfl⟩
     . have h9':¬ (8:Int) < (((aC n L i).length:Nat):Int):=by omega
       rw [decide_eq_false h9',decide_eq_false h9]
       simp only [cond_false]
       exact ⟨_,_,rfl,⟨hn,a2.rs,sj i h.bd,.inl ⟨rfl,rfl,by omega⟩⟩,rfl⟩
   . obtain ⟨w',a1,a2⟩:=hw.add i
     simp only [Option.isSome_some,cond_true,Option.bind_some,a1,Bool.true_or]
     exact ⟨_,_,rfl,⟨hn,a2.rs,a2.bd,.inr ⟨w',rfl,rfl,a2⟩⟩,rfl⟩
 . rw [decide_eq_false hi]
   obtain ⟨e1,e2⟩:=Ed (L:=L) hi
   rw [e1,e2]
   refine ⟨f,b,rfl,h,?_⟩
   rcases h.st with ⟨rfl,rfl,h8⟩ | ⟨w,rfl,rfl,hw⟩
   . rw [decide_eq_false (by omega:¬ 8 < L.length)]; rfl
   . rfl
theorem Mx.has {n:Nat} {f:Option (List Int)} {b:Option (Int×List Int)} {L:List Int} (h:Mx n f b L) (i:Int):mF (some ((n:Int),f,b)) i=some (decide (i∈L)):=by
 have hn:=h.hn
 unfold mF
 rw [ky]
 rcases h.st with ⟨rfl,rfl,h8⟩ | ⟨w,rfl,rfl,hw⟩
 . have hsp:=ll hn h.rs h.bd (by omega)
   simp only [Option.isSome_none,Option.bind_some,cond_false,Option.isNone_some,Bool.not_false,cond_true,hsp.has]
 . simp only [Option.isSome_some,Option.bind_some,cond_true,hw.has]
   rfl
theorem Mx.size {n:Nat} {f:Option (List Int)} {b:Option (Int×List Int)} {L:List Int} (h:Mx n f b L):uM (some ((n:Int),f,b))=some ((L.length:Nat):Int):=by
 unfold uM
 rw [ky]
 rcases h.st with ⟨rfl,rfl,h8⟩ | ⟨w,rfl,rfl,hw⟩
 . rfl
 . simp only [Option.isSome_some,Option.bind_some,cond_true,hw.count]
theorem Cc {n:Nat} {f:Option (List Int)} {b:Option (Int×List Int)} {L:List Int} (h:Mx n f b L) (lo hi:Int):∃ f' b' L',lO lo hi n f b=some (f',b')∧Mx n f' b' L'∧b'.isSome=(b.isSome||decide (8 < L'.length))∧∀ x,x∈L'↔x∈L∨(lo≤x∧x < hi∧0≤x∧x < n):=by
 have hn:=h.hn
 have key:=b0 (body:=pW hi n) (fun s=>∃ L':List Int,0≤s.1∧lo≤s.1∧Mx n s.2.1 s.2.2 L'∧s.2.2.isSome=(b.isSome||decide (8 < L'.length))∧∀ x,x∈L'↔x∈L∨(lo≤x∧x < s.1∧x < hi∧0≤x∧x < n)) (fun s=>n - s.1.toNat)
   (Q:=fun r=>∃ L':List Int,Mx n r.1 r.2 L'∧r.2.isSome=(b.isSome||decide (8 < L'.length))∧∀ x,x∈L'↔x∈L∨(lo≤x∧x < hi∧0≤x∧x < n)) ?_ (s:=(if lo < 0 then 0 else lo,f,b)) ⟨L,?_,?_,h,?_,fun x=>?_⟩
 . obtain ⟨⟨f',b'⟩,k1,L',k2,k3,k4⟩:=key
   refine ⟨f',b',L',?_,k2,k3,k4⟩
   unfold lO
   rw [k1]
   rfl
 . rintro ⟨i,f1,b1⟩ ⟨L',h0,hlo,hm,hd,hx⟩
   dsimp only at h0 hlo hm hd hx ⊢
   unfold pW
   simp only [show ej (some ((n:Int),f1,b1))=some (n:Int) from rfl,Option.bind_some]
   by_cases hc:i < (if (n:Int) < hi then (n:Int) else hi)
   . left
     have hin:i < n∧i < hi:=by split at hc <;> omega
     obtain ⟨f2,b2,a1,a2,a3⟩:=nC hm i
     refine ⟨(i + 1,f2,b2),?_,⟨aC n L' i,by dsimp only; omega,by dsimp only; omega,a2,?_,fun x=>?_⟩,?_⟩
     . rw [decide_eq_true hc]
       simp only [cond_true,a1,Option.bind_some,w64 (x:=i + 1) (by omega) (by omega)]
     . dsimp only
       rw [a3,hd]
       have hle:L'.length≤(aC n L' i).length:=sF hm.rs a2.rs (fun x hx=>(dm _ _).2 (.inl hx))
       by_cases h1:8 < L'.length
       . have h2:8 < (aC n L' i).length:=by omega
         simp [h1,h2]
       . simp [h1]
     . dsimp only
       rw [dm,hx]
       constructor
       . rintro ((h1 | h1) | ⟨rfl,h1⟩)
         . exact .inl h1
         . exact .inr ⟨h1.1,by omega,h1.2.2⟩
         . exact .inr ⟨hlo,by omega,hin.2,h1⟩
       . rintro (h1 | h1)
         . exact .inl (.inl h1)
         . by_cases h2:x < i
           . exact .inl (.inr ⟨h1.1,h2,h1.2.2⟩)
           . exact .inr ⟨by omega,by omega,by omega⟩
     . show n - (i + 1).toNat < n - i.toNat
       omega
   . right
     refine ⟨(f1,b1),by rw [decide_eq_false hc]; rfl,L',hm,hd,fun x=>?_⟩
     rw [hx]
     constructor
     . rintro (h1 | h1)
       . exact .inl h1
       . exact .inr ⟨h1.1,h1.2.2⟩
     . rintro (h1 | h1)
       . exact .inl h1
       . exact .inr ⟨h1.1,by split at hc <;> omega,h1.2⟩
 . dsimp only; split <;> omega
 . dsimp only; split <;> omega
 . rcases h.st with ⟨rfl,rfl,h8⟩ | ⟨w,rfl,rfl,hw⟩
   . rw [decide_eq_false (by omega:¬ 8 < L.length)]; rfl
   . rfl
 . dsimp only
   constructor
   . exact .inl
   . rintro (h1 | h1)
     . exact h1
     . exfalso
       have:=h1.2.1
       split at this <;> omega
theorem EH:ofS []=[]:=by
 have:=EB []
 exact List.length_eq_zero_iff.1 (by simpa using this)
theorem Gz:ii []=some []:=by rw [FO (by decide),EH]
theorem Gn {n:Nat} (h:n≤1048576):Mx n (some []) none []:=⟨h,List.Pairwise.nil,by simp,.inl ⟨rfl,rfl,by decide⟩⟩
theorem CB (n:Int):m7 n=if n < 0 then some (.inl 2) else if 1048576 < n then some (.inl 5) else some (.inr (0,n,some [])):=by
 unfold m7
 rw [Gz]
 by_cases h1:n < 0
 . simp [h1]
 . by_cases h2:1048576 < n
   . simp [h1,h2]
   . simp [h1,h2]
theorem C7 (x y:Nat) (hx:x < 18446744073709551616) (hy:y < 18446744073709551616):IntKind.wrap .u64 ((BitVec.ofInt (IntKind.bits .u64) (x:Int) &&& ~~~BitVec.ofInt (IntKind.bits .u64) (y:Int)).toNat:Int)=0↔∀ i,x.testBit i=true→y.testBit i=true:=by
 have e:IntKind.wrap .u64 ((BitVec.ofInt (IntKind.bits .u64) (x:Int) &&& ~~~BitVec.ofInt (IntKind.bits .u64) (y:Int)).toNat:Int)=(((BitVec.ofNat 64 x &&& ~~~BitVec.ofNat 64 y).toNat:Nat):Int):=by
   show IntKind.wrap .u64 ((BitVec.ofInt 64 (x:Int) &&& ~~~BitVec.ofInt 64 (y:Int)).toNat:Int)=_
   rw [eC,eC]
   exact cX _ (BitVec.isLt _)
 have hb:∀ i,(BitVec.ofNat 64 x &&& ~~~BitVec.ofNat 64 y).toNat.testBit i=(x.testBit i&&!y.testBit i):=fun i=>by
   rw [BitVec.testBit_toNat,BitVec.getLsbD_and,BitVec.getLsbD_not,BitVec.getLsbD_ofNat,BitVec.getLsbD_ofNat]
   by_cases hj:i < 64
   . simp [hj]
   . have:x.testBit i=false:=Nat.testBit_lt_two_pow (Nat.lt_of_lt_of_le hx (show 2 ^ 64≤2 ^ i from Nat.pow_le_pow_right (by decide) (by omega)))
     simp [hj,this]
 rw [e]
 constructor
 . intro h i hi
   have h0:(BitVec.ofNat 64 x &&& ~~~BitVec.ofNat 64 y).toNat=0:=by omega
   have:=hb i
   rw [h0,Nat.zero_testBit,hi] at this
   cases hy:y.testBit i with
   | true=>rfl
   | false=>rw [hy] at this; cases this
 . intro h
   have h0:(BitVec.ofNat 64 x &&& ~~~BitVec.ofNat 64 y).toNat=0:=Nat.eq_of_testBit_eq fun i=>by
     rw [hb,Nat.zero_testBit]
     cases hx:x.testBit i with
     | false=>rfl
     | true=>rw [h i hx]; rfl
   rw [h0]
   rfl
theorem Fc {n:Nat} {l l':List Int} (h:Ds n l) (h':Ds n l'):∃ c q,ee n l n l'=some (c,q,l')∧Ds n q∧(∀ j,mem q j=(mem l j||mem l' j))∧(c=true↔∃ j,mem l' j=true∧mem l j=false):=by
 have hn:=h.hn
 have hl:=h.len
 have hl':=h'.len
 have wordOf:∀ {n:Nat} {l:List Int},(∀ w∈l,Wd w)→∀ (k:Nat) (hk:k < l.length),∃ x:Nat,l[k]=(x:Int)∧x < 18446744073709551616:=fun hw k hk=>by
   have:=hw _ (List.getElem_mem hk)
   unfold Wd at this
   exact ⟨_,(Int.toNat_of_nonneg this.1).symm,by omega⟩
 have key:=b0 (body:=pY l') (fun s=>∃ k:Nat,k≤l'.length∧s.2.1=(k:Int)∧s.2.2.length=l.length∧(∀ w∈s.2.2,Wd w)∧(∀ j,mem s.2.2 j=if j / 64 < k then mem l j||mem l' j else mem l j)∧(s.1=true↔∃ j,j / 64 < k∧mem l' j=true∧mem l j=false)) (fun s=>l'.length - s.2.1.toNat)
   (Q:=fun r=>r.2.length=l.length∧(∀ w∈r.2,Wd w)∧(∀ j,mem r.2 j=(mem l j||mem l' j))∧(r.1=true↔∃ j,mem l' j=true∧mem l j=false)) ?_ (s:=(false,(0:Int),l)) ⟨0,Nat.zero_le _,rfl,rfl,h.wd,fun j=>by simp,by simp⟩
 . obtain ⟨⟨c,q⟩,hlp,q1,q2,q3,q4⟩:=key
   refine ⟨c,q,?_,⟨hn,by rw [q1]; exact hl,q2,fun j hj=>?_⟩,q3,q4⟩
   . unfold ee
     rw [hlp]
     simp
   . rw [q3,h.top j hj,h'.top j hj]; rfl
 . rintro ⟨c,i,q⟩ ⟨k,hk,rfl,g1,g2,g3,g4⟩
   dsimp only at g1 g2 g3 g4 ⊢
   unfold pY
   by_cases hkl:k < l'.length
   . left
     have hkq:k < q.length:=by omega
     obtain ⟨x,hx,hx2⟩:=wordOf (n:=n) h'.wd k hkl
     obtain ⟨y,hy,hy2⟩:=wordOf (n:=n) g2 k hkq
     have hxs:l'[k]? = some (x:Int):=by rw [List.getElem?_eq_getElem hkl,hx]
     have hys:q[k]? = some (y:Int):=by rw [List.getElem?_eq_getElem hkq,hy]
     have hmy:∀ j,j / 64=k→mem l j=y.testBit (j % 64):=fun j hj=>by
       have:=g3 j
       rw [if_neg (by omega),dw (by rw [hj]; exact hys)] at this
       exact this.symm
     have hmx:∀ j,j / 64=k→mem l' j=x.testBit (j % 64):=fun j hj=>dw (by rw [hj]; exact hxs)
     have ha:=C7 x y hx2 hy2
     simp only [dlt hkl,cond_true,ah hkl,ah hkq,hx,hy,Option.bind_some,aq hkl (by omega),Int.toNat_natCast]
     by_cases hz:IntKind.wrap .u64 ((BitVec.ofInt (IntKind.bits .u64) (x:Int) &&& ~~~BitVec.ofInt (IntKind.bits .u64) (y:Int)).toNat:Int)=0
     . have hsub:=ha.1 hz
       have hsub2:∀ j,j / 64=k→mem l' j=true→mem l j=true:=fun j hj hm=>by
         rw [hmx j hj] at hm
         rw [hmy j hj]
         exact hsub _ hm
       refine ⟨(c,((k + 1:Nat):Int),q),by rw [decide_eq_true hz]; rfl,⟨k + 1,by omega,rfl,g1,g2,fun j=>?_,?_⟩,?_⟩
       . rw [g3]
         by_cases h1:j / 64 < k
         . rw [if_pos h1,if_pos (by omega)]
         . rw [if_neg h1]
           by_cases h2:j / 64=k
           . rw [if_pos (by omega)]
             cases hm:mem l' j with
             | false=>simp
             | true=>rw [hsub2 j h2 hm]; rfl
           . rw [if_neg (by omega)]
       . rw [g4]
         constructor
         . rintro ⟨j,h1,h2⟩; exact ⟨j,by omega,h2⟩
         . rintro ⟨j,h1,h2,h3⟩
           by_cases h4:j / 64=k
           . rw [hsub2 j h4 h2] at h3; cases h3
           . exact ⟨j,by omega,h2,h3⟩
       . show l'.length - ((k + 1:Nat):Int).toNat < l'.length - ((k:Nat):Int).toNat
         rw [Int.toNat_natCast,Int.toNat_natCast]; omega
     . have hw:IntKind.wrap .u64 ((BitVec.ofInt (IntKind.bits .u64) (y:Int) ||| BitVec.ofInt (IntKind.bits .u64) (x:Int)).toNat:Int)=((y ||| x:Nat):Int):=orU y x hy2 hx2
       have hex:∃ i,x.testBit i=true∧y.testBit i=false:=by
         refine Classical.byContradiction fun hc=>hz (ha.2 fun i hi=>?_)
         cases hyi:y.testBit i with
         | true=>rfl
         | false=>exact absurd ⟨i,hi,hyi⟩ hc
       obtain ⟨i,hi1,hi2⟩:=hex
       have hi64:i < 64:=by
         rcases Nat.lt_or_ge i 64 with h1 | h1
         . exact h1
         . rw [Nat.testBit_lt_two_pow (Nat.lt_of_lt_of_le hx2 (show 2 ^ 64≤2 ^ i from Nat.pow_le_pow_right (by decide) h1))] at hi1
           cases hi1
       refine ⟨(true,((k + 1:Nat):Int),q.set k ((y ||| x:Nat):Int)),by rw [decide_eq_false hz,hw]; rfl,⟨k + 1,by omega,rfl,by rw [List.length_set]; exact g1,fun w hw=>?_,fun j=>?_,?_⟩,?_⟩
       . rcases List.mem_or_eq_of_mem_set hw with hw | rfl
         . exact g2 w hw
         . have:=Nat.or_lt_two_pow (n:=64) hy2 hx2
           unfold Wd
           omega
       . dsimp only
         rw [w9 hys]
         by_cases h2:j / 64=k
         . rw [if_pos h2,if_pos (by omega),Nat.testBit_or,hmy j h2,hmx j h2]
         . rw [if_neg h2,g3]
           by_cases h1:j / 64 < k
           . rw [if_pos h1,if_pos (by omega)]
           . rw [if_neg h1,if_neg (by omega)]
       . refine ⟨fun _=>⟨64 * k + i,by omega,?_,?_⟩,fun _=>rfl⟩
         . rw [hmx _ (by omega),show (64 * k + i) % 64=i by omega]; exact hi1
         . rw [hmy _ (by omega),show (64 * k + i) % 64=i by omega]; exact hi2
       . show l'.length - ((k + 1:Nat):Int).toNat < l'.length - ((k:Nat):Int).toNat
         rw [Int.toNat_natCast,Int.toNat_natCast]; omega
   . right
     have e:k=l'.length:=by omega
     subst e
     have hlt:∀ j,mem l' j=true→j / 64 < l'.length:=fun j hj=>by
       have:=fT h' hj
       omega
     refine ⟨(c,q),by simp,g1,g2,fun j=>?_,?_⟩
     . rw [g3]
       by_cases h1:j / 64 < l'.length
       . rw [if_pos h1]
       . rw [if_neg h1]
         cases hm:mem l' j with
         | false=>simp
         | true=>exact absurd (hlt j hm) h1
     . rw [g4]
       constructor
       . rintro ⟨j,_,h2⟩; exact ⟨j,h2⟩
       . rintro ⟨j,h2⟩; exact ⟨j,hlt j h2.1,h2⟩
theorem CZ {n m:Nat} (h:n≠m) (l l':List Int):ee n l m l'=some (false,l,l'):=by
 unfold ee
 have:¬ ((n:Int)=(m:Int)):=by omega
 simp [this]
theorem Rp.or {n m:Nat} {l l' L L':List Int} (h:Rp n l L) (h':Rp m l' L'):∃ q,ee n l m l'=some (decide ((n:Int)=(m:Int))&&(rOr n L L').2,q,l')∧Rp n q (if (n:Int)=(m:Int) then (rOr n L L').1 else L):=by
 by_cases e:n=m
 . subst e
   obtain ⟨c,q,h1,h2,h3,h4⟩:=Fc h.ds h'.ds
   refine ⟨q,?_,?_⟩
   . rw [h1]
     have:c=(rOr n L L').2:=by
       rw [Bool.eq_iff_iff,h4,yS]
       constructor
       . rintro ⟨j,h5,h6⟩
         have:=fT h'.ds h5
         refine ⟨(j:Int),(h'.mm _).2 ⟨Int.natCast_nonneg _,by simpa using h5⟩,⟨Int.natCast_nonneg _,by omega⟩,fun h7=>?_⟩
         have:=((h.mm _).1 h7).2
         rw [Int.toNat_natCast,h6] at this
         cases this
       . rintro ⟨x,h5,h6,h7⟩
         refine ⟨x.toNat,((h'.mm _).1 h5).2,?_⟩
         cases h8:mem l x.toNat with
         | false=>rfl
         | true=>exact absurd ((h.mm x).2 ⟨h6.1,h8⟩) h7
     rw [this]
     simp
   . rw [if_pos rfl]
     refine ⟨h2,zg _ _ _ h.rs,fun x=>?_⟩
     rw [n8,h3,Bool.or_eq_true,h.mm,h'.mm]
     constructor
     . rintro (h5 | ⟨h5,h6⟩)
       . exact ⟨h5.1,.inl h5.2⟩
       . exact ⟨h5.1,.inr h5.2⟩
     . rintro ⟨h5,h6 | h6⟩
       . exact .inl ⟨h5,h6⟩
       . have:=fT h'.ds h6
         exact .inr ⟨⟨h5,h6⟩,h5,by omega⟩
 . have e2:¬ ((n:Int)=(m:Int)):=by omega
   rw [CZ e,if_neg e2,decide_eq_false e2]
   exact ⟨l,rfl,h⟩
theorem Mx.flag {n:Nat} {f:Option (List Int)} {b:Option (Int×List Int)} {L:List Int} (h:Mx n f b L):(b.isSome||decide (8 < L.length))=b.isSome:=by
 rcases h.st with ⟨rfl,rfl,h8⟩ | ⟨w,rfl,rfl,hw⟩
 . rw [decide_eq_false (by omega:¬ 8 < L.length)]; rfl
 . rfl
theorem wq {n:Nat} {f f2:Option (List Int)} {b b2:Option (Int×List Int)} {L M:List Int} (h:Mx n f b L) (h2:Mx n f2 b2 M):∃ f' b',ed n f b n f2 b2=some ((rOr n L M).2,f',b',f2,b2)∧Mx n f' b' (rOr n L M).1∧b'.isSome=((b.isSome||b2.isSome)||decide (8 < (rOr n L M).1.length)):=by
 have hn:=h.hn
 unfold ed
 simp only [decide_true,Bool.not_true,cond_false,ky,Option.bind_some]
 rcases h2.st with ⟨rfl,rfl,h8⟩ | ⟨w2,rfl,rfl,hw2⟩
 . -- a few
   have hsp:=ll hn h2.rs h2.bd (by omega)
   have at0:bS (some M) 0=some (M.getD 0 0,decide (0 < M.length)):=gf 0
   have key:∃ f' b',loop (jz n M) (M.getD 0 0,decide (0 < M.length),f,b,false)=some (f',b',(rOr n L M).2)∧Mx n f' b' (rOr n L M).1∧b'.isSome=(b.isSome||decide (8 < (rOr n L M).1.length)):=by
     have hind:∀ d k,k + d=M.length→∀ fk bk,Mx n fk bk (rOr n L (M.take k)).1→bk.isSome=(b.isSome||decide (8 < (rOr n L (M.take k)).1.length)) →
         ∃ f' b',loop (jz n M) (M.getD k 0,decide (k < M.length),fk,bk,(rOr n L (M.take k)).2)=some (f',b',(rOr n L M).2)∧Mx n f' b' (rOr n L M).1∧b'.isSome=(b.isSome||decide (8 < (rOr n L M).1.length)):=by
       intro d
       induction d with
       | zero =>
         intro k hk fk bk m1 m2
         have e:k=M.length:=by omega
         subst e
         rw [List.take_length] at m1 m2 ⊢
         refine ⟨fk,bk,eK ?_,m1,m2⟩
         unfold jz
         simp
       | succ d ih =>
         intro k hk fk bk m1 m2
         have hkl:k < M.length:=by omega
         have hg:M.getD k 0=M[k]:=by simp [hkl]
         obtain ⟨f3,b3,a1,a2,a3⟩:=nC m1 M[k]
         have e1:(rOr n L (M.take (k + 1))).1=aC n (rOr n L (M.take k)).1 M[k]:=by rw [aO hkl,rT]
         have e2:(rOr n L (M.take (k + 1))).2=((rOr n L (M.take k)).2||bw n (rOr n L (M.take k)).1 M[k]):=by rw [aO hkl,rT]
         have hle:(rOr n L (M.take k)).1.length≤(aC n (rOr n L (M.take k)).1 M[k]).length:=sF m1.rs a2.rs (fun x hx=>(dm _ _).2 (.inl hx))
         obtain ⟨f',b',c1,c2,c3⟩:=ih (k + 1) (by omega) f3 b3 (by rw [e1]; exact a2) (by
           rw [e1,a3,m2]
           by_cases h1:8 < (rOr n L (M.take k)).1.length
           . have h2:8 < (aC n (rOr n L (M.take k)).1 M[k]).length:=by omega
             simp [h1,h2]
           . simp [h1])
         refine ⟨f',b',?_,c2,c3⟩
         rw [← c1]
         refine nA ?_
         unfold jz
         simp only [decide_eq_true hkl,cond_true,hg,a1,Option.bind_some,rn hsp hkl,gf,e2]
         cases bw n (rOr n L (M.take k)).1 M[k] <;> simp
     exact hind M.length 0 (by omega) f b h h.flag.symm
   obtain ⟨f',b',k1,k2,k3⟩:=key
   refine ⟨f',b',?_,k2,by rw [k3]; simp⟩
   simp only [Option.isSome_none,cond_false,show fx M=some M from rfl,Option.bind_some,at0,k1]
 . -- bits
   have fin:∀ (w:List Int),Rp n w L→∃ q,ee n w n w2=some ((rOr n L M).2,q,w2)∧Rp n q (rOr n L M).1:=fun w hw=>by
     obtain ⟨q,o1,o2⟩:=hw.or hw2
     rw [if_pos rfl] at o2
     exact ⟨q,by rw [o1]; simp,o2⟩
   rcases h.st with ⟨rfl,rfl,h8⟩ | ⟨w,rfl,rfl,hw⟩
   . have hsp:=ll hn h.rs h.bd (by omega)
     obtain ⟨w,t1,t2⟩:=vG hn hsp h.bd none
     obtain ⟨q,o1,o2⟩:=fin w t2
     refine ⟨none,some ((n:Int),q),?_,⟨hn,o2.rs,o2.bd,.inr ⟨q,rfl,rfl,o2⟩⟩,rfl⟩
     simp only [Option.isSome_none,Option.isSome_some,cond_true,Bool.not_false,t1,Option.bind_some,o1]
   . obtain ⟨q,o1,o2⟩:=fin w hw
     refine ⟨none,some ((n:Int),q),?_,⟨hn,o2.rs,o2.bd,.inr ⟨q,rfl,rfl,o2⟩⟩,rfl⟩
     simp only [Option.isSome_some,cond_true,Bool.not_true,cond_false,Option.bind_some,o1]
end
end Go.Proofs.YtaajcbeoafhmaaaGreatDoor
