/- A part of the proof: what lies ahead of the law. Nothing is claimed here. -/
import Derived.Test.YtaajcbeoafhmaaaGreatDoorZ3
import Derived.Shelf.Small.Bits
import Derived.Shelf.Small.Wraps
import Derived.Shelf.Strconv.Itoa0
import Derived.Shelf.Sort.Plain
import Derived.Shelf.Slices.Reverse
import Derived.Ground.Names2Prog
import Derived.Shelf.Slices.Clone
import Derived.Shelf.Slices.CompactI
import Derived.Shelf.Slices.SearchI
import Derived.Shelf.Slices.Cells
import Derived.Shelf.Slices.In.SortNone
import Derived.Shelf.Slices.Empties
import Derived.Ground.SlgnProg
import Derived.Shelf.SlicesE.Reverse
import Derived.Shelf.SlicesE.Clone
import Derived.Test.YtaajcbeoafhmaaaGreatDoorProg
import Derived.Sort.OwnSortedInts
import Derived.Shelf.Spec.SlicesInsert
import Derived.Shelf.Spec.SlicesInsertGrow
import Derived.Shelf.Slices.Delete
import Derived.Shelf.Spec.TrailingZeros
import Derived.Laws.Pointers
import Derived.MapKept
import Derived.Tactics
import Derived.Tactics2
import Derived.Defers
import Derived.Recover
namespace Go.Proofs.YtaajcbeoafhmaaaGreatDoor
noncomputable section
set_option linter.unusedVariables false
set_option linter.unusedSimpArgs false
set_option linter.unnecessarySimpa false
set_option linter.unusedSectionVars false
open Go.RowKit
section
variable [BldA]
section
variable {R:Type} {P:Program} {E:En} {n:Nat} {m m':List M} {K K':Hp} {fr:Frz} {σ σ':Zt} {ρ ρ':Sl1} {w w':World}
theorem wO {c:Code} {f:Hn P→Zt→(R:Type)→(Exit→Hn P→Zt→Option R)→Option R} (hf:Fok P n c f) (hrd:jh E fr) {s:Sh} {act W:List Nat} {a b:Hn P} {k:Hn P→Zt→Option R} {r:R} {Q:Exit→Act→World→Prop} (h:iW f s act W a b σ k=some r) (hr:Rel E fr σ m K ρ w)
   (hQ:∀ h' σ' m' K' ρ' w',Rel E fr σ' m' K' ρ' w'→Same σ σ'→k h' σ'=some r→Q .normal (Go.Proofs.YtaajcbeoafhmaaaGreatDoor.act1 n ρ') w'):c.wpIn (aA E.rd) 0 P Q (Go.Proofs.YtaajcbeoafhmaaaGreatDoor.act1 n ρ) w:=by
 unfold iW at h
 obtain ⟨x,hx,h⟩:=ob h
 refine hf _ E ⟨m,K,ρ,fun _=>false,fr.F,fr.k0⟩ hrd a (σ.frz act) _ x m K ρ w Q hx (hr.frz act) (fun e h' σ' m' K' ρ' w' h1 h2 h3=>?_)
 cases e with
 | normal =>
   obtain ⟨h'',σ2,m2,K2,g1,g2,g3⟩:=aK h' h3 h1
   have hi:Inn σ fr ⟨m,K,ρ,fun _=>false,fr.F,fr.k0⟩ m K ρ (bD σ.H act) σ2 W:=⟨rfl,rfl,rfl,rfl,rfl,(g2.2.trans h2.2),fO,fun _ _=>rfl⟩
   obtain ⟨σ3,m3,q1,q2,q3⟩:=oF hr hi g3 g1 h
   exact hQ b σ3 m3 K2 ρ' w' q3 q2 q1
 | _=>cases h3
theorem wY {c:Code} {f:Hn P→Zt→(R:Type)→(Exit→Hn P→Zt→Option R)→Option R} (hf:Fok P n c f) (hrd:jh E fr) {s:Sh} {act W:List Nat} {a b:Hn P} {k:Exit→Hn P→Zt→Option R} {r:R} {Q:Exit→Act→World→Prop} (h:jb f s act W a b σ k=some r) (hr:Rel E fr σ m K ρ w)
   (hQ:∀ e h' σ' m' K' ρ' w',Rel E fr σ' m' K' ρ' w'→Same σ σ'→k e h' σ'=some r→Q e (Go.Proofs.YtaajcbeoafhmaaaGreatDoor.act1 n ρ') w'):c.wpIn (aA E.rd) 0 P Q (Go.Proofs.YtaajcbeoafhmaaaGreatDoor.act1 n ρ) w:=by
 unfold jb at h
 obtain ⟨o,ho,h⟩:=ob h
 refine hf _ E ⟨m,K,ρ,fun _=>false,fr.F,fr.k0⟩ hrd a (σ.frz act) _ o m K ρ w Q ho (hr.frz act) (fun e h' σ' m' K' ρ' w' h1 h2 h3=>?_)
 have other:(k e h' (σ.thaw σ' (bD σ.H act) [])).map Sum.inr=some o→Q e (Go.Proofs.YtaajcbeoafhmaaaGreatDoor.act1 n ρ') w':=fun h3=>by
   rw [Option.map_eq_some_iff] at h3
   obtain ⟨r',h4,rfl⟩:=h3
   cases h
   have hi:Inn σ fr ⟨m,K,ρ,fun _=>false,fr.F,fr.k0⟩ m K ρ (bD σ.H act) σ' []:=⟨rfl,rfl,rfl,rfl,rfl,h2.2,fO,fun _ _=>rfl⟩
   obtain ⟨q1,q2⟩:=sr hr hi h1
   exact hQ e h' _ m' K' ρ' w' q2 q1 h4
 cases e with
 | normal =>
   obtain ⟨h'',σ2,m2,K2,g1,g2,g3⟩:=aK h' h3 h1
   rw [Option.map_eq_some_iff] at g1
   obtain ⟨x,g1,rfl⟩:=g1
   have hi:Inn σ fr ⟨m,K,ρ,fun _=>false,fr.F,fr.k0⟩ m K ρ (bD σ.H act) σ2 W:=⟨rfl,rfl,rfl,rfl,rfl,(g2.2.trans h2.2),fO,fun _ _=>rfl⟩
   obtain ⟨σ3,m3,q1,q2,q3⟩:=oF hr hi g3 g1 h
   exact hQ .normal b σ3 m3 K2 ρ' w' q3 q2 q1
 | _=>exact other h3
theorem Fd {s:Sh} {W:List Nat} {rest:List HA} {x:TL s.ts} (hr:Rel E fr σ m K ρ w) {g:Gt} {f:Nat→SV} {H:List HA} {us:List ab}
   (hg:s.get f H=some g) (hx:TL.of s.ts g.ds=some x) (hok:∀ a∈H,HA.ok m' K' a) (hf:∀ i,SV.rel m' K' (f i) (ρ' i)) (hmm:m <+: m') (hKK:K.le K') (hrest:∀ a∈rest,a∈σ.H) (hs:Sep E K' (H.map (HA.conc m')++(us++(rest.map (HA.conc m)++σ.fz fr))) w')
   (hds:MOk fr.k0 K' ρ'.ds) (hold:∀ i,i∉W→ρ' i=ρ i) {vs:List (Nat×SV)} {u:Un} (hu:s.un (TL.list s.ts x) σ.nx=some (vs,u)) :
   ∃ m'',Rel E ⟨m,K,ρ,fun i=>W.contains i,fr.F,fr.k0⟩ ⟨fun i=>bif W.contains i then .any else σ.get i,be (bx σ) vs,u.H.map (HA.sub (bx σ)),rest++σ.Hf,u.nx,false⟩ m'' K' ρ' w':=by
 rw [TL.of_list hx] at hu
 have hoo:bp s.bl m.length=true:=by
   unfold Sh.un at hu
   rw [hr.nx]
   cases ho:bp s.bl σ.nx with
   | true=>rfl
   | false=>rw [ho] at hu; cases hu
 obtain ⟨vs',u',ms,e1,e2,e3,e4,e5,e6,e7,e8⟩:=Sh.get_un hg hok hmm hoo
 rw [hr.nx,hu] at e1
 cases e1
 have hp':=ay m ms
 refine ⟨m++ms,Rel.subs (σ:=⟨fun i=>bif W.contains i then .any else σ.get i,vs,u.H,rest++σ.Hf,u.nx,false⟩) (nw hr.toPur (m':=m++ms) (fun _ _ k=>an hp' k) hKK) ⟨⟨ay m ms,hKK,e2,fun e=>(by cases e),fun i=>?_,fun i hi=>?_,fun i hi=>?_,fun i sv hi=>nF e3 hi _ (hf i),e4,fun a ha=>?_,hds⟩,?_⟩⟩
 . show SV.rel m K (bif W.contains i then .any else σ.get i) (ρ i)
   cases W.contains i with
   | true=>exact trivial
   | false=>exact hr.toPur.get i
 . show (bif W.contains i then SV.any else σ.get i) = .any
   have hi:W.contains i=true:=hi
   rw [hi]; rfl
 . by_cases hW:i∈W
   . exact .inl (by simpa using hW)
   . exact .inr (hold i hW)
 . refine hr.toPur.all a ?_
   rcases List.mem_append.1 ha with ha | ha
   . exact List.mem_append_left _ (hrest a ha)
   . exact List.mem_append_right _ ha
 . have s1:=e6 E _ w' hs
   have s2:Sep E K' ((g.H.map (HA.conc m')++us)++(u.H.map (HA.conc (m++ms))++(rest.map (HA.conc m)++σ.fz fr))) w':=Sep.perm (by
     rw [List.append_assoc]
     refine (iY _ _ _).trans (List.Perm.append_left _ (iY _ _ _)) ) s1
   show Sep E K' (u.H.map (HA.conc (m++ms))++((rest++σ.Hf).map (HA.conc m)++fr.F)) w'
   rw [List.map_append,hr.toPur.fz',List.append_assoc]
   exact Sep.drops s2
theorem vX {s:Sh} {ds:List Dat} {nx:Nat} {o:List (Nat×SV)×Un} (h:s.un ds nx=some o):bp s.bl nx=true:=by
 unfold Sh.un at h
 cases ho:bp s.bl nx with
 | true=>rfl
 | false=>rw [ho] at h; cases h
theorem Ep {c:Code} {f:Hn P→Zt→(R:Type)→(Exit→Hn P→Zt→Option R)→Option R} (hf:Fok P n c f) (hrd:jh E fr) {s:Sh} {W:List Nat} {a:Hn P} {k:Exit→Hn P→Zt→Option R} {r:R} {Q:Exit→Act→World→Prop} (h:oM f s W a σ k=some r) (hr:Rel E fr σ m K ρ w)
   (hQ:∀ e h' σ' m' K' ρ' w',Rel E fr σ' m' K' ρ' w'→Same σ σ'→k e h' σ'=some r→Q e (Go.Proofs.YtaajcbeoafhmaaaGreatDoor.act1 n ρ') w'):(Code.loop c).wpIn (aA E.rd) 0 P Q (Go.Proofs.YtaajcbeoafhmaaaGreatDoor.act1 n ρ) w:=by
 unfold oM at h
 split at h
 . rename_i g hg
   split at h
   . rename_i x0 hx0
     obtain ⟨N,hN⟩:=rq h
     refine wpIn_loop_rounds N ?_
     -- a round's head
     have round:∀ (N:Nat) (x:TL s.ts) (m1:List M) (K1:Hp) (ρ1:Sl1) (w1:World) (vs:List (Nat×SV)) (u:Un),cq (kM f s W g a σ k) N x=some r→s.un (TL.list s.ts x) σ.nx=some (vs,u) →
         Rel E ⟨m,K,ρ,fun i=>W.contains i,fr.F,fr.k0⟩ ⟨fun i=>bif W.contains i then .any else σ.get i,be (bx σ) vs,u.H.map (HA.sub (bx σ)),g.H++σ.Hf,u.nx,false⟩ m1 K1 ρ1 w1→Code.roundsIn (aA E.rd) 0 P c Q N (Go.Proofs.YtaajcbeoafhmaaaGreatDoor.act1 n ρ1) w1:=by
       intro N
       induction N with
       | zero=>intro x m1 K1 ρ1 w1 vs u hi; cases hi
       | succ N ih =>
         intro x m1 K1 ρ1 w1 vs u hi hu hrel
         unfold cq at hi
         obtain ⟨o,ho,hi⟩:=ob hi
         rw [roundsIn_succ]
         unfold kM at ho
         rw [hu] at ho
         simp only at ho
         have hgsub:∀ a∈g.H,a∈σ.H:=by
           obtain ⟨_,_,_,_,_,_,_,e5,_⟩:=Sh.get_un (m:=m) (K:=K) hg hr.okH (List.prefix_refl m) (by rw [hr.nx]; exact vX hu)
           exact e5
         refine hf _ E ⟨m,K,ρ,fun i=>W.contains i,fr.F,fr.k0⟩ hrd a _ _ o m1 K1 ρ1 w1 _ ho hrel (fun e h' σ' m' K' ρ' w' h1 h2 h3=>?_)
         have other:e ≠ .normal→(k e h' (σ.thaw σ' g.H W)).map Sum.inr=some o→Q e (Go.Proofs.YtaajcbeoafhmaaaGreatDoor.act1 n ρ') w':=fun _ h3=>by
           rw [Option.map_eq_some_iff] at h3
           obtain ⟨r',h4,rfl⟩:=h3
           cases hi
           have hii:Inn σ fr ⟨m,K,ρ,fun i=>W.contains i,fr.F,fr.k0⟩ m K ρ g.H σ' W:=⟨rfl,rfl,rfl,rfl,rfl,h2.2,hgsub,fun i hi=>by simpa using hi⟩
           obtain ⟨q1,q2⟩:=sr hr hii h1
           exact hQ e h' _ m' K' ρ' w' q2 q1 h4
         cases e with
         | normal =>
           obtain ⟨h'',σ2,m2,K2,g1,g2,g3⟩:=aK h' h3 h1
           rw [Option.map_eq_some_iff] at g1
           obtain ⟨x',g1,rfl⟩:=g1
           have hsame:=h2.trans g2
           unfold Zt.pack at g1
           replace g1:=aj g1; obtain ⟨hk,g1⟩:=g1
           split at g1
           . rename_i g' hg'
             cases hu':s.un (TL.list s.ts x') σ.nx with
             | none =>
               -- the next round would not run
               cases N with
               | zero=>cases hi
               | succ N =>
                 unfold cq at hi
                 obtain ⟨o2,ho2,_⟩:=ob hi
                 unfold kM at ho2
                 rw [hu'] at ho2
                 cases ho2
             | some q =>
               obtain ⟨vs',u'⟩:=q
               have hii:Inn σ fr ⟨m,K,ρ,fun i=>W.contains i,fr.F,fr.k0⟩ m K ρ g.H σ2 W:=⟨rfl,rfl,rfl,rfl,rfl,hsame.2,hgsub,fun i hi=>by simpa using hi⟩
               obtain ⟨m'',hrel'⟩:=Fd (W:=W) (rest:=g.H) (us:=[]) hr hg' g1 g3.okH g3.toPur.get g3.hm g3.hK hgsub (by rw [List.nil_append]; exact hii.sep hr g3) g3.mks (fun i hi=>by
                 have:=g3.old i (ne hk hi)
                 rcases this with h4 | h4
                 . exact absurd (by simpa using h4) hi
                 . exact h4) hu'
               exact ih x' m'' K2 ρ' w' vs' u' hi hu' hrel'
           . cases g1
         | exit i=>exact other nofun h3
         | goto l=>exact other nofun h3
         | ret=>exact other nofun h3
         | panic c=>exact other nofun h3
         | outgrown=>exact other nofun h3
     cases hu:s.un (TL.list s.ts x0) σ.nx with
     | none =>
       cases N with
       | zero=>cases hN
       | succ N =>
         unfold cq at hN
         obtain ⟨o2,ho2,_⟩:=ob hN
         unfold kM at ho2
         rw [hu] at ho2
         cases ho2
     | some q =>
       obtain ⟨vs,u⟩:=q
       have hu2:=hu
       rw [TL.of_list hx0] at hu2
       obtain ⟨vs',u',ms,e1,e2,e3,e4,e5,e6,e7,e8⟩:=Sh.get_un (m:=m) (K:=K) hg hr.okH (List.prefix_refl m) (by rw [hr.nx]; exact vX hu2)
       rw [hr.nx,hu2] at e1
       cases e1
       have hp':=ay m ms
       refine round N x0 (m++ms) K ρ w vs u hN hu (Rel.subs (σ:=⟨fun i=>bif W.contains i then .any else σ.get i,vs,u.H,g.H++σ.Hf,u.nx,false⟩) (nw hr.toPur (m':=m++ms) (fun _ _ k=>an hp' k) (Hp.le_refl K)) ⟨⟨ay m ms,Hp.le_refl K,e2,fun e=>(by cases e),fun i=>?_,fun i hi=>?_,fun i hi => .inr rfl,fun i sv hi=>nF e3 hi _ (hr.toPur.get i),e4,fun a ha=>?_,hr.mks⟩,?_⟩)
       . show SV.rel m K (bif W.contains i then .any else σ.get i) (ρ i)
         cases W.contains i with
         | true=>exact trivial
         | false=>exact hr.toPur.get i
       . show (bif W.contains i then SV.any else σ.get i) = .any
         have hi:W.contains i=true:=hi
         rw [hi]; rfl
       . refine hr.toPur.all a ?_
         rcases List.mem_append.1 ha with ha | ha
         . exact List.mem_append_left _ (e5 a ha)
         . exact List.mem_append_right _ ha
       . have s1:=e6 E _ w hr.toSep
         show Sep E K (u.H.map (HA.conc (m++ms))++((g.H++σ.Hf).map (HA.conc m)++fr.F)) w
         rw [List.map_append,hr.toPur.fz',List.append_assoc]
         exact s1
   . cases h
 . cases h
theorem wj {c:Code} {f:Hn P→Zt→(R:Type)→(Exit→Hn P→Zt→Option R)→Option R} (hf:Fok P n c f) (hrd:jh E fr) {k:Exit→Hn P→Zt→Option R} {r:R} {Q:Exit→Act→World→Prop}
   (hQ:∀ e h' σ' m' K' ρ' w',Rel E fr σ' m' K' ρ' w'→Same σ σ'→k e h' σ'=some r→Q e (Go.Proofs.YtaajcbeoafhmaaaGreatDoor.act1 n ρ') w'):∀ (N:Nat) {h:Hn P} {σ1:Zt} {m:List M} {K:Hp} {ρ:Sl1} {w:World},kX (fun h σ k=>f h σ _ k) k N h σ1=some r→Rel E fr σ1 m K ρ w→Same σ σ1→Code.roundsIn (aA E.rd) 0 P c Q N (Go.Proofs.YtaajcbeoafhmaaaGreatDoor.act1 n ρ) w
 | 0,h,σ1,m,K,ρ,w,hh,hr,hs=>by cases hh
 | N + 1,h,σ1,m,K,ρ,w,hh,hr,hs=>by
   rw [roundsIn_succ]
   unfold kX at hh
   refine hf _ E fr hrd h σ1 _ r m K ρ w _ hh hr (fun e h' σ' m' K' ρ' w' h1 h2 h3=>?_)
   cases e with
   | normal=>exact wj hf hrd hQ N h3 h1 (hs.trans h2)
   | exit i=>exact hQ _ h' σ' m' K' ρ' w' h1 (hs.trans h2) h3
   | goto i=>exact hQ _ h' σ' m' K' ρ' w' h1 (hs.trans h2) h3
   | ret=>exact hQ _ h' σ' m' K' ρ' w' h1 (hs.trans h2) h3
   | panic i=>exact hQ _ h' σ' m' K' ρ' w' h1 (hs.trans h2) h3
   | outgrown=>exact hQ _ h' σ' m' K' ρ' w' h1 (hs.trans h2) h3
theorem wg {y:Code} {k:Exit→Hn P→Zt→Option R} {f:Hn P→Zt→Option R} {r:R} {Q:Exit→Act→World→Prop} {σ0:Zt} (hf:∀ h' σ' m' K' ρ' w',Rel E fr σ' m' K' ρ' w'→Same σ0 σ'→f h' σ'=some r→y.wpIn (aA E.rd) 0 P Q (Go.Proofs.YtaajcbeoafhmaaaGreatDoor.act1 n ρ') w')
   (hQ:∀ e h' σ' m' K' ρ' w',Rel E fr σ' m' K' ρ' w'→Same σ0 σ'→k e h' σ'=some r→Q e (Go.Proofs.YtaajcbeoafhmaaaGreatDoor.act1 n ρ') w'):∀ e h' σ' m' K' ρ' w',Rel E fr σ' m' K' ρ' w'→Same σ0 σ'→iT k f e h' σ'=some r→Exit.then (y.wpIn (aA E.rd) 0 P Q) Q e (Go.Proofs.YtaajcbeoafhmaaaGreatDoor.act1 n ρ') w':=by
 intro e h' σ' m' K' ρ' w' h1 h2 h3
 cases e with
 | normal=>exact hf h' σ' m' K' ρ' w' h1 h2 h3
 | exit i=>exact hQ _ h' σ' m' K' ρ' w' h1 h2 h3
 | goto i=>exact hQ _ h' σ' m' K' ρ' w' h1 h2 h3
 | ret=>exact hQ _ h' σ' m' K' ρ' w' h1 h2 h3
 | panic i=>exact hQ _ h' σ' m' K' ρ' w' h1 h2 h3
 | outgrown=>exact hQ _ h' σ' m' K' ρ' w' h1 h2 h3
theorem ce {J:Rn P} (hJ:JOk J):∀ (c:Code),Fok P n c (fun h σ R k=>exec J n c h σ k)
 | .skip=>fun R E fr hrd h σ k r m K ρ w Q hh hr hQ=>wpIn_skip (hQ _ h σ m K ρ w hr Same.rfl' hh)
 | .ret=>fun R E fr hrd h σ k r m K ρ w Q hh hr hQ=>wpIn_ret (hQ _ h σ m K ρ w hr Same.rfl' hh)
 | .exit id=>fun R E fr hrd h σ k r m K ρ w Q hh hr hQ=>wpIn_exit (hQ _ h σ m K ρ w hr Same.rfl' hh)
 | .label l=>fun R E fr hrd h σ k r m K ρ w Q hh hr hQ=>wpIn_label (hQ _ h σ m K ρ w hr Same.rfl' hh)
 | .scope b=>fun R E fr hrd h σ k r m K ρ w Q hh hr hQ=>by
   refine AB (ce hJ b R E fr hrd h σ _ r m K ρ w _ (show exec J n b h σ (xU k)=some r from hh) hr (fun e h' σ' m' K' ρ' w' h1 h2 h3=>?_))
   cases e with
   | goto l=>cases h3
   | normal=>exact hQ _ h' σ' m' K' ρ' w' h1 h2 h3
   | exit i=>exact hQ _ h' σ' m' K' ρ' w' h1 h2 h3
   | ret=>exact hQ _ h' σ' m' K' ρ' w' h1 h2 h3
   | panic i=>exact hQ _ h' σ' m' K' ρ' w' h1 h2 h3
   | outgrown=>exact hQ _ h' σ' m' K' ρ' w' h1 h2 h3
 | .region id ops draw=>fun R E fr hrd h σ k r m K ρ w Q hh hr hQ=>by
   change (bif !ops.toList.all b9 then none else bif draw then az h σ fun h σ=>ju n ops.toList h σ fun h σ=>(match h with | .mix plan fin tail act r=>uo n ops plan fin tail act r σ (k .normal) | .tr t s act a b=>trS n ops t s act a b σ (k .normal) | _=>none) else az h σ fun h σ=>uk J n ops h σ (k .normal))=some r at hh
   replace hh:=dE hh; obtain ⟨hn,hh⟩:=hh
   have hn:ops.toList.all b9=true:=by simpa using hn
   cases draw with
   | false =>
     simp only [cond_false] at hh
     obtain ⟨h1,σ1,m1,K1,hh,g1,hr⟩:=aK h hh hr
     replace hQ:∀ e h' σ' m' K' ρ' w',Rel E fr σ' m' K' ρ' w'→Same σ1 σ'→k e h' σ'=some r→Q e (act1 n ρ') w':=fun e h' σ' m' K' ρ' w' q1 q2 q3=>hQ e h' σ' m' K' ρ' w' q1 (g1.trans q2) q3
     clear g1
     unfold uk at hh
     split at hh
     . rename_i q h2
       have key:wpListIn (aA E.rd) 0 P ops Q (ops.toList.take q++ops.toList.drop q) (act1 n ρ) w:=by
         have hn1:(ops.toList.take q).all b9=true:=List.all_eq_true.2 (fun x hx=>List.all_eq_true.1 hn x (List.mem_of_mem_take hx))
         have hn2:(ops.toList.drop q).all b9=true:=List.all_eq_true.2 (fun x hx=>List.all_eq_true.1 hn x (List.mem_of_mem_drop hx))
         refine qF hn1 ?_
         have:=iI (ops:=ops) (Q:=fun e a w=>e = .normal∧wpListIn (aA E.rd) 0 P ops Q (ops.toList.drop q) a w) (ops.toList.take q) 0 hh hr (fun h' σ' m' K' ρ' w' h1 h2 h3=>?_)
         . simpa using this
         . refine ⟨rfl,?_⟩
           split at h3
           . rename_i o rest hd
             rw [hd] at hn2 ⊢
             simp only [List.all_cons,Bool.and_eq_true] at hn2
             obtain ⟨dst,op,t,pos,af,gu⟩:=o
             obtain ⟨h4,σ4,s4,hr4,hg⟩:=iM h3 h1
             rcases hg with ⟨hw,hg⟩ | ⟨hw,hg⟩
             . refine GJ hJ hg hr4 hw (fun h'' σ'' m'' K'' ρ'' w'' g1 g2 g3=>?_)
               have:=iI (ops:=ops) (Q:=Q) rest 0 g3 g1 (fun h3 σ3 m3 K3 ρ3 w3 b1 b2 b3=>hQ _ h3 σ3 m3 K3 ρ3 w3 b1 (((h2.trans s4).trans g2).trans b2) b3)
               exact il hn2.2 (by simpa using this)
             . unfold wpListIn
               rw [if_neg (by rw [hw]; exact Bool.false_ne_true)]
               refine ⟨fun _ _=>trivial,?_⟩
               cases dst with
               | none =>
                 have:=iI (ops:=ops) (Q:=Q) rest 0 hg hr4 (fun h3 σ3 m3 K3 ρ3 w3 b1 b2 b3=>hQ _ h3 σ3 m3 K3 ρ3 w3 b1 ((h2.trans s4).trans b2) b3)
                 exact il hn2.2 (by rw [List.drop_zero] at this; exact this)
               | some d =>
                 show wpListIn _ _ _ _ _ _ ((act1 n ρ').put (some d) undef) _
                 rw [bJ]
                 have:=iI (ops:=ops) (Q:=Q) rest 0 hg (hr4.set (d:=d) (sv := .raw undef) (v:=undef) rfl) (fun h3 σ3 m3 K3 ρ3 w3 b1 b2 b3=>hQ _ h3 σ3 m3 K3 ρ3 w3 b1 (((h2.trans s4).trans ⟨rfl,rfl⟩).trans b2) b3)
                 exact il hn2.2 (by simpa using this)
           . cases h3
       rw [List.take_append_drop] at key
       have:=wpIn_region_lit (id:=id) (l:=ops.toList) (by simpa using key)
       simpa using this
     . have:=wpIn_region_lit (id:=id) (il (r:=E.rd) (n:=0) hn (iI (Q:=Q) (ops:=ops.toList.toArray) ops.toList 0 (by simpa using hh) hr (fun h' σ' m' K' ρ' w' h1 h2 h3=>hQ _ h' σ' m' K' ρ' w' h1 h2 h3)))
       simpa using this
   | true =>
     simp only [cond_true] at hh
     obtain ⟨h1,σ1,m1,K1,hh,g1,hr⟩:=aK h hh hr
     obtain ⟨h2,σ2,m2,hh,g2,hr⟩:=xK h1 hh hr
     replace hQ:∀ e h' σ' m' K' ρ' w',Rel E fr σ' m' K' ρ' w'→Same σ2 σ'→k e h' σ'=some r→Q e (act1 n ρ') w':=fun e h' σ' m' K' ρ' w' q1 q2 q3=>hQ e h' σ' m' K' ρ' w' q1 ((g1.trans g2).trans q2) q3
     clear g1 g2
     generalize K1=K at hr
     generalize m2=m at hr
     generalize σ2=σ at hr hh hQ
     split at hh
     . rename_i plan fin tail act' h0
       unfold uo at hh
       replace hh:=bL hh; obtain ⟨hm,hB,hh⟩:=hh
       have hB':lu .any ops.toList.toArray plan fin tail=true:=by simpa using hB
       have hfr:=(hr.frz act').drew
       have hplan:∀ s i,(s,i)∈plan→i < ops.toList.length:=by
         intro s i hi
         have h0:=hB
         unfold lu at h0
         simp only [Bool.and_eq_true] at h0
         obtain ⟨_,h1⟩:=h0
         split at h1
         . rename_i l1 hl1
           simpa using vk plan _ _ hl1 s i hi
         . cases h1
       have key:=oa (l:=ops.toList) (Q:=Q) plan hh hfr rfl hplan (fun h' σ' m' K' ρ' w' h1 h2 h3=>by
         have hi:Inn σ fr ⟨m,K,ρ,fun _=>false,fr.F,fr.k0⟩ m K ρ (bD σ.H act') σ' []:=⟨rfl,rfl,rfl,rfl,rfl,h2.2,fO,fun _ _=>rfl⟩
         obtain ⟨z1,z2⟩:=sr hr hi h1
         have:=iI (ops:=ops.toList.toArray) (Q:=Q) (aX ops.toList tail) 0 (by simpa using h3) z2 (fun h'' σ'' m'' K'' ρ'' w'' b1 b2 b3=>hQ .normal h'' σ'' m'' K'' ρ'' w'' b1 (z1.trans b2) b3)
         rwa [List.drop_zero] at this)
       have:=Bh (id:=id) (Q:=Q) plan fin tail hm hB' _ hfr.cfz rfl rfl rfl key hn (r:=E.rd) (n:=0)
       simpa using this
     . rename_i t s act' a b
       unfold trS at hh
       replace hh:=bL hh; obtain ⟨hm,hB,hh⟩:=hh
       obtain ⟨x,hx,hh⟩:=ob hh
       have hfr:=(hr.frz act').drew
       have key:=nZ (l:=ops.toList) (F:=fun a' w'=>ap P ops.toList.toArray Q (aX ops.toList []) a' w') t hx hfr rfl (fun h' σ' m' K' ρ' w' h1 h2 h3=>by
         obtain ⟨h'',σ2,m2,K2,g1,g2,g3⟩:=aK h' h3 h1
         have hi:Inn σ fr ⟨m,K,ρ,fun _=>false,fr.F,fr.k0⟩ m K ρ (bD σ.H act') σ2 (s.sl.map (·.1)++aw ops.toList):=⟨rfl,rfl,rfl,rfl,rfl,(g2.2.trans h2.2),fO,fun _ _=>rfl⟩
         obtain ⟨σ3,m3,q1,q2,q3⟩:=oF hr hi g3 g1 hh
         exact hQ .normal b σ3 m3 K2 ρ' w' q3 q2 q1)
       have:=A2 (id:=id) (Q:=Q) t [] hm hB _ hfr.cfz rfl key hn (r:=E.rd) (n:=0)
       simpa using this
     . cases hh
 | .seq a b=>fun R E fr hrd h σ k r m K ρ w Q hh hr hQ=>by
   have plain:∀ h0,exec J n a h0 σ (iT k (fun h σ=>exec J n b h σ k))=some r→(Code.seq a b).wpIn (aA E.rd) 0 P Q (act1 n ρ) w:=fun h0 hh =>
     wpIn_seq (ce hJ a R E fr hrd h0 σ _ r m K ρ w _ hh hr (wg (σ0:=σ) (fun h' σ' m' K' ρ' w' h1 h2 h3=>ce hJ b R E fr hrd h' σ' k r m' K' ρ' w' Q h3 h1 (fun e h'' σ'' m'' K'' ρ'' w'' q1 q2 q3=>hQ e h'' σ'' m'' K'' ρ'' w'' q1 (h2.trans q2) q3)) hQ))
   cases h with
   | sq mk s act ha hb =>
     have hh:(match Zt.mcs mk σ with | some σ=>iW (fun h σ R k=>exec J n a h σ k) s act (s.sl.map (·.1)++bM a) ha hb σ (fun h σ=>exec J n b h σ k) | none=>none)=some r:=hh
     split at hh
     . rename_i σ1 hm
       obtain ⟨m1,k1,k2⟩:=kW hm hr
       refine wpIn_seq (wO (ce hJ a) hrd hh k2 (fun h' σ' m' K' ρ' w' h1 h2 h3=>?_))
       exact ce hJ b R E fr hrd h' σ' k r m' K' ρ' w' Q h3 h1 (fun e h'' σ'' m'' K'' ρ'' w'' q1 q2 q3=>hQ e h'' σ'' m'' K'' ρ'' w'' q1 ((k1.trans h2).trans q2) q3)
     . cases hh
   | sx mk s act ha hb =>
     have hh:(match Zt.mcs mk σ with | some σ=>jb (fun h σ R k=>exec J n a h σ k) s act (s.sl.map (·.1)++bM a) ha hb σ (iT k (fun h σ=>exec J n b h σ k)) | none=>none)=some r:=hh
     split at hh
     . rename_i σ1 hm
       obtain ⟨m1,k1,k2⟩:=kW hm hr
       refine wpIn_seq (wY (ce hJ a) hrd hh k2 ?_)
       exact wg (σ0:=σ1) (fun h' σ' m' K' ρ' w' h1 h2 h3=>ce hJ b R E fr hrd h' σ' k r m' K' ρ' w' Q h3 h1 (fun e h'' σ'' m'' K'' ρ'' w'' q1 q2 q3=>hQ e h'' σ'' m'' K'' ρ'' w'' q1 ((k1.trans h2).trans q2) q3)) (fun e h' σ' m' K' ρ' w' q1 q2 q3=>hQ e h' σ' m' K' ρ' w' q1 (k1.trans q2) q3)
     . cases hh
   | pl h=>exact plain h hh
   | nil=>exact plain _ hh
   | two _ _ _=>exact plain _ hh
   | tw _ _ _=>exact plain _ hh
   | jn _ _ _ _ _=>exact plain _ hh
   | jx _ _ _ _ _=>exact plain _ hh
   | lp _ _=>exact plain _ hh
   | un _ _=>exact plain _ hh
   | per _ _ _=>exact plain _ hh
   | perb _ _ _ _=>exact plain _ hh
   | mc _ _ _ _=>exact plain _ hh
   | ms _ _=>exact plain _ hh
   | wt _ _=>exact plain _ hh
   | cl _ _ _=>exact plain _ hh
   | c2 _ _ _ _=>exact plain _ hh
   | gp _ _=>exact plain _ hh
   | gj _ _ _ _ _=>exact plain _ hh
   | mix _ _ _ _ _=>exact plain _ hh
   | opn _ _ _=>exact plain _ hh
   | opb _ _ _=>exact plain _ hh
   | cls _ _ _=>exact plain _ hh
   | opp _ _ _ _=>exact plain _ hh
   | ot _ _=>exact plain _ hh
   | cm _ _ _ _=>exact plain _ hh
   | cm2 _ _ _ _ _=>exact plain _ hh
   | tr _ _ _ _ _=>exact plain _ hh
   | tru _=>exact plain _ hh
   | yl _ _=>exact plain _ hh
   | rg _ _=>exact plain _ hh
 | .cond c x y=>fun R E fr hrd h σ k r m K ρ w Q hh hr hQ=>by
   obtain ⟨h1,σ1,m1,K1,g1,g2,g3⟩:=aK h (show az h σ (fun h σ=>tO c (σ.evr n c) h σ (fun h σ=>exec J n x h σ k) (fun h σ=>exec J n y h σ k))=some r from hh) hr
   have hv:=g3.toPur.evr n c
   have goX:∀ h2 σ2,Rel E fr σ2 m1 K1 ρ w→Same σ σ2→exec J n x h2 σ2 k=some r→x.wpIn (aA E.rd) 0 P Q (act1 n ρ) w:=fun h2 σ2 q1 q2 q3 =>
     ce hJ x R E fr hrd h2 σ2 k r m1 K1 ρ w Q q3 q1 (fun e h'' σ'' m'' K'' ρ'' w'' p1 p2 p3=>hQ e h'' σ'' m'' K'' ρ'' w'' p1 (q2.trans p2) p3)
   have goY:∀ h2 σ2,Rel E fr σ2 m1 K1 ρ w→Same σ σ2→exec J n y h2 σ2 k=some r→y.wpIn (aA E.rd) 0 P Q (act1 n ρ) w:=fun h2 σ2 q1 q2 q3 =>
     ce hJ y R E fr hrd h2 σ2 k r m1 K1 ρ w Q q3 q1 (fun e h'' σ'' m'' K'' ρ'' w'' p1 p2 p3=>hQ e h'' σ'' m'' K'' ρ'' w'' p1 (q2.trans p2) p3)
   have slot:∀ (d:Nat) (sv:SV),c = .tmp d→σ1.evr n c=sv→sv ≠ .any→σ1.get d=sv:=fun d sv hc he hne=>by
     subst hc
     cases hh:Nat.blt d n with
     | false =>
       have:σ1.evr n (.tmp d) = .any:=by show (bif Nat.blt d n then σ1.get d else .any)=_; rw [hh]; rfl
       rw [this] at he; exact absurd he.symm hne
     | true =>
       have:σ1.evr n (.tmp d)=σ1.get d:=by show (bif Nat.blt d n then σ1.get d else .any)=_; rw [hh]; rfl
       rw [← this]; exact he
   unfold tO at g1
   split at g1
   . rename_i jm w0 e
     rw [e] at hv
     obtain ⟨hj,hv⟩:=hv
     split at g1
     . rename_i t
       have hb:ev n ρ c = .bool t:=hv
       rw [hb] at hj
       refine wpIn_cond_split (t:=t) (by rw [bY]; exact hb) (fun ht=>?_) (fun ht=>?_)
       . subst ht
         split at g1
         . exact goX _ _ (g3.fix (v := .bool true) hj rfl) (g2.trans ⟨rfl,rfl⟩) g1
         . exact goX _ σ1 g3 g2 g1
         . exact goX _ σ1 g3 g2 g1
       . subst ht
         split at g1
         . exact goY _ _ (g3.fix (v := .bool false) hj rfl) (g2.trans ⟨rfl,rfl⟩) g1
         . exact goY _ σ1 g3 g2 g1
         . exact goY _ σ1 g3 g2 g1
     . cases g1
   . rename_i t e
     rw [e] at hv
     have hb:ev n ρ c = .bool t:=hv
     refine wpIn_cond_split (t:=t) (by rw [bY]; exact hb) (fun ht=>?_) (fun ht=>?_)
     . subst ht
       split at g1
       . rename_i ha hbn d _
         have hg:=slot d _ rfl e nofun
         exact goX ha _ (g3.ref (fun _ _ u hu=>by rw [hg] at hu; exact hu) (by rw [hg]; nofun)) (g2.trans ⟨rfl,gx.2⟩) g1
       . exact goX _ σ1 g3 g2 g1
       . exact goX _ σ1 g3 g2 g1
     . subst ht
       split at g1
       . rename_i ha hbn d _
         have hg:=slot d _ rfl e nofun
         exact goY hbn _ (g3.ref (fun _ _ u hu=>by rw [hg] at hu; exact hu) (by rw [hg]; nofun)) (g2.trans ⟨rfl,gx.2⟩) g1
       . exact goY _ σ1 g3 g2 g1
       . exact goY _ σ1 g3 g2 g1
   . rename_i tp l ng e
     rw [e] at hv
     obtain ⟨q,hb,hl⟩:=hv
     refine wpIn_cond_split (t:=q ^^ ng) (by rw [bY]; exact hb) (fun ht=>?_) (fun ht=>?_)
     . split at g1
       . rename_i ha hbn _
         cases ng with
         | true =>
           rw [Bool.xor_true] at ht
           simp only [cond_true] at g1
           exact goX ha _ g3 g2 (wi g1)
         | false =>
           rw [Bool.xor_false] at ht
           simp only [cond_false] at g1
           exact goX ha _ g3 g2 (wX (hl ht) g1)
       . cases g1
     . split at g1
       . rename_i ha hbn _
         cases ng with
         | true =>
           rw [Bool.xor_true] at ht
           simp only [cond_true] at g1
           exact goY hbn _ g3 g2 (wX (hl (by simpa using ht)) g1)
         | false =>
           rw [Bool.xor_false] at ht
           simp only [cond_false] at g1
           exact goY hbn _ g3 g2 (wi g1)
       . cases g1
   . cases g1
 | .block id b=>fun R E fr hrd h σ k r m K ρ w Q hh hr hQ=>by
   have blk:∀ {R:Type} {k:Exit→Hn P→Zt→Option R} {r:R} {Q:Exit→Act→World→Prop} {fr:Frz} {σ:Zt},(∀ e h' σ' m' K' ρ' w',Rel E fr σ' m' K' ρ' w'→Same σ σ'→k e h' σ'=some r→Q e (act1 n ρ') w') →
       ∀ e h' σ' m' K' ρ' w',Rel E fr σ' m' K' ρ' w'→Same σ σ'→eT id k e h' σ'=some r→Exit.inBlock id Q e (act1 n ρ') w':=by
     intro R k r Q fr σ hQ e h' σ' m' K' ρ' w' h1 h2 h3
     cases e with
     | exit i =>
       change (bif Nat.beq i id then k .normal h' σ' else k (.exit i) h' σ')=some r at h3
       show if i=id then _ else _
       cases hb:Nat.beq i id with
       | true =>
         rw [hb] at h3
         rw [if_pos (Nat.eq_of_beq_eq_true hb)]
         exact hQ _ h' σ' m' K' ρ' w' h1 h2 h3
       | false =>
         rw [hb] at h3
         rw [if_neg (fun e=>by rw [e,Nat.beq_refl] at hb; cases hb)]
         exact hQ _ h' σ' m' K' ρ' w' h1 h2 h3
     | normal=>exact hQ _ h' σ' m' K' ρ' w' h1 h2 h3
     | goto l=>exact hQ _ h' σ' m' K' ρ' w' h1 h2 h3
     | ret=>exact hQ _ h' σ' m' K' ρ' w' h1 h2 h3
     | panic i=>exact hQ _ h' σ' m' K' ρ' w' h1 h2 h3
     | outgrown=>exact hQ _ h' σ' m' K' ρ' w' h1 h2 h3
   have fb:Fok P n (.block id b) (fun h σ R k=>exec J n b h σ (eT id k)):=fun R E fr hrd h σ k r m K ρ w Q hh hr hQ=>by
     refine wpIn_block (ce hJ b R E fr hrd h σ _ r m K ρ w _ hh hr ?_)
     intro e h' σ' m' K' ρ' w' h1 h2 h3
     cases e with
     | exit i =>
       change (bif Nat.beq i id then k .normal h' σ' else k (.exit i) h' σ')=some r at h3
       show if i=id then _ else _
       cases hb:Nat.beq i id with
       | true =>
         rw [hb] at h3
         rw [if_pos (Nat.eq_of_beq_eq_true hb)]
         exact hQ _ h' σ' m' K' ρ' w' h1 h2 h3
       | false =>
         rw [hb] at h3
         rw [if_neg (fun e=>by rw [e,Nat.beq_refl] at hb; cases hb)]
         exact hQ _ h' σ' m' K' ρ' w' h1 h2 h3
     | normal=>exact hQ _ h' σ' m' K' ρ' w' h1 h2 h3
     | goto l=>exact hQ _ h' σ' m' K' ρ' w' h1 h2 h3
     | ret=>exact hQ _ h' σ' m' K' ρ' w' h1 h2 h3
     | panic i=>exact hQ _ h' σ' m' K' ρ' w' h1 h2 h3
     | outgrown=>exact hQ _ h' σ' m' K' ρ' w' h1 h2 h3
   have plain:∀ h0,exec J n b h0 σ (eT id k)=some r→(Code.block id b).wpIn (aA E.rd) 0 P Q (act1 n ρ) w:=fun h0 hh=>fb R E fr hrd h0 σ k r m K ρ w Q hh hr hQ
   cases h with
   | jn mk s act ha hb =>
     have hh:(match Zt.mcs mk σ with | some σ=>iW (fun h σ R k=>exec J n b h σ (eT id k)) s act (s.sl.map (·.1)++bM b) ha hb σ (k .normal) | none=>none)=some r:=hh
     split at hh
     . rename_i σ1 hm
       obtain ⟨m1,k1,k2⟩:=kW hm hr
       exact wO fb hrd hh k2 (fun h' σ' m' K' ρ' w' h1 h2 h3=>hQ _ h' σ' m' K' ρ' w' h1 (k1.trans h2) h3)
     . cases hh
   | jx mk s act ha hb =>
     have hh:(match Zt.mcs mk σ with | some σ=>jb (fun h σ R k=>exec J n b h σ (eT id k)) s act (s.sl.map (·.1)++bM b) ha hb σ k | none=>none)=some r:=hh
     split at hh
     . rename_i σ1 hm
       obtain ⟨m1,k1,k2⟩:=kW hm hr
       exact wY fb hrd hh k2 (fun e h' σ' m' K' ρ' w' q1 q2 q3=>hQ e h' σ' m' K' ρ' w' q1 (k1.trans q2) q3)
     . cases hh
   | pl h=>exact plain _ hh
   | nil=>exact plain _ hh
   | two _ _ _=>exact plain _ hh
   | tw _ _ _=>exact plain _ hh
   | sq _ _ _ _ _=>exact plain _ hh
   | sx _ _ _ _ _=>exact plain _ hh
   | lp _ _=>exact plain _ hh
   | un _ _=>exact plain _ hh
   | per _ _ _=>exact plain _ hh
   | perb _ _ _ _=>exact plain _ hh
   | mc _ _ _ _=>exact plain _ hh
   | ms _ _=>exact plain _ hh
   | wt _ _=>exact plain _ hh
   | cl _ _ _=>exact plain _ hh
   | c2 _ _ _ _=>exact plain _ hh
   | gp _ _=>exact plain _ hh
   | gj _ _ _ _ _=>exact plain _ hh
   | mix _ _ _ _ _=>exact plain _ hh
   | opn _ _ _=>exact plain _ hh
   | opb _ _ _=>exact plain _ hh
   | cls _ _ _=>exact plain _ hh
   | opp _ _ _ _=>exact plain _ hh
   | ot _ _=>exact plain _ hh
   | cm _ _ _ _=>exact plain _ hh
   | cm2 _ _ _ _ _=>exact plain _ hh
   | tr _ _ _ _ _=>exact plain _ hh
   | tru _=>exact plain _ hh
   | yl _ _=>exact plain _ hh
   | rg _ _=>exact plain _ hh
 | .loop b=>fun R E fr hrd h σ k r m K ρ w Q hh hr hQ=>by
   obtain ⟨h1,σ1,m1,K1,g1,g2,g3⟩:=aK h (show az h σ (fun h σ=>match h with
     | .un m r=>kX (fun h σ k=>exec J n b h σ k) k m r σ
     | .lp s ha=>oM (fun h σ R k=>exec J n b h σ k) s (s.sl.map (·.1)++bM b) ha σ k
     | _=>none)=some r from hh) hr
   have hQ':∀ e h' σ' m' K' ρ' w',Rel E fr σ' m' K' ρ' w'→Same σ1 σ'→k e h' σ'=some r→Q e (act1 n ρ') w':=fun e h'' σ'' m'' K'' ρ'' w'' p1 p2 p3=>hQ e h'' σ'' m'' K'' ρ'' w'' p1 (g2.trans p2) p3
   split at g1
   . exact wpIn_loop_rounds _ (wj (ce hJ b) hrd hQ' _ g1 g3 Same.rfl')
   . exact Ep (ce hJ b) hrd g1 g3 hQ'
   . cases g1
 | .rangeFunc g ps ao bo=>fun R E fr hrd h σ k r m K ρ w Q hh hr hQ=>by
   obtain ⟨h1,σ1,m1,K1,g1,g2,g3⟩:=aK h (show az h σ (fun h σ=>oQ J n g ps ao bo h σ k)=some r from hh) hr
   exact Ei hJ hrd g1 g3 (fun e h'' σ'' m'' K'' ρ'' w'' p1 p2 p3=>hQ e h'' σ'' m'' K'' ρ'' w'' p1 (g2.trans p2) p3)
 | .goto l=>fun R E fr hrd h σ k r m K ρ w Q hh hr hQ=>by cases hh
 | .refuse s=>fun R E fr hrd h σ k r m K ρ w Q hh hr hQ=>by cases hh
theorem wQ:∀ d:Nat,JOk (tK (P:=P) d)
 | 0=>fun n c R E fr hrd h σ k r m K ρ w Q hh hr hQ=>by cases hh
 | d + 1=>fun n c=>ce (wQ d) c
end
end
section
variable [BldA]
def dH (P:Program) (n:Nat) (σ:Zt):List ResultVar→Option (List SV)
 | []=>some []
 | .tmp t :: r=>(match dH P n σ r with | some vs=>some (σ.ev n (.tmp t) :: vs) | none=>none)
 | .cell a ty :: r=>(match σ.ev n (.tmp a) with
   | .ptr i o=>(match aN (HA.blkR i) (σ.H++σ.Hf) with
     | some q=>(match ldv P ty q.cs o,dH P n σ r with | some v,some vs=>some (v :: vs) | _,_=>none)
     | none=>none)
   | _=>none)
def Ab:List SV→SV
 | [v]=>v
 | vs => .tup vs
def fp (σ:Zt) (rs:List SV) (o:Sh):Option (TL o.ts):=bif (match rs,o.sl with | [],[]=>true | _ :: _,[p]=>Nat.beq p.1 0 | _,_=>false) then (match o.get (fun _=>Ab rs) σ.H with | some g=>TL.of o.ts g.ds | none=>none) else none
def pI {P:Program} (σ:Zt) (rs:List SV):(os:List Sh)→Hn P→Option (cD os)
 | [a],_=>fp σ rs a
 | [a,b],h=>(match h with | .pl _=>(fp σ rs b).map Sum.inr | _=>(fp σ rs a).map Sum.inl)
 | _,_=>none
def pu {P:Program} (n:Nat) (fn:Func) (os:List Sh) (h:Hn P) (σ:Zt):Option (cD os):=az h σ fun h σ=>match dH P n σ fn.results.toList with | some rs=>pI σ rs os h | none=>none
def fin {P:Program} (n:Nat) (fn:Func) (os:List Sh) (e:Exit) (h:Hn P) (σ:Zt):Option (cD os):=match e with
 | .normal=>pu n fn os h σ
 | .ret=>pu n fn os h σ
 | _=>none
def ul {P:Program} (n:Nat) (fn:Func) (c:Code) (inn:Sh) (os:List Sh) (h:Hn P) (x:TL inn.ts):Option (cD os):=match inn.un (TL.list inn.ts x) 0 with
 | some (vs,u)=>az h ⟨fun _ => .any,vs,u.H,[],u.nx,false⟩ fun h σ=>exec (tK 4) n c h σ (fin n fn os)
 | none=>none
section
variable {P:Program} {E:En} {n:Nat} {m:List M} {K:Hp} {fr:Frz} {σ:Zt} {ρ:Sl1} {w:World}
theorem sN (hr:Rel E fr σ m K ρ w):∀ {l:List ResultVar} {rs:List SV},dH P n σ l=some rs→∃ us:List Value,SV.relL m K rs us∧l.length=us.length∧∀ (j:Nat) (r:ResultVar) (v:Value),l[j]? = some r→us[j]? = some v→pq P n (Hold E K (σ.atoms fr m)) ρ r v
 | [],rs,h=>by cases h; exact ⟨[],rfl,rfl,fun j r v h=>by simp at h⟩
 | .tmp t :: l,rs,h=>by
   unfold dH at h
   split at h
   . rename_i vs hvs
     cases h
     obtain ⟨us,h1,h2,h3⟩:=sN hr hvs
     refine ⟨ev n ρ (.tmp t) :: us,⟨_,us,rfl,hr.toPur.ev n (.tmp t),h1⟩,by simp [h2],fun j r v hj hv=>?_⟩
     cases j with
     | zero=>simp at hj hv; subst hj hv; rfl
     | succ j=>exact h3 j r v (by simpa using hj) (by simpa using hv)
   . cases h
 | .cell a ty :: l,rs,h=>by
   unfold dH at h
   split at h
   . rename_i i o e
     split at h
     . rename_i q hq
       split at h
       . rename_i v vs hv hvs
         cases h
         obtain ⟨us,h1,h2,h3⟩:=sN hr hvs
         obtain ⟨x,hx,hmem⟩:=bh hq
         obtain rfl:=cI hx
         obtain ⟨b,ws,g1,g2,g3⟩:=hr.cls.blk hmem
         obtain ⟨u,g4,g5⟩:=kT (P:=P) (o0:=0) hv g2 (fun j u hu=>by rw [Nat.zero_add]; exact g3 j u hu)
         rw [Nat.zero_add] at g4
         have hev:=hr.toPur.ev n (.tmp a)
         rw [e] at hev
         obtain ⟨b',q1,q2⟩:=hev
         rw [g1] at q1; cases q1
         refine ⟨u :: us,⟨_,us,rfl,g5,h1⟩,by simp [h2],fun j r v hj hv=>?_⟩
         cases j with
         | zero=>simp at hj hv; subst hj hv; exact ⟨b,o,q2,g4⟩
         | succ j=>exact h3 j r v (by simpa using hj) (by simpa using hv)
       . cases h
     . cases h
   . cases h
theorem wC {C:World→Prop} {w:World} (hw:C w):∀ {l:List ResultVar} {us:List Value},l.length=us.length→(∀ (j:Nat) (r:ResultVar) (v:Value),l[j]? = some r→us[j]? = some v→pq P n C ρ r v)→(l.mapM (rvS (frm n ρ))).run P w = .ok us w
 | [],us,h,_=>by
   obtain rfl:us=[]:=List.length_eq_zero_iff.1 h.symm
   simp
 | r :: l,us,h,hr=>by
   cases us with
   | nil=>cases h
   | cons u us =>
     have h1:=GI (hr 0 r u rfl rfl) hw
     have h2:=wC hw (l:=l) (us:=us) (by simpa using h) (fun j r v hj hv=>hr (j + 1) r v (by simpa using hj) (by simpa using hv))
     simp [List.mapM_cons,h1,h2]
def lx:List Value→Value
 | [v]=>v
 | vs => .tuple vs.toArray
theorem E6 {C:World→Prop} {w:World} (hw:C w) {fn:Func} {us:List Value} (hl:fn.results.toList.length=us.length) (h:∀ (j:Nat) (r:ResultVar) (v:Value),fn.results.toList[j]? = some r→us[j]? = some v→pq P n C ρ r v):(results fn (frm n ρ)).run P w = .ok (lx us) w:=by
 have h1:=wC hw hl h
 rw [BF]
 simp only [Array.mapM_eq_mapM_toList]
 simp only [Sem.run_bind,Sem.run_map,h1,Result.andThen_ok,Sem.run_pure]
 match us with
 | []=>rfl
 | [u]=>rfl
 | u :: v :: r =>
   rw [dif_neg (by simp)]
   rfl
theorem Dw {rs:List SV} {us:List Value} (h:SV.relL m K rs us) (hne:rs≠[]):SV.rel m K (Ab rs) (lx us):=by
 match rs,us,h with
 | [],_,_=>exact absurd rfl hne
 | [v],us,h =>
   obtain ⟨u,q,rfl,h1,h2⟩:=aG h
   obtain rfl:=aP h2
   exact h1
 | v :: v2 :: r,us,h =>
   obtain ⟨u,q,rfl,h1,h2⟩:=aG h
   obtain ⟨u2,q2,rfl,h3,h4⟩:=aG h2
   exact ⟨_,rfl,u,_,rfl,h1,u2,q2,rfl,h3,h4⟩
theorem sJ {rs:List SV} {us:List Value} {o:Sh} {x:TL o.ts} {K0:Hp} {m0:List M} (h:fp σ rs o=some x) (hr:Rel E fr σ m K ρ w) (hrel:SV.relL m K rs us) (hm:m0 <+: m) (ho:bp o.bl m0.length=true) (hF:σ.Hf=[]) :
   ∃ vs' u' m',o.un (TL.list o.ts x) m0.length=some (vs',u')∧m0 <+: m'∧m'.length=u'.nx∧(∀ a∈u'.H,HA.ok m' K a)∧jr m' K vs' (lx us)∧Sep E K (u'.H.map (HA.conc m')++fr.F) w:=by
 unfold fp at h
 replace h:=aj h; obtain ⟨hs,h⟩:=h
 split at h
 . rename_i g hg
   obtain ⟨vs,u,ms,e1,e2,e3,e4,e5,e6,e7,e8⟩:=Sh.get_un hg hr.okH hm ho
   rw [TL.of_list h]
   refine ⟨vs,u,m0++ms,e1,ay _ _,e2,e4,?_,?_⟩
   . split at hs
     . rename_i hsl
       rw [hsl] at e3
       obtain rfl:vs=[]:=e3
       obtain rfl:=aP hrel
       rfl
     . rename_i v r p hsl
       rw [hsl] at e3
       obtain ⟨sv,q,rfl,g1,g2⟩:=e3
       obtain rfl:q=[]:=g2
       exact g1 _ (Dw hrel (by simp))
     . cases hs
   . have:=e6 E _ w hr.toSep
     have h2:σ.fz fr=fr.F:=by unfold Zt.fz; rw [hF]; rfl
     rw [h2] at this
     have h3:Sep E K (g.H.map (HA.conc m)++(u.H.map (HA.conc (m0++ms))++fr.F)) w:=Sep.perm (iY _ _ _) this
     exact Sep.drops h3
 . cases h
theorem FA {rs:List SV} {us:List Value} {m0:List M} (hr:Rel E fr σ m K ρ w) (hrel:SV.relL m K rs us) (hm:m0 <+: m) (hF:σ.Hf=[]):∀ {os:List Sh} {h0:Hn P} {r:cD os},(∀ o∈os,bp o.bl m0.length=true)→pI σ rs os h0=some r →
   ∃ vs' u' m',(cU os r).1.un (cU os r).2 m0.length=some (vs',u')∧m0 <+: m'∧m'.length=u'.nx∧(∀ a∈u'.H,HA.ok m' K a)∧jr m' K vs' (lx us)∧Sep E K (u'.H.map (HA.conc m')++fr.F) w
 | [],h0,r,_,h=>Empty.elim r
 | [a],h0,r,ho,h=>sJ (K0:=K) (show fp σ rs a=some r from h) hr hrel hm (ho a (by simp)) hF
 | [a,b],h0,r,ho,h=>by
   have key:(fp σ rs b).map Sum.inr=some r∨(fp σ rs a).map Sum.inl=some r:=by
     cases h0 <;> first | exact .inl h | exact .inr h
   clear h
   rcases key with h | h
   . rw [Option.map_eq_some_iff] at h
     obtain ⟨x,h,rfl⟩:=h
     exact sJ (K0:=K) h hr hrel hm (ho b (by simp)) hF
   . rw [Option.map_eq_some_iff] at h
     obtain ⟨x,h,rfl⟩:=h
     exact sJ (K0:=K) h hr hrel hm (ho a (by simp)) hF
 | a :: b :: c :: os,h0,r,_,h=>by cases h
theorem vL:∀ {sl:List (Nat×Kd)} {vs:List (Nat×SV)} {us:List Value} {j N:Nat},slN j sl N=true→vs.map (·.1)=sl.map (·.1)→slR m K vs us→∀ i sv,au vs i=some sv→∃ k u,i=j + k∧us[k]? = some u∧SV.rel m K sv u
 | [],vs,us,j,N,h1,h2,h3,i,sv,hl=>by
   have:vs=[]:=by cases vs with | nil=>rfl | cons a b=>cases h2
   subst this; cases hl
 | p :: sl,vs,us,j,N,h1,h2,h3,i,sv,hl=>by
   cases vs with
   | nil=>cases h2
   | cons q vs =>
     simp only [List.map_cons,List.cons.injEq] at h2
     simp only [slN,Bool.and_eq_true] at h1
     have hj:=Nat.eq_of_beq_eq_true h1.1
     obtain ⟨u,r,rfl,g1,g2⟩:=h3
     change (bif Nat.beq q.1 i then some q.2 else au vs i)=some sv at hl
     cases hb:Nat.beq q.1 i with
     | true =>
       rw [hb] at hl; cases hl
       have:=Nat.eq_of_beq_eq_true hb
       exact ⟨0,u,by rw [← this,h2.1,hj]; rfl,rfl,g1⟩
     | false =>
       rw [hb] at hl
       obtain ⟨k,u',e1,e2,e3⟩:=vL h1.2 h2.2 g2 i sv hl
       exact ⟨k + 1,u',by omega,by simpa using e2,e3⟩
theorem wM {bi:List Nat}:∀ {sl:List (Nat×Kd)} {u u':Un} {vs:List (Nat×SV)},unS bi sl u=some (vs,u')→vs.map (·.1)=sl.map (·.1)
 | [],u,u',vs,h=>by cases h; rfl
 | p :: sl,u,u',vs,h=>by
   unfold unS at h
   split at h
   . split at h
     . rename_i h2
       cases h
       simp [wM h2]
     . cases h
   . cases h
theorem EU {s:Sh} {ds:List Dat} {nx:Nat} {vs:List (Nat×SV)} {u:Un} (h:s.un ds nx=some (vs,u)):vs.map (·.1)=s.sl.map (·.1):=by
 unfold Sh.un at h
 replace h:=(aj h).2
 split at h
 split at h
 . rename_i h1
   split at h
   . cases h; exact wM h1
   . cases h
 . cases h
theorem ym:∀ {vs:List (Nat×SV)} {us:List Value},slR m K vs us→us.length=vs.length
 | [],us,h=>by obtain rfl:us=[]:=h; rfl
 | p :: vs,us,⟨u,r,e,_,h⟩=>by subst e; simp [ym h]
end
section
variable {P:Program} {E:En} {n:Nat} {m:List M} {K:Hp} {fr:Frz} {σ:Zt} {ρ:Sl1} {w:World}
theorem sB {b:Bool}:∀ l:List ResultVar,dH P n ⟨σ.base,σ.top,σ.H,σ.Hf,σ.nx,b⟩ l=dH P n σ l
 | []=>rfl
 | .tmp t :: r=>by unfold dH; rw [sB r]; rfl
 | .cell a ty :: r=>by unfold dH; rw [sB r]; rfl
theorem EK {b:Bool} {rs:List SV}:∀ {os:List Sh} {h:Hn P},pI ⟨σ.base,σ.top,σ.H,σ.Hf,σ.nx,b⟩ rs os h=pI σ rs os h
 | [],h=>rfl
 | [a],h=>rfl
 | [a,b],h=>by cases h <;> rfl
 | a :: b :: c :: os,h=>rfl
end
section
variable {P:Program} {n:Nat}
theorem IS {s:Spec} {fn:Func} {c:Code} (hf:P.funcs[s.f]? = some fn) (hb:fn.body=some c) (hn:fn.ntmps=n) (h:Hn P) (hc:(slN 0 s.inn.sl s.inn.sl.length&&Nat.ble s.inn.sl.length n)=true) (hold:∀ ds vs u,s.inn.un ds 0=some (vs,u)→∀ o∈s.outs,bp o.bl u.nx=true)
   (hex:∀ (x:TL s.inn.ts) r,s.fn x=some r→ul n fn c s.inn s.outs h x=some r):cK P s:=by
 intro x r hx vs u hu m K args hgk hm hok hsl E w F hs
 rw [Bool.and_eq_true] at hc
 obtain ⟨hc1,hc2⟩:=hc
 have hkeys:=EU hu
 have hlen:args.toArray.size≤n:=by
   have h1:=ym hsl
   have h2:vs.length=s.inn.sl.length:=by have:=congrArg List.length hkeys; simpa using this
   simp only [List.size_toArray]
   have:=Nat.le_of_ble_eq_true hc2
   omega
 refine callsIn_wide.1 (callsIn_of_wp_marks (F:=Fence.wide) (n:=0) hf hb trivial ?_)
 rw [hn,rU hlen]
 have hrun:=hex x r hx
 unfold ul at hrun
 rw [hu] at hrun
 simp only at hrun
 have hrel:Rel E.out0 ⟨m,K,dV args.toArray,fun _=>false,F,K⟩ ⟨fun _ => .any,vs,u.H,[],u.nx,false⟩ m K (dV args.toArray) w:=by
   refine ⟨⟨List.prefix_refl m,Hp.le_refl K,hm,fun e=>(by cases e),fun i=>trivial,fun i e=>rfl,fun i _ => .inr rfl,fun i sv hi=>?_,hok,fun a ha=>by simp at ha,MOk.nil hgk (Hp.le_refl K)⟩,?_⟩
   . obtain ⟨k,v,e1,e2,e3⟩:=vL hc1 hkeys hsl i sv hi
     have:dV args.toArray i=v:=by
       show eV args.toArray i=v
       unfold eV
       rw [e1,Nat.zero_add]
       simp [e2]
     rw [this]; exact e3
   . exact hs.out0
 obtain ⟨hp,σp,mp,Kp,p1,p2,p3⟩:=aK h hrun hrel
 refine ce (wQ 4) c (cD s.outs) E.out0 ⟨m,K,dV args.toArray,fun _=>false,F,K⟩ (fun l e=>by cases e) hp σp (fin n fn s.outs) r mp Kp _ w _ p1 p3 (fun e h' σ' m' K' ρ' w' h1 h2 h3=>?_)
 have fini:pu n fn s.outs h' σ'=some r→LeavesInM Fence.wide 0 P fn (act1 n ρ').tmps (fun e w'=>∃ v K' L',e = .returned v∧(∃ vs' u' m',(cU s.outs r).1.un (cU s.outs r).2 u.nx=some (vs',u')∧m <+: m'∧m'.length=u'.nx∧(∀ a∈u'.H,HA.ok m' K' a)∧jr m' K' vs' v∧L'=u'.H.map (HA.conc m'))∧K.le K'∧Sep E K' (L'++F) w') (act1 n ρ').defers .returning w':=fun h3=>by
   unfold pu at h3
   obtain ⟨h'',σ2,m2,K2,g1,g2,g3⟩:=aK h' h3 h1
   split at g1
   . rename_i rs hrs
     refine qV ρ'.ds g3.mks g3.toSep (fun K3 w3 c1 c2 c3=>?_)
     have g4:=g3.unmark c1 c2 c2 c3
     rw [← sB (b:=false)] at hrs
     rw [← EK (b:=false)] at g1
     obtain ⟨us,q1,q2,q3⟩:=sN g4 hrs
     refine ⟨lx us,E6 (ρ:=(⟨ρ'.f,[]⟩:Sl1)) g4.hold q2 q3,?_⟩
     obtain ⟨vs',u',m'',z1,z2,z3,z4,z5,z6⟩:=FA (m0:=m) g4 q1 g4.hm (((p2.trans h2).trans g2).2) (fun o ho=>by rw [hm]; exact hold _ _ _ hu o ho) g1
     rw [hm] at z1
     exact ⟨_,K3,_,rfl,⟨vs',u',m'',z1,z2,z3,z4,z5,rfl⟩,g4.hK,z6.back⟩
   . cases g1
 cases e with
 | normal=>exact fini h3
 | ret=>exact fini h3
 | _=>cases h3
end
end
section
variable [BldA]
mutual
theorem pi {bi:List Nat}:∀ (k:Kd) {u u':Un} {v:SV},Kd.un bi k u=some (v,u')→u.nx≤u'.nx
 | .any,u,u',v,h=>by cases h; exact Nat.le_refl _
 | .dat t,u,u',v,h=>by unfold Kd.un at h; split at h <;> cases h; exact Nat.le_refl _
 | .nilp,u,u',v,h=>by cases h; exact Nat.le_refl _
 | .nils,u,u',v,h=>by cases h; exact Nat.le_refl _
 | .nilf,u,u',v,h=>by cases h; exact Nat.le_refl _
 | .ptr j o,u,u',v,h=>by unfold Kd.un at h; split at h <;> cases h; exact Nat.le_refl _
 | .own e t,u,u',v,h=>by unfold Kd.un at h; split at h <;> cases h; exact Nat.le_add_right _ _
 | .al j,u,u',v,h=>by unfold Kd.un at h; split at h <;> cases h; exact Nat.le_refl _
 | .fsl j m,u,u',v,h=>by unfold Kd.un at h; split at h <;> cases h; exact Nat.le_refl _
 | .agg ks,u,u',v,h=>by
   unfold Kd.un at h; split at h
   . cases h; exact k9 ks (by assumption)
   . cases h
 | .tup ks,u,u',v,h=>by
   unfold Kd.un at h; split at h
   . cases h; exact k9 ks (by assumption)
   . cases h
 | .fn f ks,u,u',v,h=>by
   unfold Kd.un at h; split at h
   . cases h; exact k9 ks (by assumption)
   . cases h
 | .kat t o,u,u',v,h=>by
   unfold Kd.un at h; split at h
   . split at h
     . cases h; exact Nat.le_refl _
     . cases h
   . cases h
 | .ifc t k,u,u',v,h=>by
   unfold Kd.un at h; split at h
   . cases h; exact pi k (by assumption)
   . cases h
 | .lit w,u,u',v,h=>by cases h; exact Nat.le_refl _
 | .od o,u,u',v,h=>by
   unfold Kd.un at h
   replace h:=(aj h).2
   split at h
   . split at h
     . cases h; exact Nat.le_add_right _ _
     . cases h
   . cases h
 | .rp j,u,u',v,h=>by unfold Kd.un at h; split at h <;> cases h; exact Nat.le_refl _
 | .is j k,u,u',v,h=>by
   unfold Kd.un at h; split at h
   . split at h
     . cases h; exact pi k (by assumption)
     . cases h
   . cases h
theorem k9 {bi:List Nat}:∀ (ks:List Kd) {u u':Un} {vs:List SV},Kd.unL bi ks u=some (vs,u')→u.nx≤u'.nx
 | [],u,u',vs,h=>by cases h; exact Nat.le_refl _
 | k :: ks,u,u',vs,h=>by
   unfold Kd.unL at h; split at h
   . rename_i h1
     split at h
     . rename_i h2; cases h; exact Nat.le_trans (pi k h1) (k9 ks h2)
     . cases h
   . cases h
end
theorem yW {bi:List Nat}:∀ (sl:List (Nat×Kd)) {u u':Un} {vs:List (Nat×SV)},unS bi sl u=some (vs,u')→u.nx≤u'.nx
 | [],u,u',vs,h=>by cases h; exact Nat.le_refl _
 | p :: sl,u,u',vs,h=>by
   unfold unS at h; split at h
   . rename_i h1
     split at h
     . rename_i h2; cases h; exact Nat.le_trans (pi p.2 h1) (yW sl h2)
     . cases h
   . cases h
theorem yM {bi:List Nat}:∀ (bl:List Bk) (is:List Nat) {u u':Un},unB bi bl is u=some u'→u.nx≤u'.nx
 | [],[],u,u',h=>by cases h; exact Nat.le_refl _
 | [],i :: is,u,u',h=>by cases h
 | b :: bl,[],u,u',h=>by cases h
 | b :: bl,i :: is,u,u',h=>by
   unfold unB at h; split at h
   . rename_i u1 h1
     refine Nat.le_trans ?_ (yM bl is h)
     unfold fc at h1
     cases hn:b.nu with
     | true=>rw [hn] at h1; cases h1; exact Nat.le_refl _
     | false =>
       rw [hn] at h1; simp only [cond_false] at h1
       cases hlp:b.lp with
       | true=>rw [hlp] at h1; simp only [cond_true] at h1; cases h1; exact Nat.le_refl _
       | false =>
       rw [hlp] at h1; simp only [cond_false] at h1
       cases hr:b.rw with
       | some o =>
         rw [hr] at h1
         dsimp only at h1
         split at h1
         . split at h1
           . cases h1; exact Nat.le_succ _
           . cases h1
         . cases h1
       | none =>
       rw [hr] at h1
       dsimp only at h1
       cases hb:b.bu with
       | true =>
         rw [hb] at h1; simp only [cond_true] at h1
         split at h1 <;> cases h1
         exact Nat.le_refl _
       | false =>
         rw [hb] at h1; simp only [cond_false] at h1
         split at h1
         . rename_i h2
           cases h1
           exact Nat.le_trans (k9 b.ks h2) (Nat.le_succ _)
         . cases h1
   . cases h
theorem yo:∀ (bl:List Bk) (nx:Nat),du bl=true→(aU bl nx).2=nx + bl.length
 | [],nx,_=>rfl
 | b :: bl,nx,h=>by
   simp only [du,Bool.and_eq_true] at h
   cases hb:b.old with
   | some i=>rw [hb] at h; cases h.1
   | none =>
     simp only [aU,hb,List.length_cons]
     rw [yo bl (nx + 1) h.2]
     omega
theorem Iy {s:Sh} {ds:List Dat} {vs:List (Nat×SV)} {u:Un} (h:s.un ds 0=some (vs,u)) (ho:du s.bl=true):s.bl.length≤u.nx:=by
 unfold Sh.un at h
 replace h:=(aj h).2
 have hn:=yo s.bl 0 ho
 split at h
 rename_i bi nx he
 rw [he] at hn
 simp only [Nat.zero_add] at hn
 split at h
 . rename_i h1
   split at h
   . rename_i h2
     cases h
     have:=yW s.sl h1
     have:=yM s.bl bi h2
     simp only at *
     omega
   . cases h
 . cases h
theorem wV:∀ (bl:List Bk) {a b:Nat},bp bl a=true→a≤b→bp bl b=true
 | [],a,b,h,hab=>rfl
 | x :: bl,a,b,h,hab=>by
   simp only [bp,Bool.and_eq_true] at h ⊢
   refine ⟨?_,wV bl h.2 hab⟩
   cases ho:x.old with
   | none=>rfl
   | some i =>
     have h1:=h.1
     rw [ho] at h1
     simp only [Nat.blt_eq] at h1 ⊢
     omega
def ta (fn:Func):Code:=match fn.body with | some c=>c | none => .skip
def yG (s:Spec) (fn:Func):Bool:=fn.body.isSome&&(slN 0 s.inn.sl s.inn.sl.length&&Nat.ble s.inn.sl.length fn.ntmps)&&(du s.inn.bl&&s.outs.all fun o=>bp o.bl s.inn.bl.length)
theorem ae {P:Program} {s:Spec} {fn:Func} (hf:P.funcs[s.f]? = some fn) (h:Hn P) (hc:yG s fn=true) (hex:(fun x=>ul fn.ntmps fn (ta fn) s.inn s.outs h x)=s.fn):cK P s:=by
 unfold yG at hc
 simp only [Bool.and_eq_true] at hc
 obtain ⟨⟨h1,h2,h2'⟩,h3,h4⟩:=hc
 have hb:fn.body=some (ta fn):=by
   unfold ta
   cases hbd:fn.body with
   | none=>rw [hbd] at h1; cases h1
   | some c=>rfl
 refine IS hf hb rfl h (by rw [h2,h2']; rfl) (fun ds vs u hu o ho=>wV o.bl (List.all_eq_true.1 h4 o ho) (Iy hu h3)) (fun x r hx=>?_)
 rw [← hx]
 exact congrFun hex x
end
theorem H8 [BldA] {P:Program} {s:Spec} {W:World} (hs:cK P s) {x:TL s.inn.ts} {r:cD s.outs} (hr:s.fn x=some r) (hgk:BldA.gk (Hp.of W)) {vs:List (Nat×SV)} (hun:s.inn.un (TL.list _ x) 0=some (vs,⟨[],0,[],[]⟩))
   (hout:(cU s.outs r).1.un (cU s.outs r).2 0=some ([(0,.bool true)],⟨[],0,[],[]⟩)) {args:List Value} (hsl:slR [] (Hp.of W) vs args) :
   Calls P s.f args.toArray W fun e W'=>e = .returned (.bool true)∧Below W.heap.size W W':=by
 have h:=hs x r hr vs _ hun [] (Hp.of W) args hgk rfl (fun a ha=>by cases ha) hsl (En.of W) W [] (Sep.start W)
 refine h.mono fun e W' h=>?_
 obtain ⟨v,K',L',rfl,⟨vs',u',m',h1,_,_,_,h2,_⟩,h3,h4⟩:=h
 have h1:=h1.symm.trans hout
 cases h1
 obtain rfl:v = .bool true:=h2
 exact ⟨rfl,h4.below h3⟩
section
open Go.ChangeShapes Go.WideShapes Go.RowKit Go.Deep
namespace Tp
mutual
def heavy (P:Program):Tp→TypeId→Bool
 | .sl e,t=>match P.underlying t with | some (.slice e')=>decide (0 < P.bytesOf e')&&heavy P e e' | _=>false
 | .one a,t=>match P.underlying t with | some (.struct fs)=>(match fs.toList with | [f]=>heavy P a f.type | _=>false) | _=>false
 | .cons a r,t=>match P.underlying t with | some (.struct fs)=>(match fs.toList with | f :: fs=>heavy P a f.type&&heavyAll P r fs | []=>false) | _=>false
 | _,_=>true
def heavyAll (P:Program):Tp→List Field→Bool
 | .emp,[]=>true
 | .one a,[f]=>heavy P a f.type
 | .cons a r,f :: fs=>heavy P a f.type&&heavyAll P r fs
 | _,_=>false
end
def Fit:(t:Tp)→t.den→Prop
 | .sl e,l=>l.length≤140737488351232∧∀ x∈l,Fit e x
 | .one a,d=>Fit a d
 | .cons a r,d=>Fit a d.1∧Fit r d.2
 | _,_=>True
end Tp
theorem C1 (b o m:Nat):(⟨b,o,none⟩:Addr).add m=⟨b,o + m,none⟩:=by
 unfold Addr.add; split
 . rename_i h; subst h; rfl
 . rfl
section
variable {H:Type} {P:Program} {p:Nat→Bool}
theorem eZ:∀ (ts:List TypeId) (ds:List (DataW H)),(DataW.weightsEach P ts ds).all p=true→∀ (i:Nat) t d,ts[i]? = some t→ds[i]? = some d→(d.weights P t).all p=true
 | [],ds,h,i,t,d,ht,hd=>by simp at ht
 | t :: ts,[],h,i,t',d,ht,hd=>by simp at hd
 | t :: ts,d :: ds,h,0,t',d',ht,hd=>by
   simp at ht hd; subst ht; subst hd
   unfold DataW.weightsEach at h
   rw [List.all_append,Bool.and_eq_true] at h; exact h.1
 | t :: ts,d :: ds,h,i + 1,t',d',ht,hd=>by
   unfold DataW.weightsEach at h
   rw [List.all_append,Bool.and_eq_true] at h
   exact eZ ts ds h.2 i t' d' (by simpa using ht) (by simpa using hd)
theorem Ai {e:TypeId}:∀ (ds:List (DataW H)),(DataW.weightsAll P e ds).all p=true→∀ d∈ds,(d.weights P e).all p=true
 | [],h,d,hd=>by cases hd
 | d :: ds,h,d',hd=>by
   unfold DataW.weightsAll at h
   rw [List.all_append,Bool.and_eq_true] at h
   rcases List.mem_cons.1 hd with rfl | hd
   . exact h.1
   . exact Ai ds h.2 d' hd
end
section
variable {H:Type} {enc:TypeId×Value→H} {P:Program} {W:World} {base:Nat} {spare:Nat→Bool} {held:Bool}
mutual
theorem Tp.fit:∀ (ty:Tp) {t:TypeId} {fuel:Nat} {cs:List Value} {x:DataW H×List MemPlace} {d:ty.den},ty.has P t=true→ty.heavy P t=true→DataW.trod enc P W base spare held fuel t cs=some x→Is (Hp.of W) ty cs d→(x.1.weights P t).all (·≤reachBytes)=true→ty.Fit d
 | .int k,_,_,_,_,_,_,_,_,_,_=>trivial
 | .bool,_,_,_,_,_,_,_,_,_,_=>trivial
 | .str,_,_,_,_,_,_,_,_,_,_=>trivial
 | .ptr e,_,_,_,_,_,_,_,_,_,_=>trivial
 | .emp,_,_,_,_,_,_,_,_,_,_=>trivial
 | .sl e,t,fuel,cs,x,d,hh,hv,h,hi,hw=>by
   unfold Tp.has at hh
   unfold Tp.heavy at hv
   split at hh
   . rename_i e' ht
     rw [ht] at hv
     simp only [Bool.and_eq_true,decide_eq_true_eq] at hh hv
     obtain ⟨⟨he,hc⟩,h0⟩:=hh
     obtain ⟨hb0,hv⟩:=hv
     simp only [Is] at hi
     obtain ⟨ad,cp,hcs,hl1,hl2,hi⟩:=hi
     rcases open_slice ht h with ⟨rfl,rfl⟩ | ⟨a,len,cap,m,n,D,Pl,rfl,hb,hl,hm,hmm,rfl,hx⟩
     . simp only [List.cons.injEq,Value.slice.injEq,and_true] at hcs
       obtain ⟨_,hz,_⟩:=hcs
       obtain rfl:d=[]:=List.length_eq_zero_iff.1 hz.symm
       exact ⟨by simp,fun x hx=>by simp at hx⟩
     . simp only [List.cons.injEq,Value.slice.injEq,and_true] at hcs
       obtain ⟨rfl,hlen,rfl⟩:=hcs
       unfold DataW.weights at hw
       rw [ht] at hw
       simp only [List.all_cons,List.all_append,Bool.and_eq_true,decide_eq_true_eq,List.length_map,List.length_range] at hw
       obtain ⟨hw1,hw2,hw3⟩:=hw
       have hle:len≤(len + (m - len)) * P.bytesOf e':=by
         have:(len + (m - len)) * 1≤(len + (m - len)) * P.bytesOf e':=Nat.mul_le_mul_left _ hb0
         omega
       have hr:reachBytes=140737488351232:=by decide
       refine ⟨by omega,fun y hy=>?_⟩
       obtain ⟨k,hk,rfl⟩:=List.getElem_of_mem hy
       have hkl:k < len:=by omega
       obtain ⟨b,o,hb',hes⟩:=hi (fun hn=>by rw [hn] at hk; simp at hk)
       simp only [Option.some.injEq] at hb'
       subst hb'
       obtain ⟨es,hel,hie,hce⟩:=hes k d[k] (List.getElem?_eq_getElem hk)
       obtain ⟨cs',hcs',ht'⟩:=hx k (by rw [hmm]; split <;> omega)
       rw [hc] at hcs'
       obtain ⟨_,hlen',hcell⟩:=World.cells?_some hcs'
       have e:cs'=es:=by
         apply List.ext_getElem?
         intro j
         by_cases hj:j < e.size
         . rw [← hcell j hj]
           have h1:=hce j hj
           rw [List.getElem?_eq_getElem (by omega)] at h1 ⊢
           have h2:=di (w:=W) (Hp.le_refl _) h1
           rw [← h2,Go.Deep.add_add,C1]
           congr 2; omega
         . rw [List.getElem?_eq_none (by omega),List.getElem?_eq_none (by omega)]
       subst e
       exact Tp.fit e he hv ht' hie (Ai _ hw2 _ (List.mem_map.2 ⟨k,List.mem_range.2 hkl,rfl⟩))
   . simp at hh
 | .one a,t,fuel,cs,x,d,hh,hv,h,hi,hw=>by
   unfold Tp.has at hh
   unfold Tp.heavy at hv
   split at hh
   . rename_i fs ht
     rw [ht] at hv
     simp only [Bool.and_eq_true,decide_eq_true_eq] at hh
     obtain ⟨hh,hC⟩:=hh
     split at hh
     . rename_i f hfs
       simp only [hfs] at hv
       simp only [Bool.and_eq_true,decide_eq_true_eq] at hh hv
       obtain ⟨⟨h1,h2⟩,h3⟩:=hh
       obtain ⟨xs,n,_,rfl,hlen,hxl,hf⟩:=DataW.trod_struct ht h
       have hsz:fs.size=1:=by rw [← Array.length_toList,hfs]; simp
       have hget:∀ i,fs[i]? = [f][i]?:=fun i=>by rw [← hfs,Array.getElem?_toList]
       have t0:=hf 0 f (by rw [hget]; rfl)
       rw [h1,h2,List.drop_zero,List.getElem?_eq_getElem (by omega),List.take_of_length_le (by omega)] at t0
       unfold DataW.weights at hw
       simp only [ht,hfs] at hw
       exact Tp.fit a h3 hv t0 hi (eZ _ _ hw 0 _ _ rfl (by simp [List.getElem?_eq_getElem (show 0 < xs.length by omega)]))
     . simp at hh
   . simp at hh
 | .cons a r,t,fuel,cs,x,d,hh,hv,h,hi,hw=>by
   unfold Tp.has at hh
   unfold Tp.heavy at hv
   split at hh
   . rename_i fs ht
     rw [ht] at hv
     simp only [Bool.and_eq_true,decide_eq_true_eq] at hh
     obtain ⟨hh,hC⟩:=hh
     split at hh
     . rename_i f fs' hfs
       simp only [hfs] at hv
       simp only [Bool.and_eq_true,decide_eq_true_eq] at hh hv
       obtain ⟨⟨⟨h1,h2⟩,h3⟩,h4⟩:=hh
       obtain ⟨xs,n,_,rfl,hlen,hxl,hf⟩:=DataW.trod_struct ht h
       have hsz:fs.size=fs'.length + 1:=by rw [← Array.length_toList,hfs]; simp
       have hget:∀ i,fs[i]? = (f :: fs')[i]?:=fun i=>by rw [← hfs,Array.getElem?_toList]
       have t0:=hf 0 f (by rw [hget]; rfl)
       rw [h1,h2,List.drop_zero,List.getElem?_eq_getElem (by omega)] at t0
       unfold DataW.weights at hw
       simp only [ht,hfs] at hw
       simp only [Is] at hi
       obtain ⟨c1,c2,rfl,hl1,hi1,hi2⟩:=hi
       rw [List.take_left' hl1] at t0
       refine ⟨Tp.fit a h3 hv.1 t0 hi1 (eZ _ _ hw 0 _ _ rfl (by simp [List.getElem?_eq_getElem (show 0 < xs.length by omega)])),?_⟩
       refine Tp.fitAll a.size r fs' (cs:=c2) (all:=c1++c2) h4 hv.2 (fun i g hg=>?_) (by rw [List.drop_left' hl1]) hi2
       have t1:=hf (i + 1) g (by rw [hget]; exact hg)
       have hi':i < fs'.length:=(List.getElem?_eq_some_iff.1 hg).1
       rw [List.getElem?_eq_getElem (by omega)] at t1
       exact ⟨n,_,t1,eZ _ _ hw (i + 1) _ _ (by simp [hg]) (by simp [List.getElem?_eq_getElem (show i + 1 < xs.length by omega)])⟩
     . simp at hh
   . simp at hh
theorem Tp.fitAll:∀ (o:Nat) (ty:Tp) (fs:List Field) {cs all:List Value} {d:ty.den},ty.hasAll P o fs=true→ty.heavyAll P fs=true →
   (∀ (i:Nat) (f:Field),fs[i]? = some f→∃ n x,DataW.trod enc P W base spare held n f.type ((all.drop f.offset).take (P.cellsOf f.type))=some x∧(x.1.weights P f.type).all (·≤reachBytes)=true)→cs=all.drop o→Is (Hp.of W) ty cs d→ty.Fit d
 | o,.emp,[],cs,all,d,hh,hv,hf,hc,hi=>trivial
 | o,.one a,[f],cs,all,d,hh,hv,hf,hc,hi=>by
   unfold Tp.hasAll at hh
   unfold Tp.heavyAll at hv
   simp only [Bool.and_eq_true,decide_eq_true_eq] at hh
   obtain ⟨⟨h1,h2⟩,h3⟩:=hh
   obtain ⟨n,x,t0,w0⟩:=hf 0 f rfl
   have hl:=Is.len (t := .one a) hi
   rw [h1,h2,← hc,List.take_of_length_le (by rw [hl]; exact Nat.le_refl _)] at t0
   exact Tp.fit a h3 hv t0 hi w0
 | o,.cons a r,f :: fs,cs,all,d,hh,hv,hf,hc,hi=>by
   unfold Tp.hasAll at hh
   unfold Tp.heavyAll at hv
   simp only [Bool.and_eq_true,decide_eq_true_eq] at hh hv
   obtain ⟨⟨⟨h1,h2⟩,h3⟩,h4⟩:=hh
   obtain ⟨n,x,t0,w0⟩:=hf 0 f rfl
   simp only [Is] at hi
   obtain ⟨c1,c2,rfl,hl1,hi1,hi2⟩:=hi
   rw [h1,h2,← hc,List.take_left' hl1] at t0
   refine ⟨Tp.fit a h3 hv.1 t0 hi1 w0,Tp.fitAll (o + a.size) r fs (cs:=c2) (all:=all) h4 hv.2 (fun i g hg=>hf (i + 1) g hg) (by rw [← List.drop_drop,← hc,List.drop_left' hl1]) hi2⟩
 | _,.int _,_,_,_,_,hh,_,_,_,_=>by simp [Tp.hasAll] at hh
 | _,.bool,_,_,_,_,hh,_,_,_,_=>by simp [Tp.hasAll] at hh
 | _,.str,_,_,_,_,hh,_,_,_,_=>by simp [Tp.hasAll] at hh
 | _,.sl _,_,_,_,_,hh,_,_,_,_=>by simp [Tp.hasAll] at hh
 | _,.ptr _,_,_,_,_,hh,_,_,_,_=>by simp [Tp.hasAll] at hh
 | _,.emp,_ :: _,_,_,_,hh,_,_,_,_=>by simp [Tp.hasAll] at hh
 | _,.one _,[],_,_,_,hh,_,_,_,_=>by simp [Tp.hasAll] at hh
 | _,.one _,_ :: _ :: _,_,_,_,hh,_,_,_,_=>by simp [Tp.hasAll] at hh
 | _,.cons _ _,[],_,_,_,hh,_,_,_,_=>by simp [Tp.hasAll] at hh
end
theorem Tp.argFit (ty:Tp) {r:Reach} {b:Nat} {t:TypeId} {v:Value} {d:DataW H} {p:List MemPlace} {x:ty.den} (hh:ty.has P t=true) (hv:ty.heavy P t=true) (h:DataW.Trod enc P W base spare held t v d p) (hx:IsV (Hp.of W) ty v x) (hw:(d.weights P t).all (·≤reachBytes)=true):ty.Fit x:=by
 obtain ⟨f,hf⟩:=h
 cases ty with
 | int k=>trivial
 | bool=>trivial
 | str=>trivial
 | ptr e=>trivial
 | emp=>trivial
 | sl e =>
   obtain ⟨ad,cp,rfl⟩:=Is.slv hx
   exact Tp.fit (.sl e) hh hv hf hx hw
 | one a =>
   obtain ⟨cs,rfl,hi⟩:=hx
   exact Tp.fit (.one a) hh hv (show DataW.trod enc P W base spare held f t cs=some (d,p) from hf) hi hw
 | cons a q =>
   obtain ⟨cs,rfl,hi⟩:=hx
   exact Tp.fit (.cons a q) hh hv (show DataW.trod enc P W base spare held f t cs=some (d,p) from hf) hi hw
end
end
section
section
variable {σ β:Type} {body:σ→Option (σ⊕β)}
theorem aQ (st:Nat→σ) (n:Nat) {b:β} (h:∀ k,k < n→body (st k)=some (.inl (st (k + 1)))) (he:body (st n)=some (.inr b)):loop body (st 0)=some b:=by
 have:∀ m k,k + m=n→loop body (st k)=some b:=by
   intro m
   induction m with
   | zero => intro k hk; have : k = n := by omega
             subst this; exact eK he
   | succ m ih=>intro k hk; rw [nA (h k (by omega))]; exact ih (k + 1) (by omega)
 exact this n 0 (by omega)
theorem least (p:Nat→Prop):∀ n,(∃ k,k < n∧p k∧∀ j,j < k→¬ p j)∨∀ j,j < n→¬ p j
 | 0 => .inr (fun j hj=>by omega)
 | n + 1=>by
   rcases least p n with ⟨k,h1,h2,h3⟩ | h
   . exact .inl ⟨k,by omega,h2,h3⟩
   . by_cases hp:p n
     . exact .inl ⟨n,by omega,hp,h⟩
     . exact .inr (fun j hj=>if e:j=n then e ▸ hp else h j (by omega))
theorem iu (p:Nat→Prop) (st:Nat→σ) (n:Nat) (hit:Nat→β) (e:β) (hgo:∀ k,k < n→¬ p k→body (st k)=some (.inl (st (k + 1)))) (hhit:∀ k,k < n→p k→body (st k)=some (.inr (hit k))) (hend:body (st n)=some (.inr e)) :
   (∃ k,k < n∧p k∧(∀ j,j < k→¬ p j)∧loop body (st 0)=some (hit k))∨((∀ j,j < n→¬ p j)∧loop body (st 0)=some e):=by
 rcases least p n with ⟨k,h1,h2,h3⟩ | h
 . exact .inl ⟨k,h1,h2,h3,aQ st k (fun j hj=>hgo j (by omega) (h3 j hj)) (hhit k h1 h2)⟩
 . exact .inr ⟨h,aQ st n (fun k hk=>hgo k hk (h k hk)) hend⟩
open Classical in
theorem DN (p:Nat→Prop) (st:Nat→σ) (n:Nat) (b e:β) (hgo:∀ k,k < n→¬ p k→body (st k)=some (.inl (st (k + 1)))) (hhit:∀ k,k < n→p k→body (st k)=some (.inr b)) (hend:body (st n)=some (.inr e)) :
   loop body (st 0)=some (if ∃ k,k < n∧p k then b else e):=by
 rcases iu p st n (fun _=>b) e hgo hhit hend with ⟨k,h1,h2,h3,h4⟩ | ⟨h1,h2⟩
 . rw [if_pos ⟨k,h1,h2⟩]; exact h4
 . rw [if_neg (fun ⟨k,h3,h4⟩=>h1 k h3 h4)]; exact h2
end
theorem w64 {x:Int} (h1 : -9223372036854775808≤x) (h2:x≤9223372036854775807):IntKind.wrap .i64 x=x:=by
 rw [IntWalk.i64_left,IntWalk.wrap64_in _ ⟨h1,h2⟩]
theorem aq {k n:Nat} (h:k < n) (hn:n≤9223372036854775807):IntKind.wrap .i64 ((k:Int) + 1)=((k + 1:Nat):Int):=by
 rw [w64 (by omega) (by omega)]; rfl
theorem ah {α:Type} {l:List α} {k:Nat} (h:k < l.length):aa l (k:Int)=some l[k]:=xV rfl h
theorem Cw {α γ:Type} (xa:List α) (f:γ→α→γ) (c0:γ) (hn:xa.length≤9223372036854775807) {body:γ×Int→Option ((γ×Int)⊕γ)}
   (hb:∀ k x,xa[k]? = some x→body ((xa.take k).foldl f c0,(k:Int))=some (.inl (f ((xa.take k).foldl f c0) x,IntKind.wrap .i64 ((k:Int) + 1)))) (he:body (xa.foldl f c0,(xa.length:Int))=some (.inr (xa.foldl f c0))):loop body (c0,0)=some (xa.foldl f c0):=by
 have h:=aQ (body:=body) (fun k:Nat=>((xa.take k).foldl f c0,(k:Int))) xa.length (b:=xa.foldl f c0) ?_ ?_
 . simpa using h
 . intro k hk
   rw [hb k xa[k] (by simp [hk]),aq hk hn]
   congr 3
   rw [List.take_succ_eq_append_getElem hk,List.foldl_append]; rfl
 . simpa using he
theorem vA {α γ:Type} (g:α→γ) (xa:List α) (c:List γ):xa.foldl (fun c x=>c++[g x]) c=c++xa.map g:=by
 induction xa generalizing c with
 | nil=>simp
 | cons x xa ih=>simp [ih]
theorem rJ {α γ:Type} (xa:List α) (g:α→γ) (c0:List γ) (hn:c0.length + xa.length≤1073741824) {body:List γ×Int→Option ((List γ×Int)⊕List γ)}
   (hb:∀ (c:List γ) (i:Int),body (c,i)=cond (decide (i < ((xa.length:Nat):Int))) ((aa xa i).bind fun x=>(app c [g x]).bind fun z=>some (.inl (z,IntKind.wrap .i64 (i + 1)))) (some (.inr c))):loop body (c0,0)=some (c0++xa.map g):=by
 rw [← vA]
 refine Cw xa (fun c x=>c++[g x]) c0 (by omega) (fun k x hx=>?_) ?_
 . have hk:=(List.getElem?_eq_some_iff.1 hx).1
   rw [hb,vA]
   have hx':xa[k]=x:=by rw [List.getElem?_eq_getElem hk] at hx; exact Option.some.inj hx
   have ha:=aM (a:=c0++(xa.take k).map g) (b:=[g x]) (by simp; omega)
   simp only [Option.bind_some,ah hk,hx',ha,Int.ofNat_lt.2 hk,decide_true,cond_true]
 . rw [hb]; simp
end
section
theorem px {α:Type} {l:List α} {i:Int} (h0:0≤i) (h1:i < (l.length:Nat)):aa l i=some (l[i.toNat]'(by omega)):=by
 unfold aa; rw [if_pos h0]; simp
theorem zt {α:Type} {l:List α} {k:Nat} (h:k + 1 < l.length):aa l ((k:Int) + 1)=some l[k + 1]:=xV rfl h
theorem dlt {k n:Nat} (h:k < n):decide ((k:Int) < (n:Int))=true:=by simp; omega
theorem dge {k n:Nat} (h:¬ k < n):decide ((k:Int) < (n:Int))=false:=by simp; omega
theorem yh {α:Type} [DecidableEq α] (a b:α):(a == b)=decide (a=b):=Bool.beq_eq_decide_eq a b
section
variable {α β γ σ:Type}
theorem cP {body:Int→Option (Int⊕β)} (xa:List α) (t:α→Bool) (hit:Nat→β) (e:β) (hb:∀ (k:Nat) (h:k < xa.length),body (k:Int)=some (if t xa[k] then .inr (hit k) else .inl ((k + 1:Nat):Int))) (he:body (xa.length:Int)=some (.inr e)) :
   loop body 0=some (match xa.findIdx? t with | some k=>hit k | none=>e):=by
 rcases iu (fun k=>∃ h:k < xa.length,t xa[k]=true) (fun k:Nat=>(k:Int)) xa.length hit e (fun k hk hp=>by
     rw [hb k hk,if_neg (fun h=>hp ⟨hk,h⟩)]) (fun k hk ⟨_,hp⟩=>by rw [hb k hk,if_pos hp]) he with ⟨k,h1,⟨_,h2⟩,h3,h4⟩ | ⟨h1,h2⟩
 . rw [show ((0:Int))=((0:Nat):Int) from rfl,h4]
   have:xa.findIdx? t=some k:=by
     rw [List.findIdx?_eq_some_iff_getElem]
     exact ⟨h1,h2,fun j hj=>fun hc=>h3 j hj ⟨by omega,by simpa using hc⟩⟩
   rw [this]
 . rw [show ((0:Int))=((0:Nat):Int) from rfl,h2]
   have:xa.findIdx? t=none:=by
     rw [List.findIdx?_eq_none_iff]
     intro x hx
     obtain ⟨k,hk,rfl⟩:=List.getElem_of_mem hx
     cases hc:t xa[k] with
     | false=>rfl
     | true=>exact absurd ⟨hk,hc⟩ (h1 k hk)
   rw [this]
theorem fS {body:Int→Option (Int⊕β)} (xa:List α) (t:α→Bool) (hit e:β) (hb:∀ (k:Nat) (h:k < xa.length),body (k:Int)=some (if t xa[k] then .inr hit else .inl ((k + 1:Nat):Int))) (he:body (xa.length:Int)=some (.inr e)) :
   loop body 0=some (if xa.any t then hit else e):=by
 rw [cP xa t (fun _=>hit) e hb he]
 cases h:xa.findIdx? t with
 | none =>
   have:xa.any t=false:=by
     rw [List.any_eq_false]; intro x hx; have:=List.findIdx?_eq_none_iff.1 h x hx; simp [this]
   rw [this]; rfl
 | some k =>
   obtain ⟨hk,h1,_⟩:=List.findIdx?_eq_some_iff_getElem.1 h
   have:xa.any t=true:=List.any_eq_true.2 ⟨_,List.getElem_mem hk,h1⟩
   rw [this]; rfl
theorem vF {δ:Type} {body:(γ×Int)→Option ((γ×Int)⊕δ)} (xa:List α) (acc:Nat→γ) (out:δ) (hb:∀ (k:Nat) (h:k < xa.length),body (acc k,(k:Int))=some (.inl (acc (k + 1),((k + 1:Nat):Int)))) (he:body (acc xa.length,(xa.length:Int))=some (.inr out)) :
   loop body (acc 0,0)=some out:=aQ (fun k=>(acc k,(k:Int))) xa.length hb he
theorem vm [DecidableEq α] {body:Int→Option (Int⊕β)} (xa xb:List α) (hit e:β) (hl:xa.length=xb.length) (hb:∀ (k:Nat) (h:k < xa.length),body (k:Int)=some (if xa[k]=(xb[k]'(by omega)) then .inl ((k + 1:Nat):Int) else .inr hit)) (he:body (xa.length:Int)=some (.inr e)) :
   loop body 0=some (if xa=xb then e else hit):=by
 rw [cP (List.range xa.length) (fun k=>decide (xa[k]?≠xb[k]?)) (fun _=>hit) e (fun k h=>by
     simp at h
     rw [hb k h]
     have h2:k < xb.length:=by omega
     by_cases hq:xa[k]=xb[k] <;> simp [h,h2,hq]) (by simpa using he)]
 by_cases hq:xa=xb
 . subst hq
   have:(List.range xa.length).findIdx? (fun k=>decide (xa[k]?≠xa[k]?))=none:=by rw [List.findIdx?_eq_none_iff]; simp
   rw [this]; simp
 . cases h:(List.range xa.length).findIdx? (fun k=>decide (xa[k]?≠xb[k]?)) with
   | some k=>simp [hq]
   | none =>
     exfalso; apply hq
     rw [List.findIdx?_eq_none_iff] at h
     apply List.ext_getElem?
     intro k
     by_cases hk:k < xa.length
     . simpa using h k (List.mem_range.2 hk)
     . rw [List.getElem?_eq_none (by omega),List.getElem?_eq_none (by omega)]
theorem aO {l:List α} {k:Nat} (h:k < l.length):l.take (k + 1)=l.take k++[l[k]]:=List.take_succ_eq_append_getElem h
theorem uC {a b:Nat} (h:a=b):(!decide ((a:Int)=(b:Int)))=false:=by simp [h]
theorem oU {a b:Nat} (h:¬ a=b):(!decide ((a:Int)=(b:Int)))=true:=by simp; omega
end
theorem gz {α:Type} {l:List α} (h:1≤l.length):subL l 1 ((l.length:Nat):Int)=some (l.drop 1):=by
 rw [kN (by omega) (by omega) (by omega)]; simp
end
section
inductive Lv (E:List (Nat×Nat)) (N:Nat) (R W:Nat→Bool):Nat→Prop
 | rd {n:Nat}:n < N→R n=true→Lv E N R W n
 | st {u v:Nat}:(u,v)∈E→Lv E N R W v→W u=false→Lv E N R W u
def cz (N:Nat) (V:Nat→Bool):Nat:=((List.range N).filter (fun n=>!V n)).length
def cb (V:Nat→Bool) (u:Nat):Nat→Bool:=fun n=>V n||decide (n=u)
theorem vM {α:Type} {p q:α→Bool}:∀ (l:List α),(∀ x,p x=true→q x=true)→(l.filter p).length≤(l.filter q).length
 | [],_=>Nat.le_refl _
 | x :: l,h=>by
   have ih:=vM l h
   rw [List.filter_cons,List.filter_cons]
   cases hp:p x with
   | true=>rw [h x hp]; simp only [if_true,List.length_cons]; omega
   | false=>cases hq:q x <;> simp only [Bool.false_eq_true,if_false,if_true,List.length_cons] <;> omega
theorem vS {α:Type} {p q:α→Bool} {y:α}:∀ (l:List α),(∀ x,p x=true→q x=true)→y∈l→p y=false→q y=true→(l.filter p).length < (l.filter q).length
 | [],_,hm,_,_=>by simp at hm
 | x :: l,h,hm,h1,h2=>by
   rw [List.filter_cons,List.filter_cons]
   rcases List.mem_cons.1 hm with rfl | hm
   . have:=vM l h
     rw [h1,h2]; simp only [Bool.false_eq_true,if_false,if_true,List.length_cons]; omega
   . have ih:=vS l h hm h1 h2
     cases hp:p x with
     | true=>rw [h x hp]; simp only [if_true,List.length_cons]; omega
     | false=>cases hq:q x <;> simp only [Bool.false_eq_true,if_false,if_true,List.length_cons] <;> omega
theorem F1 {N:Nat} {V:Nat→Bool} {u:Nat} (hu:u < N) (hv:V u=false):cz N (cb V u) < cz N V:=by
 unfold cz
 refine vS (y:=u) _ (fun x hx=>?_) (List.mem_range.2 hu) (by simp [cb]) (by simp [hv])
 unfold cb at hx
 cases h:V x with
 | true=>rw [h] at hx; simp at hx
 | false=>rfl
section
variable {E:List (Nat×Nat)} {N:Nat} {R W:Nat→Bool}
theorem Lv.least {V:Nat→Bool} (h1:∀ n,n < N→R n=true→V n=true) (h2:∀ a∈E,¬ (V a.1=false∧V a.2=true∧W a.1=false)) {n:Nat} (h:Lv E N R W n):V n=true:=by
 induction h with
 | rd hn hr=>exact h1 _ hn hr
 | st he _ hw ih =>
   have:=h2 _ he
   cases hv:V _ with
   | true=>rfl
   | false=>exact absurd ⟨hv,ih,hw⟩ this
theorem Lv.lt (hE:∀ a∈E,a.1 < N∧a.2 < N) {n:Nat} (h:Lv E N R W n):n < N:=by
 cases h with
 | rd hn _=>exact hn
 | st he _ _=>exact (hE _ he).1
def stW (W:Nat→Bool) (s:(Nat→Bool)×List Nat) (u:Nat):(Nat→Bool)×List Nat:=if s.1 u=false∧W u=false then (cb s.1 u,s.2++[u]) else s
structure Wk25 (E:List (Nat×Nat)) (N:Nat) (R W:Nat→Bool) (V:Nat→Bool) (Q:List Nat) (D:Nat→Prop):Prop where
 lv:∀ n,V n=true→Lv E N R W n
 q:∀ n∈Q,V n=true
 nd:Q.Nodup
 cl:∀ v,V v=true→v∈Q∨D v
def M8 (E:List (Nat×Nat)) (W:Nat→Bool) (V:Nat→Bool) (v:Nat):Prop:=∀ u,(u,v)∈E→W u=false→V u=true
theorem nL (hE:∀ a∈E,a.1 < N∧a.2 < N) {v:Nat} (hv:Lv E N R W v):∀ (A:List Nat) (V:Nat→Bool) (Q:List Nat),(∀ u∈A,(u,v)∈E)→(∀ n,V n=true→Lv E N R W n)→(∀ n∈Q,V n=true)→Q.Nodup →
   (∀ n,V n=true→(A.foldl (stW W) (V,Q)).1 n=true)∧(∀ n,(A.foldl (stW W) (V,Q)).1 n=true→Lv E N R W n)∧(∀ n∈(A.foldl (stW W) (V,Q)).2,(A.foldl (stW W) (V,Q)).1 n=true)∧(A.foldl (stW W) (V,Q)).2.Nodup ∧
   (∀ n,(A.foldl (stW W) (V,Q)).1 n=true→V n=true∨n∈(A.foldl (stW W) (V,Q)).2)∧(∀ n∈Q,n∈(A.foldl (stW W) (V,Q)).2)∧(∀ u∈A,W u=false→(A.foldl (stW W) (V,Q)).1 u=true) ∧
   2 * cz N (A.foldl (stW W) (V,Q)).1 + (A.foldl (stW W) (V,Q)).2.length≤2 * cz N V + Q.length
 | [],V,Q,h,h1,h2,h3=>⟨fun n hn=>hn,h1,h2,h3,fun n hn => .inl hn,fun n hn=>hn,by simp,Nat.le_refl _⟩
 | u :: A,V,Q,h,h1,h2,h3=>by
   rw [List.foldl_cons]
   have huE:=h u (List.mem_cons_self ..)
   by_cases hc:V u=false∧W u=false
   . have e:stW W (V,Q) u=(cb V u,Q++[u]):=by unfold stW; rw [if_pos hc]
     rw [e]
     have hz:cz N (cb V u) < cz N V:=F1 (hE _ huE).1 hc.1
     obtain ⟨i1,i2,i3,i4,i5,i6,i7,i8⟩:=nL hE hv A (cb V u) (Q++[u]) (fun b hb=>h b (List.mem_cons_of_mem _ hb))
       (fun n hn=>by
         simp only [cb,Bool.or_eq_true,decide_eq_true_eq] at hn
         rcases hn with hn | rfl
         . exact h1 n hn
         . exact .st huE hv hc.2)
       (fun n hn=>by
         rcases List.mem_append.1 hn with hn | hn
         . simp [cb,h2 n hn]
         . simp at hn; subst hn; simp [cb])
       (List.nodup_append.2 ⟨h3,by simp,fun a ha b hb eab=>by
         simp only [List.mem_singleton] at hb
         have:=h2 _ ha; rw [eab,hb,hc.1] at this; cases this⟩)
     refine ⟨fun n hn=>i1 n (by simp [cb,hn]),i2,i3,i4,fun n hn=>?_,fun n hn=>i6 n (List.mem_append_left _ hn),fun w hw hww=>?_,?_⟩
     . rcases i5 n hn with h4 | h4
       . simp only [cb,Bool.or_eq_true,decide_eq_true_eq] at h4
         rcases h4 with h4 | rfl
         . exact .inl h4
         . exact .inr (i6 _ (by simp))
       . exact .inr h4
     . rcases List.mem_cons.1 hw with rfl | hw
       . exact i1 _ (by simp [cb])
       . exact i7 w hw hww
     . rw [List.length_append,List.length_singleton] at i8; omega
   . have e:stW W (V,Q) u=(V,Q):=by unfold stW; rw [if_neg hc]
     rw [e]
     obtain ⟨i1,i2,i3,i4,i5,i6,i7,i8⟩:=nL hE hv A V Q (fun b hb=>h b (List.mem_cons_of_mem _ hb)) h1 h2 h3
     refine ⟨i1,i2,i3,i4,i5,i6,fun w hw hww=>?_,i8⟩
     rcases List.mem_cons.1 hw with rfl | hw
     . cases hV:V w with
       | true=>exact i1 _ hV
       | false=>exact absurd ⟨hV,hww⟩ hc
     . exact i7 w hw hww
end
end
end
end Go.Proofs.YtaajcbeoafhmaaaGreatDoor
namespace Go.Proofs
open Go.Shelf
def Tryz.lays189_ren:Go.Shelf.Ren:=⟨fun | 189=>61 | 125=>94 | 257=>93 | 128=>133 | 129=>134 | 294=>124 | 295=>125 | 296=>126 | 297=>127 | 298=>128 | 299=>129 | 216=>130 | 300=>131 | 301=>132 | 328=>157 | 329=>158 | 330=>159 | 331=>160 | 332=>161 | 215=>162 | 343=>182 | n=>n,fun | 28=>48 | 3=>3 | 46=>155 | 0=>0 | 51=>188 | 53=>113 | 4=>4 | 183=>181 | 182=>180 | 131=>43 | 5=>5 | 9=>9 | 218=>203 | 222=>207 | 228=>220 | 229=>221 | n=>n,fun | n=>n⟩
theorem Tryz.lays189:Go.Proofs.Lays.n189 Tryz.prog Tryz.lays189_ren:={
 mixed:=by kernel_rfl
 f125:=Tryz.func94.trans (congrArg some (by kernel_rfl))
 f128:=Tryz.func133.trans (congrArg some (by kernel_rfl))
 f129:=Tryz.func134.trans (congrArg some (by kernel_rfl))
 f189:=Tryz.func61.trans (congrArg some (by kernel_rfl))
 f215:=Tryz.func162.trans (congrArg some (by kernel_rfl))
 f216:=Tryz.func130.trans (congrArg some (by kernel_rfl))
 f257:=Tryz.func93.trans (congrArg some (by kernel_rfl))
 f294:=Tryz.func124.trans (congrArg some (by kernel_rfl))
 f295:=Tryz.func125.trans (congrArg some (by kernel_rfl))
 f296:=Tryz.func126.trans (congrArg some (by kernel_rfl))
 f297:=Tryz.func127.trans (congrArg some (by kernel_rfl))
 f298:=Tryz.func128.trans (congrArg some (by kernel_rfl))
 f299:=Tryz.func129.trans (congrArg some (by kernel_rfl))
 f300:=Tryz.func131.trans (congrArg some (by kernel_rfl))
 f301:=Tryz.func132.trans (congrArg some (by kernel_rfl))
 f328:=Tryz.func157.trans (congrArg some (by kernel_rfl))
 f329:=Tryz.func158.trans (congrArg some (by kernel_rfl))
 f330:=Tryz.func159.trans (congrArg some (by kernel_rfl))
 f331:=Tryz.func160.trans (congrArg some (by kernel_rfl))
 f332:=Tryz.func161.trans (congrArg some (by kernel_rfl))
 f343:=Tryz.func182.trans (congrArg some (by kernel_rfl))
 t0:=Tryz.underlying0
 a0:=Tryz.isAgg0
 z0:=Tryz.sizeOf0
 v0:=Tryz.zeroValue0
 t3:=Tryz.underlying3
 a3:=Tryz.isAgg3
 z3:=Tryz.sizeOf3
 v3:=Tryz.zeroValue3
 t4:=Tryz.underlying4
 a4:=Tryz.isAgg4
 z4:=Tryz.sizeOf4
 v4:=Tryz.zeroValue4
 t5:=Tryz.underlying5
 a5:=Tryz.isAgg5
 z5:=Tryz.sizeOf5
 v5:=Tryz.zeroValue5
 t9:=Tryz.underlying9
 a9:=Tryz.isAgg9
 z9:=Tryz.sizeOf9
 v9:=Tryz.zeroValue9
 t28:=Tryz.underlying48
 a28:=Tryz.isAgg48
 z28:=Tryz.sizeOf48
 v28:=Tryz.zeroValue48
 t46:=Tryz.underlying155
 a46:=Tryz.isAgg155
 z46:=Tryz.sizeOf155
 v46:=Tryz.zeroValue155
 t51:=Tryz.underlying188
 a51:=Tryz.isAgg188
 z51:=Tryz.sizeOf188
 v51:=Tryz.zeroValue188
 t53:=Tryz.underlying113
 a53:=Tryz.isAgg113
 z53:=Tryz.sizeOf113
 v53:=Tryz.zeroValue113
 t131:=Tryz.underlying43
 a131:=Tryz.isAgg43
 z131:=Tryz.sizeOf43
 v131:=Tryz.zeroValue43
 t182:=Tryz.underlying180
 a182:=Tryz.isAgg180
 z182:=Tryz.sizeOf180
 v182:=Tryz.zeroValue180
 t183:=Tryz.underlying181
 a183:=Tryz.isAgg181
 z183:=Tryz.sizeOf181
 v183:=Tryz.zeroValue181
 t218:=Tryz.underlying203
 a218:=Tryz.isAgg203
 z218:=Tryz.sizeOf203
 v218:=Tryz.zeroValue203
 t222:=Tryz.underlying207
 a222:=Tryz.isAgg207
 z222:=Tryz.sizeOf207
 v222:=Tryz.zeroValue207
 t228:=Tryz.underlying220
 a228:=Tryz.isAgg220
 z228:=Tryz.sizeOf220
 v228:=Tryz.zeroValue220
 t229:=Tryz.underlying221
 a229:=Tryz.isAgg221
 z229:=Tryz.sizeOf221
 v229:=Tryz.zeroValue221 }
open Go.Sort Go.RowKit in
theorem Tryz.slices_Sort_int (blk off cap:Nat) (zs:List Int) (w:World) (hH:Holds (Value.int .i64) w blk off zs.toArray) (hblk:blk < w.heap.size) (hsz:zs.length < 4611686018427387904) :
   Calls Tryz.prog 61 #[.slice (some ⟨blk,off,none⟩) zs.length cap] w fun e w' =>
     e = .returned (.tuple #[])∧∃ n os,w'=grow (putRow (Value.int .i64) (Sort.ahead w n) blk off (zs.mergeSort fun x y=>decide (x≤y)).toArray) os:=Any.slices_Sort_int Tryz.lays189 blk off cap zs w hH hblk hsz
def Tryz.laysNm220_ren:Go.Shelf.Ren:=⟨fun | 20=>62 | n=>n,fun | 22=>48 | 3=>3 | 4=>4 | 0=>0 | n=>n,fun | n=>n⟩
theorem Tryz.laysNm220:Go.Proofs.Lays2.n20 Tryz.prog Tryz.laysNm220_ren:={
 mixed:=by kernel_rfl
 f20:=Tryz.func62.trans (congrArg some (by kernel_rfl))
 t0:=Tryz.underlying0
 a0:=Tryz.isAgg0
 z0:=Tryz.sizeOf0
 v0:=Tryz.zeroValue0
 t3:=Tryz.underlying3
 a3:=Tryz.isAgg3
 z3:=Tryz.sizeOf3
 v3:=Tryz.zeroValue3
 t4:=Tryz.underlying4
 a4:=Tryz.isAgg4
 z4:=Tryz.sizeOf4
 v4:=Tryz.zeroValue4
 t22:=Tryz.underlying48
 a22:=Tryz.isAgg48
 z22:=Tryz.sizeOf48
 v22:=Tryz.zeroValue48
 i3:=by kernel_rfl }
open Go.RowKit Go.Lib Go.Sort in
/-- slices.Compact at []int: "Compact replaces consecutive runs of equal elements with a single copy. This is like the uniq command found on Unix. Compact modifies the contents of the slice s and returns the modified slice, which may have a smaller length. Compact zeroes the elements between the new length and the original length. The result preserves the nilness of s.": IT RETURNS THE SLICE CUT TO 'Lib.compact zs'; ITS CELLS HOLD 'Lib.compact zs', THEN ZERO VALUES up to the old length; all else is as it was, but for the count of draws. IN THE WORDS OF slices.Sort's CONTRACT ('Holds', 'putRow'): so the everyday 'slices.Sort(xs); xs = slices.Compact(xs)' goes from the one wD to the other. It asks 'zs.length ≤ cap' (every slice's: the reslicing 's[:k]' looks at it). Length 0, nil: '.._empty'. (LAID: no walk: one application.) -/
theorem Tryz.slices_Compact_int (blk off cap:Nat) (zs:List Int) (w:World) (hH:Holds (Value.int .i64) w blk off zs.toArray) (hsz:zs.length≤9223372036854775807) (hcap:zs.length≤cap) :
   Calls Tryz.prog 62 #[.slice (some ⟨blk,off,none⟩) zs.length cap] w fun e w'=>e = .returned (.slice (some ⟨blk,off,none⟩) (Lib.compact zs).length cap)∧∃ q,w'=putRow (Value.int .i64) (Sort.ahead w q) blk off (Lib.compact zs++List.replicate (zs.length - (Lib.compact zs).length) 0).toArray:=Any.slices_Compact_int Tryz.laysNm220 blk off cap zs w hH hsz hcap
open Go.RowKit Go.Lib Go.Sort in
/-- The same at a slice of length 0, a nil one too: it comes back as it is. (LAID: no walk: one application.) -/
theorem Tryz.slices_Compact_int_empty (a:Option Addr) (cap:Nat) (w:World) :
   Calls Tryz.prog 62 #[.slice a 0 cap] w fun e w'=>e = .returned (.slice a 0 cap)∧w'=w:=Any.slices_Compact_int_empty Tryz.laysNm220 a cap w
open Go.RowKit Go.Sort in
/-- .. and plain. (LAID: no walk: one application.) -/
theorem Tryz.slices_Sort_int_none (p:Option Addr) (cap:Nat) (w:World) :
   Calls Tryz.prog 61 #[.slice p 0 cap] w fun e w'=>e = .returned (.tuple #[])∧w'=w:=Any.slices_Sort_int_none Tryz.lays189 p cap w
end Go.Proofs
namespace Go.Proofs.YtaajcbeoafhmaaaGreatDoor
noncomputable section
set_option linter.unusedVariables false
open Go.RowKit
def srt (xs:List Int):Option (List Int):=if xs.length≤1073741824 then some (xs.mergeSort fun x y=>decide (x≤y)) else none
theorem Et {xs r:List Int} (h:srt xs=some r):xs.length≤1073741824∧xs.mergeSort (fun x y=>decide (x≤y))=r:=by
 unfold srt at h; split at h
 . rename_i hh; cases h; exact ⟨hh,rfl⟩
 . cases h
theorem nK (K:Hp):∀ xs:List Int,Els K (.int .i64) (xs.map (Value.int .i64)) xs
 | []=>rfl
 | x :: xs=>⟨[.int .i64 x],_,rfl,rfl,nK K xs⟩
theorem kx {K:Hp}:∀ {xs:List Int} {cs:List Value},Els K (.int .i64) cs xs→cs=xs.map (Value.int .i64)
 | [],cs,h=>h
 | x :: xs,cs,h=>by
   obtain ⟨es,r,rfl,h1,h2⟩:=h
   obtain rfl:es=[.int .i64 x]:=h1
   rw [kx h2]; rfl
theorem A1 {K:Hp} {ad:Option Addr} {m cap:Nat} {xs r:List Int} (h:srt xs=some r) :
   Tr Tryz.prog 61 #[.slice ad m cap] K [Row Hp.nil 3 (.int .i64) (.slice ad m cap) xs] (fun v K' L'=>(∃ (l:List Int),l=r∧v = .tuple #[]∧L'=[Row Hp.nil 3 (.int .i64) (.slice ad m cap) l])∧K=K'):=by
 obtain ⟨hl,rfl⟩:=Et h
 refine Tr.k (fun E w F hs=>?_)
 have hs':=hs
 obtain ⟨h0,⟨cs,h1,h2⟩,hd,hs2⟩:=hs
 have hle:h0.le (Hp.of w):=fun n o e=>hs2.sub n o (Hp.join_right e (hd n o e))
 obtain rfl:=kx h1
 have h2':=h2
 obtain ⟨h3,h4⟩:=h2
 rcases h4 with ⟨h5,h6,_⟩ | ⟨g,cp,cur,h5,rfl,h6,h7,h8,h9⟩
 . cases h5
   obtain rfl:xs=[]:=List.length_eq_zero_iff.1 h6
   refine (Tryz.slices_Sort_int_none none 0 w).mono ?_
   rintro e w' ⟨rfl,rfl⟩
   exact ⟨_,K,_,rfl,⟨_,rfl,rfl,rfl⟩,Hp.le_refl K,by simpa using hs'⟩
 . cases h5
   have hb:=hle g _ (aV g _)
   have ht:cur.toList.take xs.length=xs.map (Value.int .i64):=by simpa [Tp.size] using h9
   refine (Tryz.slices_Sort_int g 0 cap xs w (holds_of_blockI hb ht) (lt_of_block hb) (by omega)).mono ?_
   rintro e w' ⟨rfl,n,os,rfl⟩
   have hlen:(xs.mergeSort fun x y=>decide (x≤y)).length=xs.length:=List.length_mergeSort xs
   have ho:=ownsRow_sortedI (n:=n) (os:=os) (base:=0) (cap:=cap) hlen (Nat.zero_le g) hb h6 h7 (by simpa [Tp.size] using h8)
   refine ⟨_,K,[Row Hp.nil 3 (.int .i64) (.slice (some ⟨g,0,none⟩) xs.length cap) (xs.mergeSort fun x y=>decide (x≤y))],rfl,⟨_,rfl,rfl,rfl⟩,Hp.le_refl K,?_⟩
   exact hs'.grown hlen.symm (by simpa [hlen,Tp.size] using ho) (nK _ _) (grownBy_sortedI _) (.inl rfl)
def fh (xs:List Int):Option (List Int):=some (Lib.compact xs)
theorem AL {K:Hp} {ad:Option Addr} {m cap:Nat} {xs r:List Int} (h:fh xs=some r) :
   Tr Tryz.prog 62 #[.slice ad m cap] K [Row Hp.nil 3 (.int .i64) (.slice ad m cap) xs] (fun v K' L'=>(∃ (l:List Int) (ad1:Option Addr) (cp1:Nat),l=r∧v = .slice ad1 l.length cp1∧L'=[Row Hp.nil 3 (.int .i64) (.slice ad1 l.length cp1) l])∧K=K'):=by
 cases h
 refine Tr.k (fun E w F hs=>?_)
 have hs':=hs
 obtain ⟨h0,⟨cs,h1,h2⟩,hd,hs2⟩:=hs
 have hle:h0.le (Hp.of w):=fun n o e=>hs2.sub n o (Hp.join_right e (hd n o e))
 obtain rfl:=kx h1
 obtain ⟨h3,h4⟩:=h2
 rcases h4 with ⟨h5,h6,_⟩ | ⟨g,cp,cur,h5,rfl,h6,h7,h8,h9⟩
 . cases h5
   obtain rfl:xs=[]:=List.length_eq_zero_iff.1 h6
   refine (Tryz.slices_Compact_int_empty none 0 w).mono ?_
   rintro e w' ⟨rfl,rfl⟩
   exact ⟨_,K,_,rfl,⟨_,none,0,rfl,rfl,rfl⟩,Hp.le_refl K,hs'⟩
 . cases h5
   have hb:=hle g _ (aV g _)
   have ht:cur.toList.take xs.length=xs.map (Value.int .i64):=by simpa [Tp.size] using h9
   have hcl:(Lib.compact xs).length≤xs.length:=Lib.compact_length_le xs
   refine (Tryz.slices_Compact_int g 0 cap xs w (holds_of_blockI hb ht) (by unfold maxLen at h7; omega) h6).mono ?_
   rintro e w' ⟨rfl,q,rfl⟩
   have hlen:(Lib.compact xs++List.replicate (xs.length - (Lib.compact xs).length) (0:Int)).length=xs.length:=by simp; omega
   have ho:=ownsRow_sortedI (n:=q) (os:=#[]) (base:=0) (cap:=cap) hlen (Nat.zero_le g) hb h6 h7 (by simpa [Tp.size] using h8)
   have hg:=grownBy_sortedI (w:=w) (g:=g) (n:=q) (os:=#[]) (Lib.compact xs++List.replicate (xs.length - (Lib.compact xs).length) (0:Int)).toArray
   rw [show ∀ W:World,Sort.grow W #[]=W from fun W=>by simp [Sort.grow]] at ho hg
   refine ⟨_,K,[Row Hp.nil 3 (.int .i64) (.slice (some ⟨g,0,none⟩) (Lib.compact xs).length cap) (Lib.compact xs)],rfl,⟨_,_,_,rfl,rfl,rfl⟩,Hp.le_refl K,?_⟩
   refine hs'.grown rfl ?_ (nK _ _) hg (.inl rfl)
   obtain ⟨o1,o2⟩:=ho
   refine ⟨by simp [Tp.size],?_⟩
   rcases o2 with ⟨o2,_⟩ | ⟨g',cp',cur',o2,o3,o4,o5,o6,o7,o8⟩
   . cases o2
   . simp only [Value.slice.injEq,Option.some.injEq,Addr.mk.injEq,and_true] at o2
     obtain ⟨rfl,_,rfl⟩:=o2
     refine .inr ⟨g,cap,cur',rfl,Nat.zero_le _,o4,by omega,o6,by simpa [Tp.size] using o7,?_⟩
     have:cur'.toList.take (Lib.compact xs).length=(cur'.toList.take xs.length).take (Lib.compact xs).length:=by rw [List.take_take,Nat.min_eq_left hcl]
     simp only [Nat.mul_one] at o8
     have hsz:(Tp.int IntKind.i64).size=1:=rfl
     rw [hsz,Nat.mul_one,this,o8,List.map_append,List.take_append_of_le_length (by simp),List.take_of_length_le (by simp)]
set_option linter.unnecessarySimpa false
set_option linter.unusedSectionVars false
set_option linter.unusedSimpArgs false
section
variable [BldA]
theorem ya {m:List M} {K:Hp} {x:List Int} {e:TypeId} {args:List Value} {E:En} {w:World} {F:List ab} (hm:m.length=2) (hH:HA.ok m K (.row 0 1 e (.int .i64) x x.length)) (hsl:slR m K [(0,.own 0)] args) (hs:Sep E K ([HA.row 0 1 e (.int .i64) x x.length].map (HA.conc m)++F) w) :
   ∃ ad cap,args=[.slice ad x.length cap]∧m[0]? = some (.val (.slice ad x.length cap))∧Sep E K (Row Hp.nil e (.int .i64) (.slice ad x.length cap) x :: F) w:=by
 obtain ⟨ad,cap,cs,e0,e1,hE,_,h1,h2,h3⟩:=hH
 obtain ⟨u,r,rfl,⟨e2,e3⟩,rfl⟩:=hsl
 rw [e0] at e2
 cases e2
 refine ⟨ad,cap,rfl,e0,?_⟩
 have hs':Sep E K (HA.conc m (.row 0 1 e (.int .i64) x x.length) :: F) w:=hs
 simp only [HA.conc,e0,e1] at hs'
 exact hs'.mono (fun h k=>⟨cs,Els.flat rfl hE,k⟩)
theorem sg {K:Hp} {e:TypeId} {ad:Option Addr} {n cap:Nat} {l:List Int} {E:En} {w:World} {F:List ab} (hs:Sep E K ([Row Hp.nil e (.int .i64) (.slice ad n cap) l]++F) w) :
   n=l.length∧l.length≤cap∧cap≤maxLen∧(l≠[]→∃ g,ad=some ⟨g,0,none⟩)∧∃ cs,Els K (.int .i64) cs l∧Sep E K (Rw e 1 (.slice ad l.length cap) l.length cs :: F) w:=by
 have hs:Sep E K (Row Hp.nil e (.int .i64) (.slice ad n cap) l :: F) w:=hs
 obtain ⟨ad',cap',h1,h2,h3,h4⟩:=hs.fact (fun h k=>Row.form h k)
 cases h1
 obtain ⟨h0,⟨cs,hE,hR⟩,hd,hs2⟩:=hs
 exact ⟨rfl,h2,h3,h4,cs,Els.flat rfl hE,h0,hR,hd,hs2⟩
def sh:Spec:=⟨61,⟨[(0,.rp 0)],[⟨none,0,[],false,false,some (.row 3 (.dat (.int .i64))),false⟩]⟩,[⟨[],[⟨some 0,0,[],false,false,some (.row 3 (.dat (.int .i64))),false⟩]⟩],fun x=>srt x⟩
theorem EL:cK Tryz.prog sh:=by
 intro x r hr vs u hu m K args hgk hm hH hsl E w F hs
 have hu':sh.inn.un (TL.list _ x) 0=some ([(0,.own 0)],⟨[],2,[.row 0 1 3 (.int .i64) x (List.length (α:=Int) x)],[]⟩):=rfl
 rw [hu'] at hu
 cases hu
 replace hm:m.length=2:=hm
 obtain ⟨ad,cap,rfl,e0,hs'⟩:=ya hm (hH _ (by simp)) hsl hs
 refine (A1 (K:=K) hr E w F hs').mono ?_
 rintro e w' ⟨v,K',L',rfl,⟨⟨l,rfl,rfl,rfl⟩,rfl⟩,h1,h2⟩
 obtain ⟨g1,g2,g3,g4,cs,g5,g6⟩:=sg h2
 have hm0:(m++[M.cont (.int .i64) l cs])[0]? = some (.val (.slice ad (List.length (α:=Int) l) cap)):=by
   rw [List.getElem?_append_left (by omega),e0,g1]
 have hm1:(m++[M.cont (.int .i64) l cs])[2]? = some (.cont (.int .i64) l cs):=by
   rw [List.getElem?_append_right (by omega),hm]; rfl
 refine ⟨_,K,_,rfl,⟨[],⟨[],3,[.row 0 2 3 (.int .i64) l (List.length (α:=Int) l)],[]⟩,m++[.cont (.int .i64) l cs],rfl,List.prefix_append _ _,by simp [hm],?_,rfl,rfl⟩,h1,?_⟩
 . intro a ha
   simp only [List.mem_singleton] at ha
   subst ha
   exact ⟨ad,cap,cs,hm0,hm1,g5,rfl,g2,g3,g4⟩
 . show Sep E K (HA.conc _ (.row 0 2 3 (.int .i64) l (List.length (α:=Int) l)) :: F) w'
   simp only [HA.conc,hm0,hm1]
   exact g6
def ol:OkSpec Tryz.prog:=⟨sh,EL,Tryz.call61⟩
def ra:Spec:=⟨62,⟨[(0,.own 3 (.int .i64))],[]⟩,[⟨[(0,.own 3 (.int .i64))],[]⟩],fun x=>fh x⟩
theorem BQ:cK Tryz.prog ra:=by
 intro x r hr vs u hu m K args hgk hm hH hsl E w F hs
 have hu':ra.inn.un (TL.list _ x) 0=some ([(0,.own 0)],⟨[],2,[.row 0 1 3 (.int .i64) x (List.length (α:=Int) x)],[0]⟩):=rfl
 rw [hu'] at hu
 cases hu
 replace hm:m.length=2:=hm
 obtain ⟨ad,cap,rfl,e0,hs'⟩:=ya hm (hH _ (by simp)) hsl hs
 refine (AL (K:=K) hr E w F hs').mono ?_
 rintro e w' ⟨v,K',L',rfl,⟨⟨l,ad1,cp1,rfl,rfl,rfl⟩,rfl⟩,h1,h2⟩
 obtain ⟨_,g2,g3,g4,cs,g5,g6⟩:=sg h2
 have hm0:(m++[M.val (.slice ad1 (List.length (α:=Int) l) cp1),M.cont (.int .i64) l cs])[2]? = some (.val (.slice ad1 (List.length (α:=Int) l) cp1)):=by
   rw [List.getElem?_append_right (by omega),hm]; rfl
 have hm1:(m++[M.val (.slice ad1 (List.length (α:=Int) l) cp1),M.cont (.int .i64) l cs])[3]? = some (.cont (.int .i64) l cs):=by
   rw [List.getElem?_append_right (by omega),hm]; rfl
 refine ⟨_,K,_,rfl,⟨[(0,.own 2)],⟨[],4,[.row 2 3 3 (.int .i64) l (List.length (α:=Int) l)],[2]⟩,m++[M.val (.slice ad1 (List.length (α:=Int) l) cp1),M.cont (.int .i64) l cs],rfl,List.prefix_append _ _,by simp [hm],?_,⟨hm0,rfl⟩,rfl⟩,h1,?_⟩
 . intro a ha
   simp only [List.mem_singleton] at ha
   subst ha
   exact ⟨ad1,cp1,cs,hm0,hm1,g5,rfl,g2,g3,g4⟩
 . show Sep E K (HA.conc _ (.row 2 3 3 (.int .i64) l (List.length (α:=Int) l)) :: F) w'
   simp only [HA.conc,hm0,hm1]
   exact g6
def nt:OkSpec Tryz.prog:=⟨ra,BQ,Tryz.call62⟩
end
end
end Go.Proofs.YtaajcbeoafhmaaaGreatDoor
namespace Go.Proofs
open Go.Shelf
def Tryz.lays221_ren:Go.Shelf.Ren:=⟨fun | 21=>91 | 27=>120 | 28=>121 | 35=>155 | 39=>181 | n=>n,fun | 22=>48 | 3=>3 | 4=>4 | 0=>0 | n=>n,fun | n=>n⟩
theorem Tryz.lays221:Go.Proofs.Lays2.n21 Tryz.prog Tryz.lays221_ren:={
 mixed:=by kernel_rfl
 f21:=Tryz.func91.trans (congrArg some (by kernel_rfl))
 f27:=Tryz.func120.trans (congrArg some (by kernel_rfl))
 f28:=Tryz.func121.trans (congrArg some (by kernel_rfl))
 f35:=Tryz.func155.trans (congrArg some (by kernel_rfl))
 f39:=Tryz.func181.trans (congrArg some (by kernel_rfl))
 t0:=Tryz.underlying0
 a0:=Tryz.isAgg0
 z0:=Tryz.sizeOf0
 v0:=Tryz.zeroValue0
 t3:=Tryz.underlying3
 a3:=Tryz.isAgg3
 z3:=Tryz.sizeOf3
 v3:=Tryz.zeroValue3
 t4:=Tryz.underlying4
 a4:=Tryz.isAgg4
 z4:=Tryz.sizeOf4
 v4:=Tryz.zeroValue4
 t22:=Tryz.underlying48
 a22:=Tryz.isAgg48
 z22:=Tryz.sizeOf48
 v22:=Tryz.zeroValue48
 i3:=by kernel_rfl }
end Go.Proofs
namespace Go.Proofs.YtaajcbeoafhmaaaGreatDoor
noncomputable section
set_option linter.unusedVariables false
set_option linter.unnecessarySimpa false
set_option linter.unusedSectionVars false
set_option linter.unusedSimpArgs false
open Go.RowKit
section
theorem gU {g:Nat} {t:TypeId}:∀ (vs:List Value) (o:Nat) (w:World) (cur:Array Value),w.heap[g]? = some (.cells cur t (0,0))→o + vs.length≤cur.size →
   ∃ cur':Array Value,(w.setCells g o vs).heap[g]? = some (.cells cur' t (0,0))∧cur'.toList=cur.toList.take o++vs++cur.toList.drop (o + vs.length)
 | [],o,w,cur,h,hl=>⟨cur,h,by simp⟩
 | v :: vs,o,w,cur,h,hl=>by
   simp only [List.length_cons] at hl
   have h1:=A9 h o v
   obtain ⟨cur',h2,h3⟩:=gU vs (o + 1) (w.setCell ⟨g,o,none⟩ v) _ h1 (by simp; omega)
   refine ⟨cur',h2,?_⟩
   have ho:o < cur.toList.length:=by simp; omega
   rw [h3,Array.toList_setIfInBounds]
   have e1:(cur.toList.set o v).take (o + 1)=cur.toList.take o++[v]:=by
     rw [List.take_succ_eq_append_getElem (by simpa using ho),List.take_set_of_le (Nat.le_refl o)]
     simp
   have e2:(cur.toList.set o v).drop (o + 1 + vs.length)=cur.toList.drop (o + (v :: vs).length):=by
     rw [List.drop_set_of_lt (by omega),List.length_cons]
     congr 1
     omega
   rw [e1,e2]
   simp
theorem Fr.setCells {S:List Nat} {a:World} (g:Nat) (hg:g∈S∨a.heap.size≤g):∀ (vs:List Value) (o:Nat) (w:World),Fr S a w→Fr S a (w.setCells g o vs)
 | [],_,_,h=>h
 | v :: vs,o,w,h=>Fr.setCells g hg vs (o + 1) _ (h.setCell _ hg v)
section
variable {E:En} {L:List ab} {K:Hp} {w:World}
theorem Sep.rowAt {S:List Nat} {e:TypeId} {t:Tp} {v:Value} {xs zs:List t.den} {K0 K1:Hp} {w':World} {cs':List Value} {g cap m:Nat} {cur:Array Value} (hs:Sep E K (Row K0 e t v xs :: L) w)
   (f:Fr S w w') (hS:∀ x,x∈S→v.ownBlock=some x) (hb:w'.heap[g]? = some (.cells cur e (0,0))) (hg:v.ownBlock=some g∨w.heap.size≤g) (hm:m=zs.length) (hz:Els K1 t cs' zs) (hl:cs'.length=m * t.size)
   (hc1:m≤cap) (hc2:cap≤maxLen) (hc3:cur.size=cap * t.size) (ht:cur.toList.take (m * t.size)=cs'):Sep E K (Row K1 e t (.slice (some ⟨g,0,none⟩) m cap) zs :: L) w':=by
 subst hm
 refine Sep.turn hs (En.of_fr f) (fun h h2 hle=>?_)
 have hbl:∀ n,h n=none↔v.ownBlock≠some n:=fun n=>by
   obtain ⟨cs,_,h3⟩:=h2
   exact h3.block n
 refine ⟨one g (.cells cur e (0,0)),⟨cs',hz,hl,.inr ⟨g,cap,cur,rfl,rfl,hc1,hc2,hc3,ht⟩⟩,fun n o e'=>?_,fun n o e' hn=>?_⟩
 . obtain ⟨rfl,rfl⟩:=bZ e'
   refine ⟨hb,fun hn=>?_⟩
   rcases hg with hg | hg
   . exact absurd hg ((hbl n).1 hn)
   . exact Array.getElem?_eq_none hg
 . rw [f.block n (lt_of_block e') (fun hm=>(hbl n).1 hn (hS n hm))]
   exact e'
end
def da (xs:List Int) (i:Int) (vs:List Int):Option (List Int):=if 0≤i∧i≤(xs.length:Nat)∧vs≠[]∧xs.length + vs.length≤1073741824 then some (xs.take i.toNat++vs++xs.drop i.toNat) else none
theorem xD {cs:List Value} {xs:List Int} (h:cs=xs.map (Value.int .i64)):∀ v∈cs,v.oneCell'=true:=fun v hv=>by
 subst h
 obtain ⟨x,_,rfl⟩:=List.mem_map.1 hv
 rfl
theorem qK {w:World} {g:Nat} {t:TypeId} {cur:Array Value} (h:w.heap[g]? = some (.cells cur t (0,0))) (j:Nat):w.cell? ⟨g,j,none⟩=cur[j]?:=by
 simp [World.cell?,h]
theorem nc {w:World} {g:Nat} {t:TypeId} {cur:Array Value} (h:w.heap[g]? = some (.cells cur t (0,0))) (j:Nat):w.frozen? ⟨g,j,none⟩=false:=by
 simp [World.frozen?,h]
theorem uU {w:World} {g:Nat} {t:TypeId} {cur:Array Value} (h:w.heap[g]? = some (.cells cur t (0,0))):w.shape? g=some (t,cur.size):=by
 simp [World.shape?,h]
theorem yz {cur:Array Value} {cs:List Value} {n:Nat} (h:cur.toList.take n=cs):∀ (j:Nat) (v:Value),cs[j]? = some v→cur[j]? = some v:=fun j v hj=>by
 subst h
 rw [List.getElem?_take] at hj
 split at hj
 . simpa using hj
 . cases hj
theorem E5 {cur c1 c2:List Value} {cs vs:List Value} {i n:Nat} (hn:cs.length=n) (hi:i≤n) (hc:cur.take n=cs) (h1:c1=cur.take (i + vs.length)++cs.drop i++cur.drop (i + vs.length + (cs.drop i).length)) (hsz:n + vs.length≤cur.length)
   (h2:c2=c1.take i++vs++c1.drop (i + vs.length)):c2.take (n + vs.length)=cs.take i++vs++cs.drop i:=by
 have e1:c1.take i=cs.take i:=by
   rw [h1,List.append_assoc,List.take_append_of_le_length (by simp; omega),List.take_take,Nat.min_eq_left (by omega),← hc,List.take_take,Nat.min_eq_left hi]
 have e2:c1.drop (i + vs.length)=cs.drop i++cur.drop (i + vs.length + (cs.drop i).length):=by
   rw [h1,List.append_assoc,List.drop_append_of_le_length (by simp; omega)]
   rw [List.drop_eq_nil_of_le (by simp; omega)]
   rfl
 rw [h2,e1,e2,← List.append_assoc]
 refine List.take_left' ?_
 simp
 omega
theorem sC {l:List Value} {n:Nat}:(l.toArray++Builtin.zeroCells (Value.int .i64 0).cells n).size=l.length + n:=by
 simp [Builtin.zeroCells,Value.cells]
section
variable {K:Hp} {E:En} {F:List ab} {w:World}
theorem Eg {e:TypeId} {v1 v2:Value} {xs vs:List Int} (hv:vs≠[]) (hs:Sep E K (Row Hp.nil e (.int .i64) v1 xs :: Row Hp.nil e (.int .i64) v2 vs :: F) w) :
   (∃ (b c2:Nat) (cur2:Array Value),v2 = .slice (some ⟨b,0,none⟩) vs.length c2∧w.heap[b]? = some (.cells cur2 e (0,0))∧vs.length≤cur2.size∧(∀ (j:Nat) (u:Value),(vs.map (Value.int .i64))[j]? = some u→w.cell? ⟨b,0 + j,none⟩=some u) ∧
     ((v1 = .slice none 0 0∧xs=[])∨∃ (g c1:Nat) (cur:Array Value),v1 = .slice (some ⟨g,0,none⟩) xs.length c1∧w.heap[g]? = some (.cells cur e (0,0))∧b≠g∧xs.length≤c1∧c1≤maxLen∧cur.size=c1∧cur.toList.take xs.length=xs.map (Value.int .i64))):=by
 have hle2:=hs.swap.sub
 obtain ⟨h1,⟨csA,eA,rA⟩,hd1,h2,⟨csB,eB,rB⟩,hd2,hs2⟩:=hs
 obtain rfl:=kx eA
 obtain rfl:=kx eB
 have hh2:h2.le (Hp.of w):=fun n o q=>hs2.sub n o (Hp.join_right q (hd2 n o q))
 have hh1:h1.le (Hp.of w):=fun n o q=>hs2.sub n o (by
   have:=Hp.join_right q (hd1 n o q)
   unfold Hp.join at this ⊢
   rw [this]; rfl)
 obtain ⟨_,rB⟩:=rB
 rcases rB with ⟨_,rB,_⟩ | ⟨b,c2,cur2,rfl,rfl,b1,b2,b3,b4⟩
 . exact absurd (List.length_eq_zero_iff.1 rB) hv
 . have hb:=hh2 b _ (by simp [one]:one b (.cells cur2 e (0,0)) b=some (.cells cur2 e (0,0)))
   simp only [Tp.size,Nat.mul_one] at b3 b4
   refine ⟨b,c2,cur2,rfl,hb,by omega,fun j u hj=>by rw [Nat.zero_add,qK hb]; exact yz b4 j u hj,?_⟩
   obtain ⟨_,rA⟩:=rA
   rcases rA with ⟨rfl,rA,_⟩ | ⟨g,c1,cur,rfl,rfl,a1,a2,a3,a4⟩
   . have hx:=List.length_eq_zero_iff.1 rA
     subst hx
     exact .inl ⟨rfl,rfl⟩
   . have hg:=hh1 g _ (by simp [one]:one g (.cells cur e (0,0)) g=some (.cells cur e (0,0)))
     simp only [Tp.size,Nat.mul_one] at a3 a4
     refine .inr ⟨g,c1,cur,rfl,hg,fun e'=>?_,a1,a2,a3,a4⟩
     subst e'
     have:=(Hp.join_none (hd2 b (.cells cur2 e (0,0)) (by simp [one]))).2
     simp [one] at this
end
theorem AR {K:Hp} {v1 v2:Value} {i:Int} {xs vs r:List Int} (h:da xs i vs=some r) :
   Tr Tryz.prog 91 #[v1,.int .i64 i,v2] K [Row Hp.nil 3 (.int .i64) v1 xs,Row Hp.nil 3 (.int .i64) v2 vs] (fun v K' L'=>(∃ (l:List Int) (ad1:Option Addr) (cp1:Nat),l=r∧v = .slice ad1 l.length cp1∧L'=[Row Hp.nil 3 (.int .i64) (.slice ad1 l.length cp1) l])∧K=K'):=by
 unfold da at h
 split at h
 case isFalse=>cases h
 rename_i hh
 obtain ⟨q1,q2,q3,q4⟩:=hh
 cases h
 obtain ⟨k,rfl⟩:=Int.eq_ofNat_of_zero_le q1
 have hk:k≤xs.length:=by omega
 rw [Int.toNat_natCast]
 refine Tr.k (fun E w F hs=>?_)
 obtain ⟨b,c2,cur2,rfl,hb,hb2,hvs,hv1⟩:=Eg q3 hs
 have hm:0 < vs.length:=by
   rcases Nat.eq_zero_or_pos vs.length with h | h
   . exact absurd (List.length_eq_zero_iff.1 h) q3
   . exact h
 have hs1:Sep E K (Row Hp.nil 3 (.int .i64) v1 xs :: F) w:=hs.swap.drop
 have hlr:(xs.take k++vs++xs.drop k).length=xs.length + vs.length:=by simp; omega
 have hmap:∀ n,(xs.map (Value.int .i64)).take n=(xs.take n).map (Value.int .i64)∧(xs.map (Value.int .i64)).drop n=(xs.drop n).map (Value.int .i64):=fun n=>⟨by rw [List.map_take],by rw [List.map_drop]⟩
 have fin:∀ {S:List Nat} {w':World} {g cap:Nat} {cur:Array Value} (f:Fr S w w') (hS:∀ x,x∈S→v1.ownBlock=some x) (hb:w'.heap[g]? = some (.cells cur 3 (0,0))) (hg:v1.ownBlock=some g∨w.heap.size≤g)
     (hc1:xs.length + vs.length≤cap) (hc2:cap≤maxLen) (hc3:cur.size=cap) (ht:cur.toList.take (xs.length + vs.length)=(xs.take k++vs++xs.drop k).map (Value.int .i64)),
     ∃ v K' L',Ending.returned (.slice (some ⟨g,0,none⟩) (xs.length + vs.length) cap) = .returned v∧(∃ (l:List Int) (ad1:Option Addr) (cp1:Nat),l=xs.take k++vs++xs.drop k∧v = .slice ad1 l.length cp1∧L'=[Row Hp.nil 3 (.int .i64) (.slice ad1 l.length cp1) l])∧K.le K'∧Sep E K' (L'++F) w':=by
   intro S w' g cap cur f hS hb hg hc1 hc2 hc3 ht
   refine ⟨_,K,_,rfl,⟨xs.take k++vs++xs.drop k,_,cap,rfl,by rw [hlr],rfl⟩,Hp.le_refl K,?_⟩
   exact Sep.rowAt (t := .int .i64) hs1 f hS hb hg rfl (nK _ _) (by simp [Tp.size]) (by rw [hlr]; exact hc1) hc2 (by simpa [Tp.size] using hc3) (by rw [hlr]; simpa [Tp.size] using ht)
 have hvo:∀ u∈vs.map (Value.int .i64),u.oneCell'=true:=xD rfl
 have hxo:∀ u∈xs.map (Value.int .i64),u.oneCell'=true:=xD rfl
 rcases hv1 with ⟨rfl,rfl⟩ | ⟨g,c1,cur,rfl,hg,hne,a1,a2,a3,a4⟩
 . -- a nil slice
   obtain rfl:k=0:=by simpa using hk
   refine (Any2.slices_Insert_int_end_grow Tryz.lays221 none 0 0 b 0 vs.length c2 [] (vs.map (Value.int .i64)) w hm (Nat.le_refl _) (by omega) (by simp at q4 ⊢; omega) rfl (by simp) (fun _=>rfl) (fun a h=>by cases h) hvs hvo).mono ?_
   rintro e w' ⟨rfl,rfl⟩
   rw [show Tryz.lays221_ren.t 3=3 from rfl]
   have hcap:=grownCap_le_maxLen w (0 + vs.length) 0 3 (by unfold maxLen; simp at q4 ⊢; omega)
   have hge:=grownCap_ge w (0 + vs.length) 0 3
   simp only [List.length_nil] at fin
   refine fin (S:=[]) ((Fr.refl [] w).drew.alloc _) (fun x hx=>by cases hx) (eD w.drew _) (.inr (Nat.le_refl _)) hge hcap ?_ ?_
   . rw [sC]
     simp
     simp at hge
     omega
   . simp
 . have hcs:∀ (j:Nat) (u:Value),(xs.map (Value.int .i64))[j]? = some u→w.cell? ⟨g,0 + j,none⟩=some u:=fun j u hj=>by rw [Nat.zero_add,qK hg]; exact yz a4 j u hj
   have hlx:(xs.map (Value.int .i64)).length=xs.length:=List.length_map _
   have hlv:(vs.map (Value.int .i64)).length=vs.length:=List.length_map _
   have hres:(xs.take k++vs++xs.drop k).map (Value.int .i64)=(xs.map (Value.int .i64)).take k++vs.map (Value.int .i64)++(xs.map (Value.int .i64)).drop k:=by
     rw [(hmap k).1,(hmap k).2,List.map_append,List.map_append]
   have hc63:c1≤9223372036854775807:=by unfold maxLen at a2; omega
   have hsp:∀ j,j < c1→(w.cell? ⟨g,j,none⟩).isSome=true:=fun j hj=>by
     rw [qK hg,Array.getElem?_eq_getElem (by omega)]; rfl
   have hF:∀ {w1:World},Fr [g] w w1→∀ x,x∈[g]→(Value.slice (some ⟨g,0,none⟩) xs.length c1).ownBlock=some x:=fun _ x hx=>by
     simp at hx
     subst hx
     rfl
   by_cases hroom:xs.length + vs.length≤c1
   . by_cases hkn:k < xs.length
     . -- in place
       refine (Any2.slices_Insert_int_shift Tryz.lays221 g 0 xs.length c1 k b 0 vs.length c2 (xs.map (Value.int .i64)) (vs.map (Value.int .i64)) w hkn hm hroom hc63 hne hlx hlv hcs (fun j hj=>by rw [Nat.zero_add]; exact hsp j (by omega)) (fun j hj=>nc hg _) hvs hxo hvo _ _ _ _ (uU hb) (uU hg) (by omega) (nc hb _) (nc hb _)).mono ?_
       rintro e w' ⟨rfl,rfl⟩
       obtain ⟨cu1,d1,d2⟩:=gU ((xs.map (Value.int .i64)).drop k) (0 + (k + vs.length)) w.drew cur hg (by simp; omega)
       obtain ⟨cu2,d3,d4⟩:=gU (vs.map (Value.int .i64)) (0 + k) _ cu1 d1 (by
         have:=congrArg List.length d2
         simp at this
         simp
         omega)
       have hfr:Fr [g] w ((w.drew.setCells g (0 + (k + vs.length)) ((xs.map (Value.int .i64)).drop k)).setCells g (0 + k) (vs.map (Value.int .i64))) :=
         Fr.setCells g (.inl (by simp)) _ _ _ (Fr.setCells g (.inl (by simp)) _ _ _ (Fr.refl [g] w).drew)
       have hz1:cu1.size=c1:=by
         have:=congrArg List.length d2
         simp at this
         omega
       have hz2:cu2.size=c1:=by
         have:=congrArg List.length d4
         simp at this
         omega
       refine fin hfr (hF hfr) d3 (.inl rfl) hroom a2 hz2 ?_
       rw [hres]
       have:=E5 (cur:=cur.toList) (c1:=cu1.toList) (c2:=cu2.toList) (cs:=xs.map (Value.int .i64)) (vs:=vs.map (Value.int .i64)) (i:=k) hlx hk a4 (by rw [d2,Nat.zero_add,hlv]) (by simp; omega) (by rw [d4,Nat.zero_add])
       rw [hlv] at this
       exact this
     . -- at the end, room
       obtain rfl:k=xs.length:=by omega
       refine (Any2.slices_Insert_int_end_room Tryz.lays221 g 0 xs.length c1 b 0 vs.length c2 (vs.map (Value.int .i64)) w hm hroom hc63 hlv (fun j hj=>by rw [Nat.zero_add]; exact hsp _ (by omega)) (fun j hj=>nc hg _) hvs hvo).mono ?_
       rintro e w' ⟨rfl,rfl⟩
       obtain ⟨cu2,d3,d4⟩:=gU (vs.map (Value.int .i64)) (0 + xs.length) w cur hg (by simp; omega)
       have hfr:Fr [g] w (w.setCells g (0 + xs.length) (vs.map (Value.int .i64))):=Fr.setCells g (.inl (by simp)) _ _ _ (Fr.refl [g] w)
       have hz2:cu2.size=c1:=by
         have:=congrArg List.length d4
         simp at this
         omega
       refine fin hfr (hF hfr) d3 (.inl rfl) hroom a2 hz2 ?_
       have e1:(xs.map (Value.int .i64)).take xs.length=xs.map (Value.int .i64):=List.take_of_length_le (by simp)
       have e2:(xs.map (Value.int .i64)).drop xs.length=[]:=List.drop_eq_nil_of_le (by simp)
       rw [hres,d4,Nat.zero_add,a4,e1,e2,List.append_nil]
       exact List.take_left' (by simp)
   . by_cases hkn:k < xs.length
     . -- a new row, in the midst
       refine (Any2.slices_Insert_int_grow Tryz.lays221 g 0 xs.length c1 k b 0 vs.length c2 (xs.map (Value.int .i64)) (vs.map (Value.int .i64)) w hkn hm a1 (by omega) (by omega) hlx hlv hcs hvs hxo hvo).mono ?_
       rintro e w' ⟨rfl,rfl⟩
       rw [show Tryz.lays221_ren.t 3=3 from rfl]
       have hcap:=grownCap_le_maxLen w (xs.length + vs.length) c1 3 (by unfold maxLen; omega)
       have hge:=grownCap_ge w (xs.length + vs.length) c1 3
       have hrow:∀ G:Nat,xs.length + vs.length≤G→∃ ROW:Array Value,((((xs.map (Value.int .i64)).take k).toArray++Builtin.zeroCells (Value.int .i64 0).cells (xs.length + vs.length - k)++Builtin.zeroCells (Value.int .i64 0).cells (G - (xs.length + vs.length))))=ROW∧ROW.size=G∧ROW.toList.take k=(xs.map (Value.int .i64)).take k:=fun G hG=>by
         refine ⟨_,rfl,?_,?_⟩
         . rw [Array.size_append,sC]
           simp [Builtin.zeroCells,Value.cells]
           omega
         . simp
           rw [List.take_append_of_le_length (by simp; omega)]
           rw [List.take_of_length_le (by simp; omega)]
       obtain ⟨ROW,hR,hR2,hR3⟩:=hrow _ hge
       rw [hR]
       have hR4:ROW.toList.length=ROW.size:=by simp
       obtain ⟨cu1,d1,d2⟩:=gU (vs.map (Value.int .i64)) k (w.alloc (.cells ROW 3)).drew ROW (eD w _) (by rw [hlv,hR2]; omega)
       have hz1:cu1.size=ROW.size:=by
         have:=congrArg List.length d2
         simp at this
         omega
       obtain ⟨cu2,d3,d4⟩:=gU ((xs.map (Value.int .i64)).drop k) (k + vs.length) ((w.alloc (.cells ROW 3)).drew.setCells w.heap.size k (vs.map (Value.int .i64))).drew cu1 d1 (by
         simp
         omega)
       have hz2:cu2.size=ROW.size:=by
         have:=congrArg List.length d4
         simp at this
         omega
       have hfr:Fr [] w ((((w.alloc (.cells ROW 3)).drew.setCells w.heap.size k (vs.map (Value.int .i64))).drew).setCells w.heap.size (k + vs.length) ((xs.map (Value.int .i64)).drop k)) :=
         Fr.setCells _ (.inr (Nat.le_refl _)) _ _ _ (Fr.setCells _ (.inr (Nat.le_refl _)) _ _ _ ((Fr.refl [] w).alloc _).drew).drew
       refine fin hfr (fun x hx=>by cases hx) d3 (.inr (Nat.le_refl _)) hge hcap (hz2.trans hR2) ?_
       rw [hres,d4,d2,hR3]
       have e2:∀ R:List Value,((xs.map (Value.int .i64)).take k++vs.map (Value.int .i64)++R).take (k + vs.length)=(xs.map (Value.int .i64)).take k++vs.map (Value.int .i64):=fun R=>List.take_left' (by simp; omega)
       rw [e2]
       exact List.take_left' (by simp; omega)
     . -- a new row, at the end
       obtain rfl:k=xs.length:=by omega
       refine (Any2.slices_Insert_int_end_grow Tryz.lays221 (some ⟨g,0,none⟩) xs.length c1 b 0 vs.length c2 (xs.map (Value.int .i64)) (vs.map (Value.int .i64)) w hm a1 (by omega) (by omega) hlx hlv (fun h=>by cases h) (fun a h j u hj=>by
         cases h
         rw [Addr.add_lit]
         exact hcs j u hj) hvs hvo).mono ?_
       rintro e w' ⟨rfl,rfl⟩
       rw [show Tryz.lays221_ren.t 3=3 from rfl]
       have hcap:=grownCap_le_maxLen w (xs.length + vs.length) c1 3 (by unfold maxLen; omega)
       have hge:=grownCap_ge w (xs.length + vs.length) c1 3
       refine fin (S:=[]) ((Fr.refl [] w).drew.alloc _) (fun x hx=>by cases hx) (eD w.drew _) (.inr (Nat.le_refl _)) hge hcap ?_ ?_
       . rw [sC,List.length_append,hlx,hlv]
         omega
       . have e1:(xs.map (Value.int .i64)).take xs.length=xs.map (Value.int .i64):=List.take_of_length_le (by simp)
         have e2:(xs.map (Value.int .i64)).drop xs.length=[]:=List.drop_eq_nil_of_le (by simp)
         rw [hres,e1,e2,List.append_nil,Array.toList_append]
         exact List.take_left' (by simp)
def rC:Spec:=⟨91,⟨[(0,.own 3 (.int .i64)),(1,.dat (.int .i64)),(2,.own 3 (.int .i64))],[]⟩,[⟨[(0,.own 3 (.int .i64))],[]⟩],fun x=>da x.1 x.2.1 x.2.2⟩
theorem CG [BldA]:cK Tryz.prog rC:=by
 intro x r hr vv u hu m K args hgk hm hH hsl E w F hs
 have hu':rC.inn.un (TL.list _ x) 0=some ([(0,.own 0),(1,.int .i64 x.2.1),(2,.own 2)],⟨[],4,[.row 2 3 3 (.int .i64) x.2.2 (List.length (α:=Int) x.2.2),.row 0 1 3 (.int .i64) x.1 (List.length (α:=Int) x.1)],[0,2]⟩):=rfl
 rw [hu'] at hu
 cases hu
 replace hm:m.length=4:=hm
 obtain ⟨v1,u1,rfl,⟨e1,_⟩,v2,u2,rfl,rfl,v3,u3,rfl,⟨e3,_⟩,rfl⟩:=hsl
 obtain ⟨ad,cap,cs,g0,g1,hE,_,g2,g3,g4⟩:=hH (.row 0 1 3 (.int .i64) x.1 (List.length (α:=Int) x.1)) (by simp)
 obtain ⟨ad',cap',cs',g0',g1',hE',_,g2',g3',g4'⟩:=hH (.row 2 3 3 (.int .i64) x.2.2 (List.length (α:=Int) x.2.2)) (by simp)
 rw [g0] at e1
 cases e1
 rw [g0'] at e3
 cases e3
 have hs':Sep E K (HA.conc m (.row 2 3 3 (.int .i64) x.2.2 (List.length (α:=Int) x.2.2)) :: HA.conc m (.row 0 1 3 (.int .i64) x.1 (List.length (α:=Int) x.1)) :: F) w:=hs
 simp only [HA.conc,g0,g1,g0',g1'] at hs'
 have hs2:Sep E K (Row Hp.nil 3 (.int .i64) (.slice ad (List.length (α:=Int) x.1) cap) x.1 :: Row Hp.nil 3 (.int .i64) (.slice ad' (List.length (α:=Int) x.2.2) cap') x.2.2 :: F) w :=
   (((hs'.mono (fun h k=>(⟨cs',Els.flat rfl hE',k⟩:Row Hp.nil 3 (.int .i64) (.slice ad' (List.length (α:=Int) x.2.2) cap') x.2.2 h))).swap).mono (fun h k=>⟨cs,Els.flat rfl hE,k⟩))
 refine (AR (K:=K) hr E w F hs2).mono ?_
 rintro e w' ⟨v,K',L',rfl,⟨⟨l,ad1,cp1,rfl,rfl,rfl⟩,rfl⟩,h1,h2⟩
 obtain ⟨_,b2,b3,b4,cs,b5,b6⟩:=sg h2
 have hm0:(m++[M.val (.slice ad1 (List.length (α:=Int) l) cp1),M.cont (.int .i64) l cs])[4]? = some (.val (.slice ad1 (List.length (α:=Int) l) cp1)):=by
   rw [List.getElem?_append_right (by omega),hm]; rfl
 have hm1:(m++[M.val (.slice ad1 (List.length (α:=Int) l) cp1),M.cont (.int .i64) l cs])[5]? = some (.cont (.int .i64) l cs):=by
   rw [List.getElem?_append_right (by omega),hm]; rfl
 refine ⟨_,K,_,rfl,⟨[(0,.own 4)],⟨[],6,[.row 4 5 3 (.int .i64) l (List.length (α:=Int) l)],[4]⟩,m++[M.val (.slice ad1 (List.length (α:=Int) l) cp1),M.cont (.int .i64) l cs],rfl,List.prefix_append _ _,by simp [hm],?_,⟨hm0,rfl⟩,rfl⟩,h1,?_⟩
 . intro a ha
   simp only [List.mem_singleton] at ha
   subst ha
   exact ⟨ad1,cp1,cs,hm0,hm1,b5,rfl,b2,b3,b4⟩
 . show Sep E K (HA.conc _ (.row 4 5 3 (.int .i64) l (List.length (α:=Int) l)) :: F) w'
   simp only [HA.conc,hm0,hm1]
   exact b6
def ix [BldA]:OkSpec Tryz.prog:=⟨rC,CG,Tryz.call91⟩
end
end
end Go.Proofs.YtaajcbeoafhmaaaGreatDoor
namespace Go.Proofs
open Go.Shelf
def Tryz.lays29_ren:Go.Shelf.Ren:=⟨fun | 29=>156 | n=>n,fun | 22=>113 | 3=>3 | 4=>4 | 25=>155 | 54=>219 | 0=>0 | 5=>5 | n=>n,fun | 1=>0 | n=>n⟩
theorem Tryz.lays29:Go.Proofs.Lays7.n29 Tryz.prog Tryz.lays29_ren:={
 mixed:=by kernel_rfl
 f29:=Tryz.func156.trans (congrArg some (by kernel_rfl))
 t0:=Tryz.underlying0
 a0:=Tryz.isAgg0
 z0:=Tryz.sizeOf0
 v0:=Tryz.zeroValue0
 i0:=by kernel_rfl
 t3:=Tryz.underlying3
 a3:=Tryz.isAgg3
 z3:=Tryz.sizeOf3
 v3:=Tryz.zeroValue3
 i3:=by kernel_rfl
 t4:=Tryz.underlying4
 a4:=Tryz.isAgg4
 z4:=Tryz.sizeOf4
 v4:=Tryz.zeroValue4
 i4:=by kernel_rfl
 t5:=Tryz.underlying5
 a5:=Tryz.isAgg5
 z5:=Tryz.sizeOf5
 v5:=Tryz.zeroValue5
 i5:=by kernel_rfl
 t22:=Tryz.underlying113
 a22:=Tryz.isAgg113
 z22:=Tryz.sizeOf113
 v22:=Tryz.zeroValue113
 i22:=by kernel_rfl
 t25:=Tryz.underlying155
 a25:=Tryz.isAgg155
 z25:=Tryz.sizeOf155
 v25:=Tryz.zeroValue155
 i25:=by kernel_rfl
 t54:=Tryz.underlying219
 a54:=Tryz.isAgg219
 z54:=Tryz.sizeOf219
 g1:=by kernel_rfl }
end Go.Proofs
namespace Go.Proofs.YtaajcbeoafhmaaaGreatDoor
noncomputable section
set_option linter.unusedVariables false
set_option linter.unnecessarySimpa false
set_option linter.unusedSectionVars false
set_option linter.unusedSimpArgs false
open Go.RowKit
def tzF (x:Int):Option Int:=if 0≤x∧x < 18446744073709551616 then some ((Lib.ctz 64 x.toNat:Nat):Int) else none
def tzGk (K:Hp):Prop:=∀ j,j < 64→aT K 0 j=some (.int .u8 ((Lib.deBruijn64tab.getD j 0:Nat):Int))
theorem tzGk.mono {K K':Hp} (h:K.cle K') (g:tzGk K):tzGk K':=fun j hj=>h _ _ _ (g j hj)
def tG:Spec:=⟨156,⟨[(0,.dat (.int .u64))],[]⟩,[⟨[(0,.dat (.int .i64))],[]⟩],tzF⟩
theorem G9 [BldA] (hg:∀ K,BldA.gk K→tzGk K):cK Tryz.prog tG:=by
 intro x r hr vs u hu m K args hgk hm hH hsl E w F hs
 have hu':tG.inn.un (TL.list _ x) 0=some ([(0,.int .u64 x)],⟨[],0,[],[]⟩):=rfl
 rw [hu'] at hu
 cases hu
 obtain ⟨v,q,rfl,h1,rfl⟩:=hsl
 obtain rfl:v = .int .u64 x:=h1
 replace hr:tzF x=some r:=hr
 unfold tzF at hr
 split at hr
 . rename_i hx
   cases hr
   have hxe:((x.toNat:Nat):Int)=x:=Int.toNat_of_nonneg hx.1
   have hc:=Any7.bits_TrailingZeros64 Tryz.lays29 x.toNat (by omega) w (fun _ j hj=>di hs.sub (hg K hgk j hj))
   rw [hxe] at hc
   refine Calls.mono (show Calls Tryz.prog 156 #[.int .u64 x] w _ from hc) ?_
   rintro e w' ⟨rfl,rfl⟩
   exact ⟨_,K,[],rfl,⟨[(0,.int .i64 _)],⟨[],0,[],[]⟩,m,rfl,List.prefix_rfl,hm,fun a h=>(by cases h),rfl,rfl⟩,Hp.le_refl K,hs⟩
 . cases hr
section
section
variable {α:Type} [DecidableEq α]
def aH (k:α):List (α×Int)→Nat→Option (Nat×Int)
 | [],_=>none
 | p :: l,i=>if p.1=k then some (i,p.2) else aH k l (i + 1)
def aD (k:α) (l:List (α×Int)):Int:=match aH k l 0 with | some q=>q.2 | none=>0
def bI (k:α) (v:Int) (l:List (α×Int)):List (α×Int):=match aH k l 0 with
 | some q=>l.modify q.1 (fun p=>(p.1,v))
 | none=>l++[(k,v)]
def bF (k:α) (l:List (α×Int)):List (α×Int):=match aH k l 0 with
 | some q=>l.eraseIdx q.1
 | none=>l
theorem vy {k:α}:∀ {l:List (α×Int)} {i j:Nat} {c:Int},aH k l i=some (j,c)→i≤j∧l[j - i]? = some (k,c)
 | [],i,j,c,h=>by cases h
 | p :: l,i,j,c,h=>by
   unfold aH at h
   split at h
   . rename_i hk
     cases h
     exact ⟨Nat.le_refl _,by simp [← hk]⟩
   . obtain ⟨h1,h2⟩:=vy h
     refine ⟨by omega,?_⟩
     rw [show j - i=(j - (i + 1)) + 1 by omega]
     simpa using h2
end
section
variable {α:Type} [DecidableEq α]
theorem np (k:α):∀ (l:List (α×Int)) (i:Nat),aH k l (i + 1)=(aH k l i).map (fun q=>(q.1 + 1,q.2))
 | [],i=>rfl
 | p :: l,i=>by
   unfold aH
   by_cases h:p.1=k
   . simp [h]
   . simp only [h,if_false]
     exact np k l (i + 1)
theorem wI (k:α):aD k []=0:=rfl
theorem dN (k:α) (p:α×Int) (l:List (α×Int)):aD k (p :: l)=if p.1=k then p.2 else aD k l:=by
 unfold aD
 by_cases h:p.1=k
 . simp [aH,h]
 . rw [show aH k (p :: l) 0=aH k l (0 + 1) by simp [aH,h],np,if_neg h]
   cases aH k l 0 <;> rfl
theorem r4 (k:α) (v:Int):bI k v []=[(k,v)]:=rfl
theorem rj (k:α) (v:Int) (p:α×Int) (l:List (α×Int)):bI k v (p :: l)=if p.1=k then (p.1,v) :: l else p :: bI k v l:=by
 unfold bI
 by_cases h:p.1=k
 . simp [aH,h]
 . rw [show aH k (p :: l) 0=aH k l (0 + 1) by simp [aH,h],np,if_neg h]
   cases aH k l 0 <;> simp
theorem DL (k:α):bF k ([]:List (α×Int))=[]:=rfl
theorem vR (k:α) (p:α×Int) (l:List (α×Int)):bF k (p :: l)=if p.1=k then l else p :: bF k l:=by
 unfold bF
 by_cases h:p.1=k
 . simp [aH,h]
 . rw [show aH k (p :: l) 0=aH k l (0 + 1) by simp [aH,h],np,if_neg h]
   cases aH k l 0 <;> simp
theorem xj (k k':α) (v:Int):∀ l:List (α×Int),aD k' (bI k v l)=if k'=k then v else aD k' l
 | []=>by
   rw [r4,dN,wI]
   by_cases h:k'=k
   . simp [h]
   . have h2:¬ k=k':=fun e=>h e.symm
     simp [h,h2]
 | p :: l=>by
   rw [rj]
   by_cases h:p.1=k
   . rw [if_pos h,dN,dN]
     by_cases h2:k'=k
     . simp [h,h2]
     . have h3:¬ p.1=k':=fun e=>h2 (by rw [← e,h])
       simp [h2,h3]
   . rw [if_neg h,dN,dN,xj k k' v l]
     by_cases h2:k'=k
     . have h3:¬ p.1=k':=fun e=>h (by rw [e,h2])
       simp [h2,h]
     . simp [h2]
theorem xy (k x:α) (v:Int):∀ l:List (α×Int),x∈(bI k v l).map (·.1)↔x∈l.map (·.1)∨x=k
 | []=>by simp [r4]
 | p :: l=>by
   rw [rj]
   by_cases h:p.1=k
   . rw [if_pos h]; simp only [List.map_cons,List.mem_cons]
     constructor
     . exact fun h1 => .inl h1
     . rintro (h1 | h1)
       . exact h1
       . exact .inl (h1.trans h.symm)
   . rw [if_neg h]; simp only [List.map_cons,List.mem_cons,xy k x v l,or_assoc]
theorem vV (k:α) (v:Int):∀ l:List (α×Int),(l.map (·.1)).Nodup→((bI k v l).map (·.1)).Nodup
 | [],_=>by simp [r4]
 | p :: l,hn=>by
   rw [rj]
   simp only [List.map_cons,List.nodup_cons] at hn
   by_cases h:p.1=k
   . rw [if_pos h]; simp only [List.map_cons,List.nodup_cons]; exact hn
   . rw [if_neg h]; simp only [List.map_cons,List.nodup_cons]
     refine ⟨fun hm=>?_,vV k v l hn.2⟩
     rcases (xy k p.1 v l).1 hm with h1 | h1
     . exact hn.1 h1
     . exact h h1
theorem wW {k:α}:∀ {l:List (α×Int)},k∉l.map (·.1)→aD k l=0
 | [],_=>rfl
 | p :: l,h=>by
   simp only [List.map_cons,List.mem_cons,not_or] at h
   rw [dN,if_neg (fun e=>h.1 e.symm)]
   exact wW h.2
theorem wZ (k k':α):∀ l:List (α×Int),(l.map (·.1)).Nodup→aD k' (bF k l)=if k'=k then 0 else aD k' l
 | [],_=>by rw [DL,wI]; simp
 | p :: l,hn=>by
   simp only [List.map_cons,List.nodup_cons] at hn
   rw [vR]
   by_cases h:p.1=k
   . rw [if_pos h,dN]
     by_cases h2:k'=k
     . rw [if_pos h2]; exact wW (by rw [h2,← h]; exact hn.1)
     . rw [if_neg h2,if_neg (fun e=>h2 (by rw [← e,h]))]
   . rw [if_neg h,dN,dN,wZ k k' l hn.2]
     by_cases h2:k'=k
     . simp [h2,h]
     . simp [h2]
theorem wk (k:α):∀ l:List (α×Int),(l.map (·.1)).Nodup→((bF k l).map (·.1)).Nodup∧∀ x,x∈(bF k l).map (·.1)→x∈l.map (·.1)
 | [],h=>⟨h,fun _ h=>h⟩
 | p :: l,hn=>by
   simp only [List.map_cons,List.nodup_cons] at hn
   rw [vR]
   by_cases h:p.1=k
   . rw [if_pos h]; exact ⟨hn.2,fun x hx=>List.mem_cons_of_mem _ hx⟩
   . obtain ⟨h1,h2⟩:=wk k l hn.2
     rw [if_neg h]; simp only [List.map_cons,List.nodup_cons,List.mem_cons]
     exact ⟨⟨fun hm=>hn.1 (h2 _ hm),h1⟩,fun x hx=>hx.imp id (h2 x)⟩
end
theorem rE {β:Type} {f:β→β}:∀ {l:List β} {j:Nat} {e:β},l[j]? = some e→l.modify j f=l.set j (f e)
 | [],j,e,h=>by simp at h
 | x :: l,0,e,h=>by simp at h; subst h; rfl
 | x :: l,j + 1,e,h=>by
   have:=rE (f:=f) (l:=l) (j:=j) (by simpa using h)
   simp [this]
theorem vp (es:Array MapEntry) (j:Nat):(es.eraseIdxIfInBounds j).toList=es.toList.eraseIdx j:=by
 unfold Array.eraseIdxIfInBounds
 split
 . simp
 . rename_i hj; rw [List.eraseIdx_of_length_le (by simpa using hj)]
theorem Brn.push {es:Array MapEntry} {cl:Nat} (h:Brn es cl) (k v:Value):Brn (es.push { key:=k,val:=v,born:=cl }) (cl + 1):=by
 obtain ⟨h1,h2⟩:=h
 refine ⟨?_,fun e he=>?_⟩
 . rw [Array.toList_push,List.map_append,List.nodup_append]
   refine ⟨h1,by simp,fun a ha b hb e=>?_⟩
   obtain ⟨x,hx,rfl⟩:=List.mem_map.1 ha
   simp at hb
   have:=h2 x hx
   omega
 . rw [Array.toList_push,List.mem_append] at he
   rcases he with he | he
   . have:=h2 e he; omega
   . simp at he; subst he; exact Nat.lt_succ_self _
theorem vg {β γ:Type} (g:β→γ) (f:β→β) (hf:∀ e,g (f e)=g e):∀ (l:List β) (j:Nat),(l.modify j f).map g=l.map g
 | [],j=>by simp
 | x :: l,0=>by simp [hf]
 | x :: l,j + 1=>by simp [vg g f hf l j]
theorem Brn.modify {es:Array MapEntry} {cl:Nat} (h:Brn es cl) (j:Nat) (f:MapEntry→MapEntry) (hf:∀ e,(f e).born=e.born):Brn (es.modify j f) cl:=by
 have h0:((es.modify j f).toList.map (·.born))=es.toList.map (·.born):=by rw [Array.toList_modify]; exact vg (·.born) f hf _ _
 refine ⟨by rw [h0]; exact h.1,fun e he=>?_⟩
 have:e.born∈(es.modify j f).toList.map (·.born):=List.mem_map.2 ⟨e,he,rfl⟩
 rw [h0] at this
 obtain ⟨x,hx,hxe⟩:=List.mem_map.1 this
 rw [← hxe]; exact h.2 x hx
theorem Brn.erase {es:Array MapEntry} {cl:Nat} (h:Brn es cl) (j:Nat):Brn (es.eraseIdxIfInBounds j) cl:=by
 unfold Brn
 rw [vp]
 have hs:=List.eraseIdx_sublist es.toList j
 exact ⟨h.1.sublist (hs.map _),fun e he=>h.2 e (hs.subset he)⟩
class KeyNow (P:Program) (t:TypeId) (kt:Tp) [DecidableEq kt.den]:Prop where
 d:∃ d,P.underlying t=some d∧(∀ a b:kt.den,Instr.sameNow d (aB kt a) (aB kt b)=some (decide (b=a)))∧(∀ e n (a:kt.den) (w:World),(Instr.checkKey e (n + 1) t (aB kt a)).run P w = .ok () w)∧∀ n (a:kt.den),Instr.sameBits (n + 1) (aB kt a) (aB kt a)=true
class KeyOk (P:Program) (t:TypeId) (kt:Tp) [DecidableEq kt.den]:Prop where
 find:∀ (k:kt.den) (es:List MapEntry) (l:List (kt.den×Int)) (w:World),es.map (fun e=>(e.key,e.val))=l.map (fun p=>(aB kt p.1,Value.int .i64 p.2))→(Instr.findKey t (aB kt k) es).run P w = .ok ((aH k l 0).map fun q=>(q.1,Value.int .i64 q.2)) w
 check:∀ e n (a:kt.den) (w:World),(Instr.checkKey e (n + 2) t (aB kt a)).run P w = .ok () w
 stays:∀ n (a:kt.den),Instr.sameBits (n + 2) (aB kt a) (aB kt a)=true
section
variable {P:Program} {t mt:TypeId} {kt:Tp} [DecidableEq kt.den] {w:World} {r:Nat}
theorem sV {es:Array MapEntry} {cl:Nat} (hr:w.heap[r]? = some (.map es cl)):(getObj r).run P w = .ok (.map es cl) w:=by simp [getObj,Sem.run,hr]
theorem oI {es:Array MapEntry} {cl:Nat} (o:Obj) (hr:w.heap[r]? = some (.map es cl)):(setObj r o).run P w = .ok () { w with heap:=w.heap.setIfInBounds r o }:=by simp [setObj,Sem.run,hr]
theorem vq {d:TypeDesc} (hd:∀ a b:kt.den,Instr.sameNow d (aB kt a) (aB kt b)=some (decide (b=a))) (k:kt.den):∀ (es:List MapEntry) (l:List (kt.den×Int)) (i:Nat),es.map (fun e=>(e.key,e.val))=l.map (fun p=>(aB kt p.1,Value.int .i64 p.2)) →
   Instr.findNow d (aB kt k) es i=some ((aH k l i).map fun q=>(q.1,Value.int .i64 q.2))
 | [],[],i,h=>rfl
 | [],_ :: _,i,h=>by simp at h
 | _ :: _,[],i,h=>by simp at h
 | e :: es,p :: l,i,h=>by
   simp only [List.map_cons,List.cons.injEq,Prod.mk.injEq] at h
   obtain ⟨⟨h1,h2⟩,h3⟩:=h
   unfold Instr.findNow aH
   rw [h1,hd]
   by_cases hk:p.1=k
   . simp [hk,h2]
   . simp only [hk,decide_false,if_false]
     exact vq hd k es l (i + 1) h3
theorem Bt [hk:KeyNow P t kt] (k:kt.den) {es:List MapEntry} {l:List (kt.den×Int)} (h:es.map (fun e=>(e.key,e.val))=l.map (fun p=>(aB kt p.1,Value.int .i64 p.2))) :
   (Instr.findKey t (aB kt k) es).run P w = .ok ((aH k l 0).map fun q=>(q.1,Value.int .i64 q.2)) w:=by
 obtain ⟨d,h1,h2,h3,h4⟩:=hk.d
 unfold Instr.findKey
 simp only [Sem.run_bind,run_underlying h1,Result.andThen,vq h2 k es l 0 h,Sem.run_pure]
instance [hk:KeyNow P t kt]:KeyOk P t kt where
 find:=fun k es l w h=>Bt k h
 check:=by obtain ⟨d,h1,h2,h3,h4⟩:=hk.d; exact fun e n a w=>h3 e (n + 1) a w
 stays:=by obtain ⟨d,h1,h2,h3,h4⟩:=hk.d; exact fun n a=>h4 (n + 1) a
theorem qN [hk:KeyOk P t kt] (k:kt.den) {es:List MapEntry} {l:List (kt.den×Int)} (h:es.map (fun e=>(e.key,e.val))=l.map (fun p=>(aB kt p.1,Value.int .i64 p.2))) :
   (Instr.findKey t (aB kt k) es).run P w = .ok ((aH k l 0).map fun q=>(q.1,Value.int .i64 q.2)) w:=hk.find k es l w h
theorem qy [hk:KeyOk P t kt] {et:TypeId} (hm:P.underlying mt=some (.map t et)) (hz:∀ w,(zeroValue et).run P w = .ok (.int .i64 0) w) (k:kt.den) {es:Array MapEntry} {cl:Nat} {l:List (kt.den×Int)} (hr:w.heap[r]? = some (.map es cl))
   (h:es.toList.map (fun e=>(e.key,e.val))=l.map (fun p=>(aB kt p.1,Value.int .i64 p.2))) :
   (Instr.lookup mt (.map (some r)) (aB kt k) false).run P w = .ok (.int .i64 (aD k l)) w:=by
 have h3:=hk.check
 have h4:=hk.stays
 unfold Instr.lookup
 simp only [Sem.run_bind,run_underlying hm,Result.andThen,Sem.run_pure,sV hr,h3,qN k h]
 unfold aD
 cases hf:aH k l 0 with
 | none=>simp [hz,Result.andThen]
 | some q=>simp
theorem uJ [hk:KeyOk P t kt] {et:TypeId} (hm:P.underlying mt=some (.map t et)) (k:kt.den) (c:Int) {es:Array MapEntry} {cl:Nat} {l:List (kt.den×Int)} (hr:w.heap[r]? = some (.map es cl))
   (h:es.toList.map (fun e=>(e.key,e.val))=l.map (fun p=>(aB kt p.1,Value.int .i64 p.2))) (hB:Brn es cl) :
   ∃ es' cl',(Instr.mapUpdate mt (.map (some r)) (aB kt k) (.int .i64 c)).run P w = .ok () { w with heap:=w.heap.setIfInBounds r (.map es' cl') } ∧
     es'.toList.map (fun e=>(e.key,e.val))=(bI k c l).map (fun p=>(aB kt p.1,Value.int .i64 p.2))∧Brn es' cl':=by
 have h3:=hk.check
 have h4:=hk.stays
 unfold Instr.mapUpdate
 simp only [Sem.run_bind,run_underlying hm,Result.andThen,Sem.run_pure,sV hr,h3,qN k h]
 unfold bI
 cases hf:aH k l 0 with
 | none =>
   refine ⟨_,_,by simp only [Option.map_none]; exact oI _ hr,?_,hB.push _ _⟩
   simp [h]
 | some q =>
   obtain ⟨j,c0⟩:=q
   obtain ⟨_,hq⟩:=vy hf
   rw [Nat.sub_zero] at hq
   have hj:(es.toList.map (fun e=>(e.key,e.val)))[j]? = some (aB kt k,Value.int .i64 c0):=by rw [h,List.getElem?_map,hq]; rfl
   rw [List.getElem?_map] at hj
   obtain ⟨e,he,hej⟩:=Option.map_eq_some_iff.1 hj
   simp only [Prod.mk.injEq] at hej
   have he':es[j]? = some e:=by rw [← Array.getElem?_toList]; exact he
   have hkey:((es[j]?).map (·.key)).getD (aB kt k)=aB kt k:=by rw [he']; exact hej.1
   refine ⟨es.modify j (fun e=>{ e with key:=aB kt k,val := .int .i64 c }),cl,?_,?_,hB.modify _ _ (fun e=>rfl)⟩
   . simp only [Option.map_some,Sem.run_bind,hkey,Instr.keyThatStays,h4,if_true,Sem.run_pure,Result.andThen]
     exact oI _ hr
   . show _=List.map _ (l.modify j _)
     rw [Array.toList_modify,rE he,rE hq,List.map_set,List.map_set,h]
theorem A3 [hk:KeyOk P t kt] {et ty:TypeId} {ts:Array TypeId} (hm:P.underlying mt=some (.map t et)) (ht:ts[0]? = some mt) (k:kt.den) {es:Array MapEntry} {cl:Nat} {l:List (kt.den×Int)} (hr:w.heap[r]? = some (.map es cl))
   (h:es.toList.map (fun e=>(e.key,e.val))=l.map (fun p=>(aB kt p.1,Value.int .i64 p.2))) (hB:Brn es cl) :
   ∃ es',(Builtin.delete_ ts ty #[.map (some r),aB kt k]).run P w = .ok (.tuple #[]) { w with heap:=w.heap.setIfInBounds r (.map es' cl) } ∧
     es'.toList.map (fun e=>(e.key,e.val))=(bF k l).map (fun p=>(aB kt p.1,Value.int .i64 p.2))∧Brn es' cl:=by
 have h3:=hk.check
 have h4:=hk.stays
 unfold Builtin.delete_
 simp only [ht,List.getElem?_toArray,List.getElem?_cons_zero,List.getElem?_cons_succ,Sem.run_bind,run_underlying hm,Result.andThen,Sem.run_pure,sV hr,h3,qN k h]
 unfold bF
 cases hf:aH k l 0 with
 | none=>exact ⟨es,by simp only [Option.map_none,Sem.run_bind,oI _ hr,Result.andThen,Sem.run_pure],h,hB⟩
 | some q =>
   obtain ⟨j,c0⟩:=q
   refine ⟨es.eraseIdxIfInBounds j,by simp only [Option.map_some,Sem.run_bind,oI _ hr,Result.andThen,Sem.run_pure],?_,hB.erase j⟩
   show _=List.map _ (l.eraseIdx j)
   have hsub:=vp es j
   have hmap:∀ {β γ:Type} (g:β→γ) (l:List β) (j:Nat),(l.eraseIdx j).map g=(l.map g).eraseIdx j:=by
     intro β γ g l
     induction l with
     | nil=>intro j; rfl
     | cons x l ih=>intro j; cases j with
       | zero=>rfl
       | succ j=>simp [ih]
   rw [hsub,hmap,hmap,h]
theorem A6 [hk:KeyOk P t kt] {et ty:TypeId} {ts:Array TypeId} (hm:P.underlying mt=some (.map t et)) (ht:ts[0]? = some mt) (k:kt.den) :
   (Builtin.delete_ ts ty #[.map none,aB kt k]).run P w = .ok (.tuple #[]) w:=by
 have h3:=hk.check
 have h4:=hk.stays
 unfold Builtin.delete_
 simp only [ht,List.getElem?_toArray,List.getElem?_cons_zero,List.getElem?_cons_succ,Sem.run_bind,run_underlying hm,Result.andThen,Sem.run_pure,h3]
end
end
set_option maxRecDepth 100000
section
theorem DP {α:Type} [DecidableEq α] [BEq α] [LawfulBEq α] (a b:α):(a == b)=decide (b=a):=by
 by_cases h:b=a
 . subst h; simp
 . have h':¬ a=b:=fun e=>h e.symm
   simp [h,h']
def Onl (w w':World) (r:Nat) (o:Obj):Prop:=w'.heap[r]? = some o∧(∀ n x,n≠r→w.heap[n]? = some x→w'.heap[n]? = some x)∧w'.os=w.os∧w'.tape=w.tape∧w'.output=w.output
def uj (w w':World) (b:Nat) (ob:Obj) (r:Nat) (o:Obj):Prop:=w'.heap[b]? = some ob∧w'.heap[r]? = some o∧w.heap[r]? = none∧(∀ n x,n≠b→w.heap[n]? = some x→w'.heap[n]? = some x)∧w'.os=w.os∧w'.tape=w.tape∧w'.output=w.output
def zy (w w':World) (r:Nat) (kt:Tp) (l:List (kt.den×Int)):Prop:=∃ es cl,Onl w w' r (.map es cl)∧es.toList.map (fun e=>(e.key,e.val))=l.map (fun p=>(aB kt p.1,Value.int .i64 p.2))∧Brn es cl
def KY (w w':World) (b:Nat) (ob:Nat→Obj) (kt:Tp) (l:List (kt.den×Int)):Prop:=∃ r es cl,uj w w' b (ob r) r (.map es cl)∧es.toList.map (fun e=>(e.key,e.val))=l.map (fun p=>(aB kt p.1,Value.int .i64 p.2))∧Brn es cl
theorem dk {w:World} {o x:Obj} {n:Nat} (h:w.heap[n]? = some x):(w.alloc o).heap[n]? = some x:=(Below.heap_alloc _ _ _ (lt_of_block h)).trans h
theorem dM {w:World} {b i n:Nat} {v:Value} (h:n≠b):(w.setCell ⟨b,i,none⟩ v).heap[n]? = w.heap[n]?:=by
 simp only [World.setCell,Array.getElem?_modify]
 rw [if_neg (fun e=>h e.symm)]
section
variable {E:En} {K:Hp} {L:List ab} {w w':World}
theorem Sep.grow (hs:Sep E K L w) (ho:∀ (n:Nat) (x:Obj),w.heap[n]? = some x→w'.heap[n]? = some x) (he:w'.os=w.os∧w'.tape=w.tape∧w'.output=w.output):Sep E K L w' :=
 Sep.move (fun ⟨a,b,c⟩=>⟨he.1.trans a,he.2.1.trans b,he.2.2.trans c⟩) hs (fun n o e=>ho n o (hs.sub n o e)) (fun n o e h=>⟨h,ho n o e⟩)
theorem Sep.obj {r:Nat} {o:Obj} (hs:Sep E K ((fun h=>h=one r o) :: L) w):w.heap[r]? = some o:=by
 obtain ⟨h,rfl,hd,hs⟩:=hs
 exact hs.sub r _ (Hp.join_right (by simp [one]) (hd r o (by simp [one])))
theorem Sep.onl {r:Nat} {o o':Obj} (hs:Sep E K ((fun h=>h=one r o) :: L) w) (h:Onl w w' r o'):Sep E K ((fun h=>h=one r o') :: L) w' :=
 Sep.turn hs (fun ⟨a,b,c⟩=>⟨h.2.2.1.trans a,h.2.2.2.1.trans b,h.2.2.2.2.trans c⟩) (fun h0 ha _=>by
   subst ha
   refine ⟨_,rfl,fun n x e=>?_,fun n x e h1=>?_⟩
   . obtain ⟨rfl,rfl⟩:=bZ e
     exact ⟨h.1,fun e=>by simp [one] at e⟩
   . exact h.2.1 n x (fun e=>by subst e; simp [one] at h1) e)
theorem Sep.onl2 {b r:Nat} {t:TypeId} {cs cs':List Value} {o:Obj} (hs:Sep E K (Cl b t cs :: L) w) (h:uj w w' b (.cells cs'.toArray t (0,0)) r o):Sep E K (Cl b t cs' :: (fun h=>h=one r o) :: L) w':=by
 have hb:=hs.cl
 refine Sep.split (Sep.turn hs (fun ⟨a,b,c⟩=>⟨h.2.2.2.2.1.trans a,h.2.2.2.2.2.1.trans b,h.2.2.2.2.2.2.trans c⟩) (fun h0 ha _=>?_))
 unfold Cl at ha; subst ha
 have hne:∀ x,one r o b=some x→False:=fun x e=>by
   obtain ⟨rfl,_⟩:=bZ e
   rw [h.2.2.1] at hb; cases hb
 refine ⟨(one b (.cells cs'.toArray t (0,0))).join (one r o),⟨_,_,rfl,rfl,fun n x e=>?_,rfl⟩,fun n x e=>?_,fun n x e h1=>?_⟩
 . by_cases hn:n=b
   . subst hn; exact (hne x e).elim
   . simp [one,hn]
 . rcases Hp.join_some e with e | ⟨_,e⟩
   . obtain ⟨rfl,rfl⟩:=bZ e
     exact ⟨h.1,fun e=>by simp [one] at e⟩
   . obtain ⟨rfl,rfl⟩:=bZ e
     exact ⟨h.2.1,fun _=>h.2.2.1⟩
 . exact h.2.2.2.1 n x (fun e=>by subst e; simp [one] at h1) e
end
section
variable {α:Type} [DecidableEq α]
def gt (k:α) (x:Option (List (α×Int))):Bool:=match x with | none=>true | some l=>!decide (aD k l > 0)
def cW (k:α) (x:Option (List (α×Int))):List (α×Int):=match x with | none=>bI k (wrap64 (aD k [] + 1)) [] | some l=>if aD k l > 0 then l else bI k (wrap64 (aD k l + 1)) l
end
end
set_option maxHeartbeats 4000000
section
theorem rZ (w:World):(zeroValue 3).run Tryz.prog w = .ok (.int .i64 0) w:=by
 rfl
theorem rb (p:Addr) (w:World) :
   CallsD Tryz.prog 152 #[.pointer (some p)] .returning w fun e u' w'=>e = .returned (.tuple #[])∧u' = .returning∧w'=w:=by
 refine callsD_of_wpS Tryz.func152 rfl fun c₀ cs hu=>?_
 apply wpS_seq
 apply wpS_region
 simp [wpOpsS,go_sem,recoverD,hu,Tryz.ntmps152,Exit.thenS]
 refine wpS_cond (t:=false) (by simp [Act.eval,Array.replicate]) ?_
 simp only [Bool.false_eq_true,if_false]
 refine wpS_of_wp (wp_skip ?_)
 cases c₀
 simp_all [bodyPostS,results,Tryz.results152]
theorem vx (w:World) :
   CallsD Tryz.prog 154 #[] .returning w fun e u' w'=>e = .returned (.tuple #[])∧u' = .returning∧w'=w:=by
 refine callsD_of_wpS Tryz.func154 rfl fun c₀ cs hu=>?_
 apply wpS_region
 simp [wpOpsS,go_sem,recoverD,hu,Tryz.ntmps154,Exit.thenS]
 cases c₀
 simp_all [bodyPostS,results,Tryz.results154]
theorem sG (r:Option Nat) (w:World):(binOp .eql 147 (.map r) (.map none)).run Tryz.prog w = .ok (.bool r.isNone) w:=by
 have h:(Op.equal 147 (.map r) (.map none)).run Tryz.prog w = .ok r.isNone w:=by
   unfold Op.equal
   rw [show Op.maxDepth=9999 + 1 from rfl,Op.equalIn]
   simp only [Sem.run_bind,run_underlying Tryz.underlying147,Result.andThen]
   cases r <;> rfl
 show (do pure (Value.bool (← Op.equal 147 (.map r) (.map none))):Sem Value).run _ _=_
 simp only [Sem.run_bind,h,Result.andThen,Sem.run_pure]
instance now_int:KeyNow Tryz.prog 3 (.int .i64):=⟨⟨_,Tryz.underlying3,fun a b=>by
 show some ((a:Int) == b)=some (decide ((b:Int)=a)); exact congrArg some (DP a b),fun e n a w=>by
 unfold Instr.checkKey
 simp only [Sem.run_bind,run_underlying Tryz.underlying3,Result.andThen,aB]
 rfl,fun n a=>by simp [Instr.sameBits,aB]⟩⟩
section
variable (b r:Nat) (c0 c1 c2:Value) (k:Int) {es:Array MapEntry} {cl:Nat} {l:List (Int×Int)} (w:World)
theorem Bu (hb:w.heap[b]? = some (.cells #[c0,c1,c2,.map (some r)] 149 (0,0))) (hr:w.heap[r]? = some (.map es cl))
   (hl:es.toList.map (fun e=>(e.key,e.val))=l.map (fun p=>(aB (.int .i64) p.1,Value.int .i64 p.2))) (hp:aD k l > 0) :
   Calls Tryz.prog 115 #[.pointer (some ⟨b,0,none⟩),.int .i64 k] w fun e w'=>e = .returned (.bool false)∧w'=(w.alloc (.cells #[.bool false] 4)).setCell ⟨w.heap.size,0,none⟩ (.bool false):=by
 have hmf:∀ (fn:Fn) (first cap:Array Value) (w:World),(Instr.makeFunc fn first cap).run Tryz.prog w = .ok (.func fn first cap) w:=fun _ _ _ _=>rfl
 have hr1:(w.alloc (.cells #[.bool false] 4)).heap[r]? = some (.map es cl):=dk hr
 have hld:(w.alloc (.cells #[.bool false] 4)).cell? ⟨b,3,none⟩=some (.map (some r)):=by
   have hb1:(w.alloc (.cells #[.bool false] 4)).heap[b]? = some (.cells #[c0,c1,c2,.map (some r)] 149 (0,0)):=dk hb
   simp [World.cell?,hb1]
 have hlk:(Instr.lookup 147 (.map (some r)) (.int .i64 k) false).run Tryz.prog (w.alloc (.cells #[.bool false] 4)) = .ok (.int .i64 (aD k l)) (w.alloc (.cells #[.bool false] 4)):=qy (kt := .int .i64) Tryz.underlying147 rZ k hr1 hl
 have heq:=sG (some r)
 simp only [Option.isNone_some] at heq
 have hgt:decide (aD k l > 0)=true:=by simpa using hp
 go_enter_defers Tryz.func115,Tryz.ntmps115
 go_wp2
 refine leaves_cons (f:=152) (args:=#[.pointer (some ⟨w.heap.size,0,none⟩)]) (by simp) (by simp [go_sem]) ?_
 refine (rb ⟨w.heap.size,0,none⟩ _).mono ?_
 rintro e u' w'' ⟨rfl,rfl,rfl⟩
 simp [Leaves,settle,results,Tryz.results115,go_sem]
theorem Br (hb:w.heap[b]? = some (.cells #[c0,c1,c2,.map (some r)] 149 (0,0))) (hr:w.heap[r]? = some (.map es cl))
   (hl:es.toList.map (fun e=>(e.key,e.val))=l.map (fun p=>(aB (.int .i64) p.1,Value.int .i64 p.2))) (hB:Brn es cl) (hp:¬ aD k l > 0) :
   Calls Tryz.prog 115 #[.pointer (some ⟨b,0,none⟩),.int .i64 k] w fun e w'=>e = .returned (.bool true)∧zy w w' r (.int .i64) (bI k (wrap64 (aD k l + 1)) l):=by
 have hmf:∀ (fn:Fn) (first cap:Array Value) (w:World),(Instr.makeFunc fn first cap).run Tryz.prog w = .ok (.func fn first cap) w:=fun _ _ _ _=>rfl
 have hr1:(w.alloc (.cells #[.bool false] 4)).heap[r]? = some (.map es cl):=dk hr
 have hld:(w.alloc (.cells #[.bool false] 4)).cell? ⟨b,3,none⟩=some (.map (some r)):=by
   have hb1:(w.alloc (.cells #[.bool false] 4)).heap[b]? = some (.cells #[c0,c1,c2,.map (some r)] 149 (0,0)):=dk hb
   simp [World.cell?,hb1]
 have hlk:(Instr.lookup 147 (.map (some r)) (.int .i64 k) false).run Tryz.prog (w.alloc (.cells #[.bool false] 4)) = .ok (.int .i64 (aD k l)) (w.alloc (.cells #[.bool false] 4)):=qy (kt := .int .i64) Tryz.underlying147 rZ k hr1 hl
 have heq:=sG (some r)
 simp only [Option.isNone_some] at heq
 have hgt:decide (aD k l > 0)=false:=by simpa using hp
 obtain ⟨es',cl',hup,hl',hB'⟩:=uJ (kt := .int .i64) (P:=Tryz.prog) (mt:=147) Tryz.underlying147 k (wrap64 (aD k l + 1)) hr1 hl hB
 obtain ⟨w2,hup,hO1,hn⟩:∃ w2:World,(Instr.mapUpdate 147 (.map (some r)) (.int .i64 k) (.int .i64 (wrap64 (aD k l + 1)))).run Tryz.prog (w.alloc (.cells #[.bool false] 4)) = .ok () w2∧Onl w w2 r (.map es' cl')∧w2.heap[w.heap.size]? = some (.cells #[.bool false] 4):=by
   have hrs:=lt_of_block hr
   refine ⟨_,hup,⟨?_,fun n x hne hx=>?_,rfl,rfl,rfl⟩,?_⟩
   . simp only [Array.getElem?_setIfInBounds]
     rw [if_pos trivial,if_pos (lt_of_block hr1)]
   . simp only [Array.getElem?_setIfInBounds]
     rw [if_neg (fun e=>hne e.symm)]
     exact dk hx
   . simp only [Array.getElem?_setIfInBounds]
     rw [if_neg (by omega)]
     exact eD w _
 have hc2:w2.cell? ⟨w.heap.size,0,none⟩=some (.bool false):=by simp [World.cell?,hn]
 have hz2:w2.frozen? ⟨w.heap.size,0,none⟩=false:=by simp [World.frozen?,hn]
 go_enter_defers Tryz.func115,Tryz.ntmps115
 go_wp2
 refine leaves_cons (f:=152) (args:=#[.pointer (some ⟨w.heap.size,0,none⟩)]) (by simp) (by simp [go_sem]) ?_
 refine (rb ⟨w.heap.size,0,none⟩ _).mono ?_
 rintro e u' w'' ⟨rfl,rfl,rfl⟩
 have hc3:(w2.setCell ⟨w.heap.size,0,none⟩ (.bool true)).cell? ⟨w.heap.size,0,none⟩=some (.bool true):=by simp [World.cell?,World.setCell,Array.getElem?_modify,hn]
 have hO:Onl w (w2.setCell ⟨w.heap.size,0,none⟩ (.bool true)) r (.map es' cl'):=by
   have hrs:=lt_of_block hr
   obtain ⟨o1,o2,o3⟩:=hO1
   exact ⟨by rw [dM (by omega)]; exact o1,fun n x hne hx=>by have:=lt_of_block hx; rw [dM (by omega)]; exact o2 n x hne hx,o3⟩
 simp [Leaves,settle,results,Tryz.results115,go_sem,hc3]
 exact ⟨es',cl',hO,hl',hB'⟩
theorem Bm (hb:w.heap[b]? = some (.cells #[c0,c1,c2,.map none] 149 (0,0))) :
   Calls Tryz.prog 115 #[.pointer (some ⟨b,0,none⟩),.int .i64 k] w fun e w'=>e = .returned (.bool true)∧KY w w' b (fun r => .cells #[c0,c1,c2,.map (some r)] 149 (0,0)) (.int .i64) (bI k (wrap64 (aD k [] + 1)) []):=by
 have hmf:∀ (fn:Fn) (first cap:Array Value) (w:World),(Instr.makeFunc fn first cap).run Tryz.prog w = .ok (.func fn first cap) w:=fun _ _ _ _=>rfl
 have hbs:=lt_of_block hb
 have hb1:(w.alloc (.cells #[.bool false] 4)).heap[b]? = some (.cells #[c0,c1,c2,.map none] 149 (0,0)):=dk hb
 have hld:(w.alloc (.cells #[.bool false] 4)).cell? ⟨b,3,none⟩=some (.map none):=by simp [World.cell?,hb1]
 have heq:=sG none
 simp only [Option.isNone_none] at heq
 have hsz:(w.alloc (.cells #[.bool false] 4)).heap.size=w.heap.size + 1:=by simp
 have hmk:(Instr.makeMap 147 none).run Tryz.prog (w.alloc (.cells #[.bool false] 4)) = .ok (.map (some (w.heap.size + 1))) ((w.alloc (.cells #[.bool false] 4)).alloc (.map #[] 0)):=by
   simp only [Instr.makeMap,Sem.run_bind,Sem.run_pure,run_newObj_alloc,Result.andThen,hsz]
 obtain ⟨w2,hw2,ho2,he2⟩:∃ w2,(Instr.makeMap 147 none).run Tryz.prog (w.alloc (.cells #[.bool false] 4)) = .ok (.map (some (w.heap.size + 1))) w2∧(w2.heap[w.heap.size + 1]? = some (.map #[] 0)∧w2.heap[w.heap.size]? = some (.cells #[.bool false] 4)∧∀ n x,w.heap[n]? = some x→w2.heap[n]? = some x)∧w2.os=w.os∧w2.tape=w.tape∧w2.output=w.output:=by
   refine ⟨_,hmk,⟨?_,dk (eD w _),fun n x hx=>dk (dk hx)⟩,rfl,rfl,rfl⟩
   rw [← hsz]; exact eD _ _
 clear hmk
 obtain ⟨ho2r,ho2n,ho2o⟩:=ho2
 have hcb2:w2.cell? ⟨b,3,none⟩=some (.map none):=by simp [World.cell?,ho2o _ _ hb]
 have hzb2:w2.frozen? ⟨b,3,none⟩=false:=by simp [World.frozen?,ho2o _ _ hb]
 obtain ⟨w3,hw3⟩:∃ w3,w2.setCell ⟨b,3,none⟩ (.map (some (w.heap.size + 1)))=w3:=⟨_,rfl⟩
 have h3r:w3.heap[w.heap.size + 1]? = some (.map #[] 0):=by rw [← hw3,dM (by omega)]; exact ho2r
 have h3n:w3.heap[w.heap.size]? = some (.cells #[.bool false] 4):=by rw [← hw3,dM (by omega)]; exact ho2n
 have h3b:w3.heap[b]? = some (.cells #[c0,c1,c2,.map (some (w.heap.size + 1))] 149 (0,0)):=by
   rw [← hw3]; simp [World.setCell,Array.getElem?_modify,ho2o _ _ hb]
 have hc3:w3.cell? ⟨b,3,none⟩=some (.map (some (w.heap.size + 1))):=by simp [World.cell?,h3b]
 have hlk:(Instr.lookup 147 (.map (some (w.heap.size + 1))) (.int .i64 k) false).run Tryz.prog w3 = .ok (.int .i64 0) w3:=qy (kt := .int .i64) Tryz.underlying147 rZ k h3r (l:=[]) rfl
 obtain ⟨es',cl',hup,hl',hB'⟩:=uJ (kt := .int .i64) (P:=Tryz.prog) (mt:=147) Tryz.underlying147 k 1 h3r (l:=[]) rfl ⟨List.nodup_nil,fun e he=>by cases he⟩
 obtain ⟨w4,hup,h4r,h4o,h4e⟩:∃ w4:World,(Instr.mapUpdate 147 (.map (some (w.heap.size + 1))) (.int .i64 k) (.int .i64 1)).run Tryz.prog w3 = .ok () w4∧w4.heap[w.heap.size + 1]? = some (.map es' cl')∧(∀ n,n≠w.heap.size + 1→w4.heap[n]? = w3.heap[n]?)∧w4.os=w3.os∧w4.tape=w3.tape∧w4.output=w3.output:=by
   refine ⟨_,hup,?_,fun n hne=>?_,rfl,rfl,rfl⟩
   . simp only [Array.getElem?_setIfInBounds]
     rw [if_pos trivial,if_pos (lt_of_block h3r)]
   . simp only [Array.getElem?_setIfInBounds]
     rw [if_neg (fun e=>hne e.symm)]
 have h4n:w4.heap[w.heap.size]? = some (.cells #[.bool false] 4):=(h4o _ (by omega)).trans h3n
 have hc4:w4.cell? ⟨w.heap.size,0,none⟩=some (.bool false):=by simp [World.cell?,h4n]
 have hz4:w4.frozen? ⟨w.heap.size,0,none⟩=false:=by simp [World.frozen?,h4n]
 go_enter_defers Tryz.func115,Tryz.ntmps115
 go_wp2
 refine leaves_cons (f:=152) (args:=#[.pointer (some ⟨w.heap.size,0,none⟩)]) (by simp) (by simp [go_sem]) ?_
 refine (rb ⟨w.heap.size,0,none⟩ _).mono ?_
 rintro e u' w'' ⟨rfl,rfl,rfl⟩
 have hc5:(w4.setCell ⟨w.heap.size,0,none⟩ (.bool true)).cell? ⟨w.heap.size,0,none⟩=some (.bool true):=by simp [World.cell?,World.setCell,Array.getElem?_modify,h4n]
 have hO:uj w (w4.setCell ⟨w.heap.size,0,none⟩ (.bool true)) b (.cells #[c0,c1,c2,.map (some (w.heap.size + 1))] 149 (0,0)) (w.heap.size + 1) (.map es' cl'):=by
   obtain ⟨e1,e2,e3⟩:=h4e
   obtain ⟨f1,f2,f3⟩:=he2
   refine ⟨by rw [dM (by omega),h4o _ (by omega)]; exact h3b,by rw [dM (by omega)]; exact h4r,Array.getElem?_eq_none (by omega),fun n x hne hx=>?_,?_,?_,?_⟩
   . have:=lt_of_block hx
     rw [dM (by omega),h4o _ (by omega),← hw3,dM hne]; exact ho2o _ _ hx
   . exact e1.trans ((congrArg World.os hw3.symm).trans f1)
   . exact e2.trans ((congrArg World.tape hw3.symm).trans f2)
   . exact e3.trans ((congrArg World.output hw3.symm).trans f3)
 have h1:wrap64 (aD k [] + 1)=1:=IntWalk.wrap64_in (0 + 1) (by decide)
 rw [h1]
 simp only [Leaves,settle,results,Tryz.results115]
 simp [go_sem,hc5]
 exact ⟨_,es',cl',hO,hl',hB'⟩
theorem A5 (hb:w.heap[b]? = some (.cells #[c0,c1,c2,.map (some r)] 149 (0,0))) (hr:w.heap[r]? = some (.map es cl))
   (hl:es.toList.map (fun e=>(e.key,e.val))=l.map (fun p=>(aB (.int .i64) p.1,Value.int .i64 p.2))) (hB:Brn es cl) :
   Calls Tryz.prog 119 #[.pointer (some ⟨b,0,none⟩),.int .i64 k] w fun e w'=>e = .returned (.tuple #[])∧zy w w' r (.int .i64) (bF k l):=by
 have hld:w.cell? ⟨b,3,none⟩=some (.map (some r)):=by simp [World.cell?,hb]
 obtain ⟨es',hd,hl',hB'⟩:=A3 (kt := .int .i64) (P:=Tryz.prog) (mt:=147) (ts:=#[147,3]) (ty:=0) Tryz.underlying147 rfl k hr hl hB
 obtain ⟨w2,hd,hO⟩:∃ w2:World,(Builtin.delete_ #[147,3] 0 #[.map (some r),.int .i64 k]).run Tryz.prog w = .ok (.tuple #[]) w2∧Onl w w2 r (.map es' cl):=by
   refine ⟨_,hd,⟨?_,fun n x hne hx=>?_,rfl,rfl,rfl⟩⟩
   . simp only [Array.getElem?_setIfInBounds]
     rw [if_pos trivial,if_pos (lt_of_block hr)]
   . simp only [Array.getElem?_setIfInBounds]
     rw [if_neg (fun e=>hne e.symm)]
     exact hx
 go_enter_defers Tryz.func119,Tryz.ntmps119
 go_wp2
 refine leaves_cons (f:=154) (args:=#[]) (by simp) (by simp [go_sem]) ?_
 refine (vx _).mono ?_
 rintro e u' w'' ⟨rfl,rfl,rfl⟩
 simp only [Leaves,settle,results,Tryz.results119]
 simp [go_sem]
 exact ⟨es',cl,hO,hl',hB'⟩
theorem A0 (hb:w.heap[b]? = some (.cells #[c0,c1,c2,.map none] 149 (0,0))) :
   Calls Tryz.prog 119 #[.pointer (some ⟨b,0,none⟩),.int .i64 k] w fun e w'=>e = .returned (.tuple #[])∧w'=w:=by
 have hld:w.cell? ⟨b,3,none⟩=some (.map none):=by simp [World.cell?,hb]
 have hd:(Builtin.delete_ #[147,3] 0 #[.map none,.int .i64 k]).run Tryz.prog w = .ok (.tuple #[]) w:=A6 (kt := .int .i64) (P:=Tryz.prog) (mt:=147) (ts:=#[147,3]) (ty:=0) Tryz.underlying147 rfl k
 go_enter_defers Tryz.func119,Tryz.ntmps119
 go_wp2
 refine leaves_cons (f:=154) (args:=#[]) (by simp) (by simp [go_sem]) ?_
 refine (vx _).mono ?_
 rintro e u' w'' ⟨rfl,rfl,rfl⟩
 simp only [Leaves,settle,results,Tryz.results119]
 simp [go_sem]
end
abbrev bj:OT := .obj 0 (.sl (.cons (.int .i64) (.one (.int .i64))))
theorem BB {K K0:Hp} {b:Nat} {c0 c1 c2 mv:Value} (k:Int) (x:Option (List (Int×Int))) :
   Tr Tryz.prog 115 #[.pointer (some ⟨b,0,none⟩),.int .i64 k] K [Cl b 149 [c0,c1,c2,mv],OT.own K0 bj [mv] x] (fun v K' L'=>(∃ mv',mv'.oneCell'=true∧bj.form mv' (some (cW k x):Option (List (Int×Int)))∧v = .bool (gt k x)∧L'=[Cl b 149 [c0,c1,c2,mv'],OT.own K0 bj [mv'] (some (cW k x):Option (List (Int×Int)))])∧K=K'):=by
 intro E w F hs
 have hb:=hs.cl
 cases x with
 | none =>
   have hm:=hs.swap.fact (p:=[mv]=[Value.map none]) (fun h k=>k.1)
   cases hm
   refine (Bm b c0 c1 c2 k w hb).mono ?_
   rintro e w' ⟨rfl,r,es',cl',hO,hl,hB'⟩
   refine ⟨_,K,_,rfl,⟨⟨.map (some r),rfl,.inr ⟨_,r,rfl,rfl⟩,rfl,rfl⟩,rfl⟩,Hp.le_refl K,?_⟩
   exact ((Sep.onl2 hs.swap.drop hO).swap.mono (fun h k=>⟨r,_,rfl,⟨es',cl',rfl,hl,hB'⟩,k⟩)).swap
 | some l =>
   obtain ⟨r,o,e1,⟨es,cl,rfl,hl,hB⟩⟩:=hs.swap.fact (p:=∃ r o,[mv]=[Value.map (some r)]∧ub 0 (.sl (.cons (.int .i64) (.one (.int .i64)))) l o) (fun h k=>by obtain ⟨r,o,a,b,_⟩:=k; exact ⟨r,o,a,b⟩)
   cases e1
   have hs1:Sep E K ((fun h=>∃ es cl,h=one r (.map es cl)∧es.toList.map (fun e=>(e.key,e.val))=l.map (fun p=>(aB (.int .i64) p.1,Value.int .i64 p.2))∧Brn es cl) :: Cl b 149 [c0,c1,c2,.map (some r)] :: F) w :=
     hs.swap.mono (fun h k=>by obtain ⟨r',o,a,⟨es,cl,rfl,hl⟩,c⟩:=k; cases a; exact ⟨es,cl,c,hl⟩)
   obtain ⟨h0,⟨es,cl,rfl,hl,hB⟩,hd,hs1⟩:=hs1
   have hs2:Sep E K ((fun h=>h=one r (.map es cl)) :: Cl b 149 [c0,c1,c2,.map (some r)] :: F) w:=⟨_,rfl,hd,hs1⟩
   have hr:=hs2.obj
   by_cases hp:aD k l > 0
   . refine (Bu b r c0 c1 c2 k w hb hr hl hp).mono ?_
     rintro e w' ⟨rfl,rfl⟩
     refine ⟨_,K,_,rfl,⟨⟨.map (some r),rfl,.inr ⟨_,r,rfl,rfl⟩,by simp [gt,hp],rfl⟩,rfl⟩,Hp.le_refl K,?_⟩
     rw [show cW k (some l)=l by simp [cW,hp]]
     refine Sep.grow (((hs2.mono (fun h k=>⟨r,_,rfl,⟨es,cl,rfl,hl,hB⟩,k⟩)).swap:Sep E K (Cl b 149 [c0,c1,c2,.map (some r)] :: OT.own K0 bj [.map (some r)] (some l:Option (List (Int×Int))) :: F) w)) (fun n x hx=>?_) ⟨rfl,rfl,rfl⟩
     have:=lt_of_block hx
     rw [dM (by omega)]; exact dk hx
   . refine (Br b r c0 c1 c2 k w hb hr hl hB hp).mono ?_
     rintro e w' ⟨rfl,es',cl',hO,hl',hB'⟩
     refine ⟨_,K,_,rfl,⟨⟨.map (some r),rfl,.inr ⟨_,r,rfl,rfl⟩,by simp [gt,hp],rfl⟩,rfl⟩,Hp.le_refl K,?_⟩
     rw [show cW k (some l)=bI k (wrap64 (aD k l + 1)) l by simp [cW,hp]]
     exact ((hs2.onl hO).mono (fun h k=>⟨r,_,rfl,⟨es',cl',rfl,hl',hB'⟩,k⟩)).swap
theorem Bj {K K0:Hp} {b:Nat} {c0 c1 c2 mv:Value} (k:Int) (x:Option (List (Int×Int))) :
   Tr Tryz.prog 119 #[.pointer (some ⟨b,0,none⟩),.int .i64 k] K [Cl b 149 [c0,c1,c2,mv],OT.own K0 bj [mv] x] (fun v K' L'=>(∃ mv',mv'.oneCell'=true∧bj.form mv' (x.map (bF k):Option (List (Int×Int)))∧v = .tuple #[]∧L'=[Cl b 149 [c0,c1,c2,mv'],OT.own K0 bj [mv'] (x.map (bF k):Option (List (Int×Int)))])∧K=K'):=by
 intro E w F hs
 have hb:=hs.cl
 cases x with
 | none =>
   have hm:=hs.swap.fact (p:=[mv]=[Value.map none]) (fun h k=>k.1)
   cases hm
   refine (A0 b c0 c1 c2 k w hb).mono ?_
   rintro e w' ⟨rfl,rfl⟩
   exact ⟨_,K,_,rfl,⟨⟨.map none,rfl,.inl ⟨rfl,rfl⟩,rfl,rfl⟩,rfl⟩,Hp.le_refl K,hs⟩
 | some l =>
   obtain ⟨r,o,e1,⟨es,cl,rfl,hl,hB⟩⟩:=hs.swap.fact (p:=∃ r o,[mv]=[Value.map (some r)]∧ub 0 (.sl (.cons (.int .i64) (.one (.int .i64)))) l o) (fun h k=>by obtain ⟨r,o,a,b,_⟩:=k; exact ⟨r,o,a,b⟩)
   cases e1
   have hs1:Sep E K ((fun h=>∃ es cl,h=one r (.map es cl)∧es.toList.map (fun e=>(e.key,e.val))=l.map (fun p=>(aB (.int .i64) p.1,Value.int .i64 p.2))∧Brn es cl) :: Cl b 149 [c0,c1,c2,.map (some r)] :: F) w :=
     hs.swap.mono (fun h k=>by obtain ⟨r',o,a,⟨es,cl,rfl,hl⟩,c⟩:=k; cases a; exact ⟨es,cl,c,hl⟩)
   obtain ⟨h0,⟨es,cl,rfl,hl,hB⟩,hd,hs1⟩:=hs1
   have hs2:Sep E K ((fun h=>h=one r (.map es cl)) :: Cl b 149 [c0,c1,c2,.map (some r)] :: F) w:=⟨_,rfl,hd,hs1⟩
   have hr:=hs2.obj
   refine (A5 b r c0 c1 c2 k w hb hr hl hB).mono ?_
   rintro e w' ⟨rfl,es',cl',hO,hl',hB'⟩
   refine ⟨_,K,_,rfl,⟨⟨.map (some r),rfl,.inr ⟨_,r,rfl,rfl⟩,rfl,rfl⟩,rfl⟩,Hp.le_refl K,?_⟩
   exact ((hs2.onl hO).mono (fun h k=>⟨r,_,rfl,⟨es',cl',rfl,hl',hB'⟩,k⟩)).swap
def rm (k:Int) (ring:List (Int)) (first many:Int) (x:Option (List (Int×Int))):Option (Bool×List (Int)×Int×Int×Option (List (Int×Int))):=some (gt k x,ring,first,many,some (cW k x))
def ve (k:Int) (ring:List (Int)) (first many:Int) (x:Option (List (Int×Int))):Option (List (Int)×Int×Int×Option (List (Int×Int))):=some (ring,first,many,x.map (bF k))
def qM:Spec:=⟨115,⟨[(0,.ptr 0 0),(1,.dat (.int .i64))],[⟨none,149,[.own 3 (.int .i64),.dat (.int .i64),.dat (.int .i64),.od bj],false,false,none,false⟩]⟩,[⟨[(0,.dat .bool)],[⟨some 0,149,[.own 3 (.int .i64),.dat (.int .i64),.dat (.int .i64),.od bj],false,false,none,false⟩]⟩],
 fun x=>rm x.1 x.2.1 x.2.2.1 x.2.2.2.1 x.2.2.2.2⟩
theorem Bx [BldA]:cK Tryz.prog qM:=by
 intro x r hr vv u hu m K args hgk hm hH hsl E w F hs
 have hu':qM.inn.un (TL.list _ x) 0=some ([(0,.ptr 0 0),(1,.int .i64 x.1)],⟨[],6,[.blk 0 5 149 [.own 1,.int .i64 x.2.2.1,.int .i64 x.2.2.2.1,.own 3],.od 3 4 bj x.2.2.2.2,.row 1 2 3 (.int .i64) x.2.1 (List.length (α:=Int) x.2.1)],[1]⟩):=rfl
 rw [hu'] at hu
 cases hu
 replace hm:m.length=6:=hm
 obtain ⟨v1,u1,rfl,⟨b,e1,rfl⟩,v2,u2,rfl,rfl,rfl⟩:=hsl
 obtain ⟨b',vs,g0,g5,v0,r0,rfl,⟨h1,h1o⟩,v1,r1,rfl,rfl,v2,r2,rfl,rfl,v3,r3,rfl,⟨h3,h3o⟩,rfl⟩:=hH (.blk 0 5 149 [.own 1,.int .i64 x.2.2.1,.int .i64 x.2.2.2.1,.own 3]) (by simp)
 rw [g0] at e1; cases e1
 obtain ⟨mv,K0,g3,g4,hk,hf⟩:=hH (.od 3 4 bj x.2.2.2.2) (by simp)
 rw [g3] at h3; cases h3
 obtain ⟨ad,cap,cs,g1,g2,hE,_,q2,q3,q4⟩:=hH (.row 1 2 3 (.int .i64) x.2.1 (List.length (α:=Int) x.2.1)) (by simp)
 rw [g1] at h1; cases h1
 have hs':Sep E K (HA.conc m (.blk 0 5 149 [.own 1,.int .i64 x.2.2.1,.int .i64 x.2.2.2.1,.own 3]) :: HA.conc m (.od 3 4 bj x.2.2.2.2) :: HA.conc m (.row 1 2 3 (.int .i64) x.2.1 (List.length (α:=Int) x.2.1)) :: F) w:=hs
 simp only [HA.conc,g0,g1,g2,g3,g4,g5] at hs'
 refine (BB x.1 x.2.2.2.2 E w (Rw 3 (Tp.size (.int .i64)) (.slice ad (List.length (α:=Int) x.2.1) cap) (List.length (α:=Int) x.2.1) cs :: F) hs').mono ?_
 rintro e w' ⟨v,K',L',rfl,⟨⟨mv',hone,hform,rfl,rfl⟩,rfl⟩,hle,hs2⟩
 obtain rfl:r=(gt x.1 x.2.2.2.2,x.2.1,x.2.2.1,x.2.2.2.1,(some (cW x.1 x.2.2.2.2):Option (List (Int×Int)))):=(Option.some.inj hr).symm
 let ms:List M:=[M.val (.slice ad (List.length (α:=Int) x.2.1) cap),M.cont (.int .i64) x.2.1 cs,M.val mv',M.hp K0,M.cells [.slice ad (List.length (α:=Int) x.2.1) cap,.int .i64 x.2.2.1,.int .i64 x.2.2.2.1,mv']]
 have f0:(m++ms)[0]? = some (.val (.pointer (some ⟨b,0,none⟩))):=by rw [List.getElem?_append_left (by omega)]; exact g0
 have f6:(m++ms)[6]? = some (.val (.slice ad (List.length (α:=Int) x.2.1) cap)):=by rw [List.getElem?_append_right (by omega),hm]; rfl
 have f7:(m++ms)[7]? = some (.cont (.int .i64) x.2.1 cs):=by rw [List.getElem?_append_right (by omega),hm]; rfl
 have f8:(m++ms)[8]? = some (.val mv'):=by rw [List.getElem?_append_right (by omega),hm]; rfl
 have f9:(m++ms)[9]? = some (.hp K0):=by rw [List.getElem?_append_right (by omega),hm]; rfl
 have f10:(m++ms)[10]? = some (.cells [.slice ad (List.length (α:=Int) x.2.1) cap,.int .i64 x.2.2.1,.int .i64 x.2.2.2.1,mv']):=by rw [List.getElem?_append_right (by omega),hm]; rfl
 refine ⟨_,K,_,rfl,⟨[(0,.bool (gt x.1 x.2.2.2.2))],⟨[],11,[.blk 0 10 149 [.own 6,.int .i64 x.2.2.1,.int .i64 x.2.2.2.1,.own 8],.od 8 9 bj (some (cW x.1 x.2.2.2.2):Option (List (Int×Int))),.row 6 7 3 (.int .i64) x.2.1 (List.length (α:=Int) x.2.1)],[6]⟩,m++ms,rfl,List.prefix_append _ _,by simp [hm,ms],?_,rfl,rfl⟩,hle,?_⟩
 . intro a ha
   simp only [List.mem_cons,List.mem_nil_iff,or_false] at ha
   rcases ha with rfl | rfl | rfl
   . exact ⟨b,_,f0,f10,_,_,rfl,⟨f6,rfl⟩,_,_,rfl,rfl,_,_,rfl,rfl,_,_,rfl,⟨f8,hone⟩,rfl⟩
   . exact ⟨mv',K0,f8,f9,hk,hform⟩
   . exact ⟨ad,cap,cs,f6,f7,hE,rfl,q2,q3,q4⟩
 . show Sep E K (HA.conc _ (.blk 0 10 149 [.own 6,.int .i64 x.2.2.1,.int .i64 x.2.2.2.1,.own 8]) :: HA.conc _ (.od 8 9 bj (some (cW x.1 x.2.2.2.2):Option (List (Int×Int)))) :: HA.conc _ (.row 6 7 3 (.int .i64) x.2.1 (List.length (α:=Int) x.2.1)) :: F) w'
   simp only [HA.conc,f0,f6,f7,f8,f9,f10]
   exact hs2
def BJ [BldA]:OkSpec Tryz.prog:=⟨qM,Bx,Tryz.call115⟩
def qA:Spec:=⟨119,⟨[(0,.ptr 0 0),(1,.dat (.int .i64))],[⟨none,149,[.own 3 (.int .i64),.dat (.int .i64),.dat (.int .i64),.od bj],false,false,none,false⟩]⟩,[⟨[],[⟨some 0,149,[.own 3 (.int .i64),.dat (.int .i64),.dat (.int .i64),.od bj],false,false,none,false⟩]⟩],
 fun x=>ve x.1 x.2.1 x.2.2.1 x.2.2.2.1 x.2.2.2.2⟩
theorem Bb [BldA]:cK Tryz.prog qA:=by
 intro x r hr vv u hu m K args hgk hm hH hsl E w F hs
 have hu':qA.inn.un (TL.list _ x) 0=some ([(0,.ptr 0 0),(1,.int .i64 x.1)],⟨[],6,[.blk 0 5 149 [.own 1,.int .i64 x.2.2.1,.int .i64 x.2.2.2.1,.own 3],.od 3 4 bj x.2.2.2.2,.row 1 2 3 (.int .i64) x.2.1 (List.length (α:=Int) x.2.1)],[1]⟩):=rfl
 rw [hu'] at hu
 cases hu
 replace hm:m.length=6:=hm
 obtain ⟨v1,u1,rfl,⟨b,e1,rfl⟩,v2,u2,rfl,rfl,rfl⟩:=hsl
 obtain ⟨b',vs,g0,g5,v0,r0,rfl,⟨h1,h1o⟩,v1,r1,rfl,rfl,v2,r2,rfl,rfl,v3,r3,rfl,⟨h3,h3o⟩,rfl⟩:=hH (.blk 0 5 149 [.own 1,.int .i64 x.2.2.1,.int .i64 x.2.2.2.1,.own 3]) (by simp)
 rw [g0] at e1; cases e1
 obtain ⟨mv,K0,g3,g4,hk,hf⟩:=hH (.od 3 4 bj x.2.2.2.2) (by simp)
 rw [g3] at h3; cases h3
 obtain ⟨ad,cap,cs,g1,g2,hE,_,q2,q3,q4⟩:=hH (.row 1 2 3 (.int .i64) x.2.1 (List.length (α:=Int) x.2.1)) (by simp)
 rw [g1] at h1; cases h1
 have hs':Sep E K (HA.conc m (.blk 0 5 149 [.own 1,.int .i64 x.2.2.1,.int .i64 x.2.2.2.1,.own 3]) :: HA.conc m (.od 3 4 bj x.2.2.2.2) :: HA.conc m (.row 1 2 3 (.int .i64) x.2.1 (List.length (α:=Int) x.2.1)) :: F) w:=hs
 simp only [HA.conc,g0,g1,g2,g3,g4,g5] at hs'
 refine (Bj x.1 x.2.2.2.2 E w (Rw 3 (Tp.size (.int .i64)) (.slice ad (List.length (α:=Int) x.2.1) cap) (List.length (α:=Int) x.2.1) cs :: F) hs').mono ?_
 rintro e w' ⟨v,K',L',rfl,⟨⟨mv',hone,hform,rfl,rfl⟩,rfl⟩,hle,hs2⟩
 obtain rfl:r=(x.2.1,x.2.2.1,x.2.2.2.1,(Option.map (bF x.1) x.2.2.2.2:Option (List (Int×Int)))):=(Option.some.inj hr).symm
 let ms:List M:=[M.val (.slice ad (List.length (α:=Int) x.2.1) cap),M.cont (.int .i64) x.2.1 cs,M.val mv',M.hp K0,M.cells [.slice ad (List.length (α:=Int) x.2.1) cap,.int .i64 x.2.2.1,.int .i64 x.2.2.2.1,mv']]
 have f0:(m++ms)[0]? = some (.val (.pointer (some ⟨b,0,none⟩))):=by rw [List.getElem?_append_left (by omega)]; exact g0
 have f6:(m++ms)[6]? = some (.val (.slice ad (List.length (α:=Int) x.2.1) cap)):=by rw [List.getElem?_append_right (by omega),hm]; rfl
 have f7:(m++ms)[7]? = some (.cont (.int .i64) x.2.1 cs):=by rw [List.getElem?_append_right (by omega),hm]; rfl
 have f8:(m++ms)[8]? = some (.val mv'):=by rw [List.getElem?_append_right (by omega),hm]; rfl
 have f9:(m++ms)[9]? = some (.hp K0):=by rw [List.getElem?_append_right (by omega),hm]; rfl
 have f10:(m++ms)[10]? = some (.cells [.slice ad (List.length (α:=Int) x.2.1) cap,.int .i64 x.2.2.1,.int .i64 x.2.2.2.1,mv']):=by rw [List.getElem?_append_right (by omega),hm]; rfl
 refine ⟨_,K,_,rfl,⟨[],⟨[],11,[.blk 0 10 149 [.own 6,.int .i64 x.2.2.1,.int .i64 x.2.2.2.1,.own 8],.od 8 9 bj (Option.map (bF x.1) x.2.2.2.2:Option (List (Int×Int))),.row 6 7 3 (.int .i64) x.2.1 (List.length (α:=Int) x.2.1)],[6]⟩,m++ms,rfl,List.prefix_append _ _,by simp [hm,ms],?_,rfl,rfl⟩,hle,?_⟩
 . intro a ha
   simp only [List.mem_cons,List.mem_nil_iff,or_false] at ha
   rcases ha with rfl | rfl | rfl
   . exact ⟨b,_,f0,f10,_,_,rfl,⟨f6,rfl⟩,_,_,rfl,rfl,_,_,rfl,rfl,_,_,rfl,⟨f8,hone⟩,rfl⟩
   . exact ⟨mv',K0,f8,f9,hk,hform⟩
   . exact ⟨ad,cap,cs,f6,f7,hE,rfl,q2,q3,q4⟩
 . show Sep E K (HA.conc _ (.blk 0 10 149 [.own 6,.int .i64 x.2.2.1,.int .i64 x.2.2.2.1,.own 8]) :: HA.conc _ (.od 8 9 bj (Option.map (bF x.1) x.2.2.2.2:Option (List (Int×Int)))) :: HA.conc _ (.row 6 7 3 (.int .i64) x.2.1 (List.length (α:=Int) x.2.1)) :: F) w'
   simp only [HA.conc,f0,f6,f7,f8,f9,f10]
   exact hs2
def Bi [BldA]:OkSpec Tryz.prog:=⟨qA,Bb,Tryz.call119⟩
end
end
end Go.Proofs.YtaajcbeoafhmaaaGreatDoor
