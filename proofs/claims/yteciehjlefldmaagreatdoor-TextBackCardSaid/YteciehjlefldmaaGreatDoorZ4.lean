/- A part of the proof: what lies ahead of the law. Nothing is claimed here. -/
import Derived.Test.YteciehjlefldmaaGreatDoorZ3
import Derived.Test.YteciehjlefldmaaGreatDoorRows
import Derived.Lib.Builder
import Derived.RegionTactic
import Derived.Shelf.Strings.Builder1
import Derived.Shelf.Strings.Builder2
import Derived.Shelf.Strings.OnBuilder
import Derived.Shelf.Small.Wraps
import Derived.Shelf.Strings.BuilderF
import Derived.Shelf.Strings.BuilderK
import Derived.Shelf.Utf8.RuneCount
import Derived.Shelf.Strings.Builder2Cap
import Derived.Shelf.Strings.Search1
import Derived.Shelf.Strings.Search2
import Derived.Shelf.Strings.Search3
import Derived.Shelf.Strings.Cut
import Derived.Shelf.Strings.Count
import Derived.Shelf.LaysM
import Derived.Shelf.Strings.Shaped
import Derived.Shelf.Strings.Prefix
import Derived.Shelf.Strings.Split
import Derived.Shelf.Strings.SplitShaped
import Derived.Shelf.Unicode.Decode
import Derived.Shelf.Strings.RuneCount
import Derived.Shelf.Strings.Explode
import Derived.Shelf.Unicode.DecodeSlow
import Derived.Shelf.Unicode.DecodeAny
import Derived.Shelf.Strings.BuilderCap
import Derived.Shelf.Slices.Turned
import Derived.Test.YteciehjlefldmaaGreatDoorProg
import Derived.Shelf.Vars
namespace Go.Proofs.YteciehjlefldmaaGreatDoor
noncomputable section
set_option linter.unusedVariables false
set_option linter.unusedSimpArgs false
set_option linter.unnecessarySimpa false
set_option linter.unusedSectionVars false
open Go.RowKit
section
variable [BldA]
section
variable {R:Type} {P:Program} {E:En} {n:Nat} {m m':List M} {K K':Hp} {fr:Frz} {σ σ':Zt} {ρ ρ':Sl1} {w w':World}
theorem sC {c:Code} {f:Hn P→Zt→(R:Type)→(Exit→Hn P→Zt→Option R)→Option R} (hf:Fok P n c f) (hrd:il E fr) {s:Sh} {act W:List Nat} {a b:Hn P} {k:Hn P→Zt→Option R} {r:R} {Q:Exit→Act→World→Prop} (h:gR f s act W a b σ k=some r) (hr:Rel E fr σ m K ρ w)
   (hQ:∀ h' σ' m' K' ρ' w',Rel E fr σ' m' K' ρ' w'→Same σ σ'→k h' σ'=some r→Q .normal (Go.Proofs.YteciehjlefldmaaGreatDoor.act1 n ρ') w'):c.wpIn (aA E.rd) 0 P Q (Go.Proofs.YteciehjlefldmaaGreatDoor.act1 n ρ) w:=by
 unfold gR at h
 obtain ⟨x,hx,h⟩:=ob h
 refine hf _ E ⟨m,K,ρ,fun _=>false,fr.F,fr.k0⟩ hrd a (σ.frz act) _ x m K ρ w Q hx (hr.frz act) (fun e h' σ' m' K' ρ' w' h1 h2 h3=>?_)
 cases e with
 | normal =>
   obtain ⟨h'',σ2,m2,K2,g1,g2,g3⟩:=aF h' h3 h1
   have hi:Inn σ fr ⟨m,K,ρ,fun _=>false,fr.F,fr.k0⟩ m K ρ (bB σ.H act) σ2 W:=⟨rfl,rfl,rfl,rfl,rfl,(g2.2.trans h2.2),fp,fun _ _=>rfl⟩
   obtain ⟨σ3,m3,q1,q2,q3⟩:=lQ hr hi g3 g1 h
   exact hQ b σ3 m3 K2 ρ' w' q3 q2 q1
 | _=>cases h3
theorem tf {c:Code} {f:Hn P→Zt→(R:Type)→(Exit→Hn P→Zt→Option R)→Option R} (hf:Fok P n c f) (hrd:il E fr) {s:Sh} {act W:List Nat} {a b:Hn P} {k:Exit→Hn P→Zt→Option R} {r:R} {Q:Exit→Act→World→Prop} (h:hG f s act W a b σ k=some r) (hr:Rel E fr σ m K ρ w)
   (hQ:∀ e h' σ' m' K' ρ' w',Rel E fr σ' m' K' ρ' w'→Same σ σ'→k e h' σ'=some r→Q e (Go.Proofs.YteciehjlefldmaaGreatDoor.act1 n ρ') w'):c.wpIn (aA E.rd) 0 P Q (Go.Proofs.YteciehjlefldmaaGreatDoor.act1 n ρ) w:=by
 unfold hG at h
 obtain ⟨o,ho,h⟩:=ob h
 refine hf _ E ⟨m,K,ρ,fun _=>false,fr.F,fr.k0⟩ hrd a (σ.frz act) _ o m K ρ w Q ho (hr.frz act) (fun e h' σ' m' K' ρ' w' h1 h2 h3=>?_)
 have other:(k e h' (σ.thaw σ' (bB σ.H act) [])).map Sum.inr=some o→Q e (Go.Proofs.YteciehjlefldmaaGreatDoor.act1 n ρ') w':=fun h3=>by
   rw [Option.map_eq_some_iff] at h3
   obtain ⟨r',h4,rfl⟩:=h3
   cases h
   have hi:Inn σ fr ⟨m,K,ρ,fun _=>false,fr.F,fr.k0⟩ m K ρ (bB σ.H act) σ' []:=⟨rfl,rfl,rfl,rfl,rfl,h2.2,fp,fun _ _=>rfl⟩
   obtain ⟨q1,q2⟩:=o6 hr hi h1
   exact hQ e h' _ m' K' ρ' w' q2 q1 h4
 cases e with
 | normal =>
   obtain ⟨h'',σ2,m2,K2,g1,g2,g3⟩:=aF h' h3 h1
   rw [Option.map_eq_some_iff] at g1
   obtain ⟨x,g1,rfl⟩:=g1
   have hi:Inn σ fr ⟨m,K,ρ,fun _=>false,fr.F,fr.k0⟩ m K ρ (bB σ.H act) σ2 W:=⟨rfl,rfl,rfl,rfl,rfl,(g2.2.trans h2.2),fp,fun _ _=>rfl⟩
   obtain ⟨σ3,m3,q1,q2,q3⟩:=lQ hr hi g3 g1 h
   exact hQ .normal b σ3 m3 K2 ρ' w' q3 q2 q1
 | _=>exact other h3
theorem zI {s:Sh} {W:List Nat} {rest:List HA} {x:TL s.ts} (hr:Rel E fr σ m K ρ w) {g:Gt} {f:Nat→SV} {H:List HA} {us:List ab}
   (hg:s.get f H=some g) (hx:TL.of s.ts g.ds=some x) (hok:∀ a∈H,HA.ok m' K' a) (hf:∀ i,SV.rel m' K' (f i) (ρ' i)) (hmm:m <+: m') (hKK:K.le K') (hrest:∀ a∈rest,a∈σ.H) (hs:Sep E K' (H.map (HA.conc m')++(us++(rest.map (HA.conc m)++σ.fz fr))) w')
   (hds:MOk fr.k0 K' ρ'.ds) (hold:∀ i,i∉W→ρ' i=ρ i) {vs:List (Nat×SV)} {u:Un} (hu:s.un (TL.list s.ts x) σ.nx=some (vs,u)) :
   ∃ m'',Rel E ⟨m,K,ρ,fun i=>W.contains i,fr.F,fr.k0⟩ ⟨fun i=>bif W.contains i then .any else σ.get i,aV (bp σ) vs,u.H.map (HA.sub (bp σ)),rest++σ.Hf,u.nx,false⟩ m'' K' ρ' w':=by
 rw [TL.of_list hx] at hu
 have hoo:bf s.bl m.length=true:=by
   unfold Sh.un at hu
   rw [hr.nx]
   cases ho:bf s.bl σ.nx with
   | true=>rfl
   | false=>rw [ho] at hu; cases hu
 obtain ⟨vs',u',ms,e1,e2,e3,e4,e5,e6,e7,e8⟩:=Sh.get_un hg hok hmm hoo
 rw [hr.nx,hu] at e1
 cases e1
 have hp':=ax m ms
 refine ⟨m++ms,Rel.subs (σ:=⟨fun i=>bif W.contains i then .any else σ.get i,vs,u.H,rest++σ.Hf,u.nx,false⟩) (lf hr.toPur (m':=m++ms) (fun _ _ k=>ap hp' k) hKK) ⟨⟨ax m ms,hKK,e2,fun e=>(by cases e),fun i=>?_,fun i hi=>?_,fun i hi=>?_,fun i sv hi=>lh e3 hi _ (hf i),e4,fun a ha=>?_,hds⟩,?_⟩⟩
 . show SV.rel m K (bif W.contains i then .any else σ.get i) (ρ i)
   cases W.contains i with
   | true=>exact trivial
   | false=>exact hr.toPur.get i
 . show (bif W.contains i then SV.any else σ.get i) = .any
   have hi:W.contains i=true:=hi
   rw [hi]; rfl
 . by_cases hW:i∈W
   . exact .inl (by simpa using hW)
   . exact .inr (hold i hW)
 . refine hr.toPur.all a ?_
   rcases List.mem_append.1 ha with ha | ha
   . exact List.mem_append_left _ (hrest a ha)
   . exact List.mem_append_right _ ha
 . have s1:=e6 E _ w' hs
   have s2:Sep E K' ((g.H.map (HA.conc m')++us)++(u.H.map (HA.conc (m++ms))++(rest.map (HA.conc m)++σ.fz fr))) w':=Sep.perm (by
     rw [List.append_assoc]
     refine (gY _ _ _).trans (List.Perm.append_left _ (gY _ _ _)) ) s1
   show Sep E K' (u.H.map (HA.conc (m++ms))++((rest++σ.Hf).map (HA.conc m)++fr.F)) w'
   rw [List.map_append,hr.toPur.fz',List.append_assoc]
   exact Sep.drops s2
theorem rP {s:Sh} {ds:List Dat} {nx:Nat} {o:List (Nat×SV)×Un} (h:s.un ds nx=some o):bf s.bl nx=true:=by
 unfold Sh.un at h
 cases ho:bf s.bl nx with
 | true=>rfl
 | false=>rw [ho] at h; cases h
theorem yU {c:Code} {f:Hn P→Zt→(R:Type)→(Exit→Hn P→Zt→Option R)→Option R} (hf:Fok P n c f) (hrd:il E fr) {s:Sh} {W:List Nat} {a:Hn P} {k:Exit→Hn P→Zt→Option R} {r:R} {Q:Exit→Act→World→Prop} (h:mI f s W a σ k=some r) (hr:Rel E fr σ m K ρ w)
   (hQ:∀ e h' σ' m' K' ρ' w',Rel E fr σ' m' K' ρ' w'→Same σ σ'→k e h' σ'=some r→Q e (Go.Proofs.YteciehjlefldmaaGreatDoor.act1 n ρ') w'):(Code.loop c).wpIn (aA E.rd) 0 P Q (Go.Proofs.YteciehjlefldmaaGreatDoor.act1 n ρ) w:=by
 unfold mI at h
 split at h
 . rename_i g hg
   split at h
   . rename_i x0 hx0
     obtain ⟨N,hN⟩:=lb h
     refine wpIn_loop_rounds N ?_
     -- a round's head
     have round:∀ (N:Nat) (x:TL s.ts) (m1:List M) (K1:Hp) (ρ1:Sl1) (w1:World) (vs:List (Nat×SV)) (u:Un),bX (jz f s W g a σ k) N x=some r→s.un (TL.list s.ts x) σ.nx=some (vs,u) →
         Rel E ⟨m,K,ρ,fun i=>W.contains i,fr.F,fr.k0⟩ ⟨fun i=>bif W.contains i then .any else σ.get i,aV (bp σ) vs,u.H.map (HA.sub (bp σ)),g.H++σ.Hf,u.nx,false⟩ m1 K1 ρ1 w1→Code.roundsIn (aA E.rd) 0 P c Q N (Go.Proofs.YteciehjlefldmaaGreatDoor.act1 n ρ1) w1:=by
       intro N
       induction N with
       | zero=>intro x m1 K1 ρ1 w1 vs u hi; cases hi
       | succ N ih =>
         intro x m1 K1 ρ1 w1 vs u hi hu hrel
         unfold bX at hi
         obtain ⟨o,ho,hi⟩:=ob hi
         rw [roundsIn_succ]
         unfold jz at ho
         rw [hu] at ho
         simp only at ho
         have hgsub:∀ a∈g.H,a∈σ.H:=by
           obtain ⟨_,_,_,_,_,_,_,e5,_⟩:=Sh.get_un (m:=m) (K:=K) hg hr.okH (List.prefix_refl m) (by rw [hr.nx]; exact rP hu)
           exact e5
         refine hf _ E ⟨m,K,ρ,fun i=>W.contains i,fr.F,fr.k0⟩ hrd a _ _ o m1 K1 ρ1 w1 _ ho hrel (fun e h' σ' m' K' ρ' w' h1 h2 h3=>?_)
         have other:e ≠ .normal→(k e h' (σ.thaw σ' g.H W)).map Sum.inr=some o→Q e (Go.Proofs.YteciehjlefldmaaGreatDoor.act1 n ρ') w':=fun _ h3=>by
           rw [Option.map_eq_some_iff] at h3
           obtain ⟨r',h4,rfl⟩:=h3
           cases hi
           have hii:Inn σ fr ⟨m,K,ρ,fun i=>W.contains i,fr.F,fr.k0⟩ m K ρ g.H σ' W:=⟨rfl,rfl,rfl,rfl,rfl,h2.2,hgsub,fun i hi=>by simpa using hi⟩
           obtain ⟨q1,q2⟩:=o6 hr hii h1
           exact hQ e h' _ m' K' ρ' w' q2 q1 h4
         cases e with
         | normal =>
           obtain ⟨h'',σ2,m2,K2,g1,g2,g3⟩:=aF h' h3 h1
           rw [Option.map_eq_some_iff] at g1
           obtain ⟨x',g1,rfl⟩:=g1
           have hsame:=h2.trans g2
           unfold Zt.pack at g1
           replace g1:=ai g1; obtain ⟨hk,g1⟩:=g1
           split at g1
           . rename_i g' hg'
             cases hu':s.un (TL.list s.ts x') σ.nx with
             | none =>
               -- the next round would not run
               cases N with
               | zero=>cases hi
               | succ N =>
                 unfold bX at hi
                 obtain ⟨o2,ho2,_⟩:=ob hi
                 unfold jz at ho2
                 rw [hu'] at ho2
                 cases ho2
             | some q =>
               obtain ⟨vs',u'⟩:=q
               have hii:Inn σ fr ⟨m,K,ρ,fun i=>W.contains i,fr.F,fr.k0⟩ m K ρ g.H σ2 W:=⟨rfl,rfl,rfl,rfl,rfl,hsame.2,hgsub,fun i hi=>by simpa using hi⟩
               obtain ⟨m'',hrel'⟩:=zI (W:=W) (rest:=g.H) (us:=[]) hr hg' g1 g3.okH g3.toPur.get g3.hm g3.hK hgsub (by rw [List.nil_append]; exact hii.sep hr g3) g3.mks (fun i hi=>by
                 have:=g3.old i (kU hk hi)
                 rcases this with h4 | h4
                 . exact absurd (by simpa using h4) hi
                 . exact h4) hu'
               exact ih x' m'' K2 ρ' w' vs' u' hi hu' hrel'
           . cases g1
         | exit i=>exact other nofun h3
         | goto l=>exact other nofun h3
         | ret=>exact other nofun h3
         | panic c=>exact other nofun h3
         | outgrown=>exact other nofun h3
     cases hu:s.un (TL.list s.ts x0) σ.nx with
     | none =>
       cases N with
       | zero=>cases hN
       | succ N =>
         unfold bX at hN
         obtain ⟨o2,ho2,_⟩:=ob hN
         unfold jz at ho2
         rw [hu] at ho2
         cases ho2
     | some q =>
       obtain ⟨vs,u⟩:=q
       have hu2:=hu
       rw [TL.of_list hx0] at hu2
       obtain ⟨vs',u',ms,e1,e2,e3,e4,e5,e6,e7,e8⟩:=Sh.get_un (m:=m) (K:=K) hg hr.okH (List.prefix_refl m) (by rw [hr.nx]; exact rP hu2)
       rw [hr.nx,hu2] at e1
       cases e1
       have hp':=ax m ms
       refine round N x0 (m++ms) K ρ w vs u hN hu (Rel.subs (σ:=⟨fun i=>bif W.contains i then .any else σ.get i,vs,u.H,g.H++σ.Hf,u.nx,false⟩) (lf hr.toPur (m':=m++ms) (fun _ _ k=>ap hp' k) (Hp.le_refl K)) ⟨⟨ax m ms,Hp.le_refl K,e2,fun e=>(by cases e),fun i=>?_,fun i hi=>?_,fun i hi => .inr rfl,fun i sv hi=>lh e3 hi _ (hr.toPur.get i),e4,fun a ha=>?_,hr.mks⟩,?_⟩)
       . show SV.rel m K (bif W.contains i then .any else σ.get i) (ρ i)
         cases W.contains i with
         | true=>exact trivial
         | false=>exact hr.toPur.get i
       . show (bif W.contains i then SV.any else σ.get i) = .any
         have hi:W.contains i=true:=hi
         rw [hi]; rfl
       . refine hr.toPur.all a ?_
         rcases List.mem_append.1 ha with ha | ha
         . exact List.mem_append_left _ (e5 a ha)
         . exact List.mem_append_right _ ha
       . have s1:=e6 E _ w hr.toSep
         show Sep E K (u.H.map (HA.conc (m++ms))++((g.H++σ.Hf).map (HA.conc m)++fr.F)) w
         rw [List.map_append,hr.toPur.fz',List.append_assoc]
         exact s1
   . cases h
 . cases h
theorem r6 {c:Code} {f:Hn P→Zt→(R:Type)→(Exit→Hn P→Zt→Option R)→Option R} (hf:Fok P n c f) (hrd:il E fr) {k:Exit→Hn P→Zt→Option R} {r:R} {Q:Exit→Act→World→Prop}
   (hQ:∀ e h' σ' m' K' ρ' w',Rel E fr σ' m' K' ρ' w'→Same σ σ'→k e h' σ'=some r→Q e (Go.Proofs.YteciehjlefldmaaGreatDoor.act1 n ρ') w'):∀ (N:Nat) {h:Hn P} {σ1:Zt} {m:List M} {K:Hp} {ρ:Sl1} {w:World},jH (fun h σ k=>f h σ _ k) k N h σ1=some r→Rel E fr σ1 m K ρ w→Same σ σ1→Code.roundsIn (aA E.rd) 0 P c Q N (Go.Proofs.YteciehjlefldmaaGreatDoor.act1 n ρ) w
 | 0,h,σ1,m,K,ρ,w,hh,hr,hs=>by cases hh
 | N + 1,h,σ1,m,K,ρ,w,hh,hr,hs=>by
   rw [roundsIn_succ]
   unfold jH at hh
   refine hf _ E fr hrd h σ1 _ r m K ρ w _ hh hr (fun e h' σ' m' K' ρ' w' h1 h2 h3=>?_)
   cases e with
   | normal=>exact r6 hf hrd hQ N h3 h1 (hs.trans h2)
   | exit i=>exact hQ _ h' σ' m' K' ρ' w' h1 (hs.trans h2) h3
   | goto i=>exact hQ _ h' σ' m' K' ρ' w' h1 (hs.trans h2) h3
   | ret=>exact hQ _ h' σ' m' K' ρ' w' h1 (hs.trans h2) h3
   | panic i=>exact hQ _ h' σ' m' K' ρ' w' h1 (hs.trans h2) h3
   | outgrown=>exact hQ _ h' σ' m' K' ρ' w' h1 (hs.trans h2) h3
theorem rJ {y:Code} {k:Exit→Hn P→Zt→Option R} {f:Hn P→Zt→Option R} {r:R} {Q:Exit→Act→World→Prop} {σ0:Zt} (hf:∀ h' σ' m' K' ρ' w',Rel E fr σ' m' K' ρ' w'→Same σ0 σ'→f h' σ'=some r→y.wpIn (aA E.rd) 0 P Q (Go.Proofs.YteciehjlefldmaaGreatDoor.act1 n ρ') w')
   (hQ:∀ e h' σ' m' K' ρ' w',Rel E fr σ' m' K' ρ' w'→Same σ0 σ'→k e h' σ'=some r→Q e (Go.Proofs.YteciehjlefldmaaGreatDoor.act1 n ρ') w'):∀ e h' σ' m' K' ρ' w',Rel E fr σ' m' K' ρ' w'→Same σ0 σ'→gK k f e h' σ'=some r→Exit.then (y.wpIn (aA E.rd) 0 P Q) Q e (Go.Proofs.YteciehjlefldmaaGreatDoor.act1 n ρ') w':=by
 intro e h' σ' m' K' ρ' w' h1 h2 h3
 cases e with
 | normal=>exact hf h' σ' m' K' ρ' w' h1 h2 h3
 | exit i=>exact hQ _ h' σ' m' K' ρ' w' h1 h2 h3
 | goto i=>exact hQ _ h' σ' m' K' ρ' w' h1 h2 h3
 | ret=>exact hQ _ h' σ' m' K' ρ' w' h1 h2 h3
 | panic i=>exact hQ _ h' σ' m' K' ρ' w' h1 h2 h3
 | outgrown=>exact hQ _ h' σ' m' K' ρ' w' h1 h2 h3
theorem b6 {J:Rn P} (hJ:JOk J):∀ (c:Code),Fok P n c (fun h σ R k=>exec J n c h σ k)
 | .skip=>fun R E fr hrd h σ k r m K ρ w Q hh hr hQ=>wpIn_skip (hQ _ h σ m K ρ w hr Same.rfl' hh)
 | .ret=>fun R E fr hrd h σ k r m K ρ w Q hh hr hQ=>wpIn_ret (hQ _ h σ m K ρ w hr Same.rfl' hh)
 | .exit id=>fun R E fr hrd h σ k r m K ρ w Q hh hr hQ=>wpIn_exit (hQ _ h σ m K ρ w hr Same.rfl' hh)
 | .label l=>fun R E fr hrd h σ k r m K ρ w Q hh hr hQ=>wpIn_label (hQ _ h σ m K ρ w hr Same.rfl' hh)
 | .scope b=>fun R E fr hrd h σ k r m K ρ w Q hh hr hQ=>by
   refine vN (b6 hJ b R E fr hrd h σ _ r m K ρ w _ (show exec J n b h σ (tV k)=some r from hh) hr (fun e h' σ' m' K' ρ' w' h1 h2 h3=>?_))
   cases e with
   | goto l=>cases h3
   | normal=>exact hQ _ h' σ' m' K' ρ' w' h1 h2 h3
   | exit i=>exact hQ _ h' σ' m' K' ρ' w' h1 h2 h3
   | ret=>exact hQ _ h' σ' m' K' ρ' w' h1 h2 h3
   | panic i=>exact hQ _ h' σ' m' K' ρ' w' h1 h2 h3
   | outgrown=>exact hQ _ h' σ' m' K' ρ' w' h1 h2 h3
 | .region id ops draw=>fun R E fr hrd h σ k r m K ρ w Q hh hr hQ=>by
   change (bif !ops.toList.all bC then none else bif draw then ay h σ fun h σ=>ic n ops.toList h σ fun h σ=>(match h with | .mix plan fin tail act r=>qw n ops plan fin tail act r σ (k .normal) | .tr t s act a b=>trS n ops t s act a b σ (k .normal) | _=>none) else ay h σ fun h σ=>p8 J n ops h σ (k .normal))=some r at hh
   replace hh:=dh hh; obtain ⟨hn,hh⟩:=hh
   have hn:ops.toList.all bC=true:=by simpa using hn
   cases draw with
   | false =>
     simp only [cond_false] at hh
     obtain ⟨h1,σ1,m1,K1,hh,g1,hr⟩:=aF h hh hr
     replace hQ:∀ e h' σ' m' K' ρ' w',Rel E fr σ' m' K' ρ' w'→Same σ1 σ'→k e h' σ'=some r→Q e (act1 n ρ') w':=fun e h' σ' m' K' ρ' w' q1 q2 q3=>hQ e h' σ' m' K' ρ' w' q1 (g1.trans q2) q3
     clear g1
     unfold p8 at hh
     split at hh
     . rename_i q h2
       have key:wpListIn (aA E.rd) 0 P ops Q (ops.toList.take q++ops.toList.drop q) (act1 n ρ) w:=by
         have hn1:(ops.toList.take q).all bC=true:=List.all_eq_true.2 (fun x hx=>List.all_eq_true.1 hn x (List.mem_of_mem_take hx))
         have hn2:(ops.toList.drop q).all bC=true:=List.all_eq_true.2 (fun x hx=>List.all_eq_true.1 hn x (List.mem_of_mem_drop hx))
         refine nW hn1 ?_
         have:=gH (ops:=ops) (Q:=fun e a w=>e = .normal∧wpListIn (aA E.rd) 0 P ops Q (ops.toList.drop q) a w) (ops.toList.take q) 0 hh hr (fun h' σ' m' K' ρ' w' h1 h2 h3=>?_)
         . simpa using this
         . refine ⟨rfl,?_⟩
           split at h3
           . rename_i o rest hd
             rw [hd] at hn2 ⊢
             simp only [List.all_cons,Bool.and_eq_true] at hn2
             obtain ⟨dst,op,t,pos,af,gu⟩:=o
             obtain ⟨h4,σ4,s4,hr4,hg⟩:=gD h3 h1
             rcases hg with ⟨hw,hg⟩ | ⟨hw,hg⟩
             . refine AR hJ hg hr4 hw (fun h'' σ'' m'' K'' ρ'' w'' g1 g2 g3=>?_)
               have:=gH (ops:=ops) (Q:=Q) rest 0 g3 g1 (fun h3 σ3 m3 K3 ρ3 w3 b1 b2 b3=>hQ _ h3 σ3 m3 K3 ρ3 w3 b1 (((h2.trans s4).trans g2).trans b2) b3)
               exact fh hn2.2 (by simpa using this)
             . unfold wpListIn
               rw [if_neg (by rw [hw]; exact Bool.false_ne_true)]
               refine ⟨fun _ _=>trivial,?_⟩
               cases dst with
               | none =>
                 have:=gH (ops:=ops) (Q:=Q) rest 0 hg hr4 (fun h3 σ3 m3 K3 ρ3 w3 b1 b2 b3=>hQ _ h3 σ3 m3 K3 ρ3 w3 b1 ((h2.trans s4).trans b2) b3)
                 exact fh hn2.2 (by rw [List.drop_zero] at this; exact this)
               | some d =>
                 show wpListIn _ _ _ _ _ _ ((act1 n ρ').put (some d) undef) _
                 rw [bD]
                 have:=gH (ops:=ops) (Q:=Q) rest 0 hg (hr4.set (d:=d) (sv := .raw undef) (v:=undef) rfl) (fun h3 σ3 m3 K3 ρ3 w3 b1 b2 b3=>hQ _ h3 σ3 m3 K3 ρ3 w3 b1 (((h2.trans s4).trans ⟨rfl,rfl⟩).trans b2) b3)
                 exact fh hn2.2 (by simpa using this)
           . cases h3
       rw [List.take_append_drop] at key
       have:=wpIn_region_lit (id:=id) (l:=ops.toList) (by simpa using key)
       simpa using this
     . have:=wpIn_region_lit (id:=id) (fh (r:=E.rd) (n:=0) hn (gH (Q:=Q) (ops:=ops.toList.toArray) ops.toList 0 (by simpa using hh) hr (fun h' σ' m' K' ρ' w' h1 h2 h3=>hQ _ h' σ' m' K' ρ' w' h1 h2 h3)))
       simpa using this
   | true =>
     simp only [cond_true] at hh
     obtain ⟨h1,σ1,m1,K1,hh,g1,hr⟩:=aF h hh hr
     obtain ⟨h2,σ2,m2,hh,g2,hr⟩:=ue h1 hh hr
     replace hQ:∀ e h' σ' m' K' ρ' w',Rel E fr σ' m' K' ρ' w'→Same σ2 σ'→k e h' σ'=some r→Q e (act1 n ρ') w':=fun e h' σ' m' K' ρ' w' q1 q2 q3=>hQ e h' σ' m' K' ρ' w' q1 ((g1.trans g2).trans q2) q3
     clear g1 g2
     generalize K1=K at hr
     generalize m2=m at hr
     generalize σ2=σ at hr hh hQ
     split at hh
     . rename_i plan fin tail act' h0
       unfold qw at hh
       replace hh:=bE hh; obtain ⟨hm,hB,hh⟩:=hh
       have hB':ig .any ops.toList.toArray plan fin tail=true:=by simpa using hB
       have hfr:=(hr.frz act').drew
       have hplan:∀ s i,(s,i)∈plan→i < ops.toList.length:=by
         intro s i hi
         have h0:=hB
         unfold ig at h0
         simp only [Bool.and_eq_true] at h0
         obtain ⟨_,h1⟩:=h0
         split at h1
         . rename_i l1 hl1
           simpa using rq plan _ _ hl1 s i hi
         . cases h1
       have key:=lH (l:=ops.toList) (Q:=Q) plan hh hfr rfl hplan (fun h' σ' m' K' ρ' w' h1 h2 h3=>by
         have hi:Inn σ fr ⟨m,K,ρ,fun _=>false,fr.F,fr.k0⟩ m K ρ (bB σ.H act') σ' []:=⟨rfl,rfl,rfl,rfl,rfl,h2.2,fp,fun _ _=>rfl⟩
         obtain ⟨z1,z2⟩:=o6 hr hi h1
         have:=gH (ops:=ops.toList.toArray) (Q:=Q) (aK ops.toList tail) 0 (by simpa using h3) z2 (fun h'' σ'' m'' K'' ρ'' w'' b1 b2 b3=>hQ .normal h'' σ'' m'' K'' ρ'' w'' b1 (z1.trans b2) b3)
         rwa [List.drop_zero] at this)
       have:=qT (id:=id) (Q:=Q) plan fin tail hm hB' _ hfr.cfz rfl rfl rfl key hn (r:=E.rd) (n:=0)
       simpa using this
     . rename_i t s act' a b
       unfold trS at hh
       replace hh:=bE hh; obtain ⟨hm,hB,hh⟩:=hh
       obtain ⟨x,hx,hh⟩:=ob hh
       have hfr:=(hr.frz act').drew
       have key:=lJ (l:=ops.toList) (F:=fun a' w'=>ak P ops.toList.toArray Q (aK ops.toList []) a' w') t hx hfr rfl (fun h' σ' m' K' ρ' w' h1 h2 h3=>by
         obtain ⟨h'',σ2,m2,K2,g1,g2,g3⟩:=aF h' h3 h1
         have hi:Inn σ fr ⟨m,K,ρ,fun _=>false,fr.F,fr.k0⟩ m K ρ (bB σ.H act') σ2 (s.sl.map (·.1)++av ops.toList):=⟨rfl,rfl,rfl,rfl,rfl,(g2.2.trans h2.2),fp,fun _ _=>rfl⟩
         obtain ⟨σ3,m3,q1,q2,q3⟩:=lQ hr hi g3 g1 hh
         exact hQ .normal b σ3 m3 K2 ρ' w' q3 q2 q1)
       have:=we (id:=id) (Q:=Q) t [] hm hB _ hfr.cfz rfl key hn (r:=E.rd) (n:=0)
       simpa using this
     . cases hh
 | .seq a b=>fun R E fr hrd h σ k r m K ρ w Q hh hr hQ=>by
   have plain:∀ h0,exec J n a h0 σ (gK k (fun h σ=>exec J n b h σ k))=some r→(Code.seq a b).wpIn (aA E.rd) 0 P Q (act1 n ρ) w:=fun h0 hh =>
     wpIn_seq (b6 hJ a R E fr hrd h0 σ _ r m K ρ w _ hh hr (rJ (σ0:=σ) (fun h' σ' m' K' ρ' w' h1 h2 h3=>b6 hJ b R E fr hrd h' σ' k r m' K' ρ' w' Q h3 h1 (fun e h'' σ'' m'' K'' ρ'' w'' q1 q2 q3=>hQ e h'' σ'' m'' K'' ρ'' w'' q1 (h2.trans q2) q3)) hQ))
   cases h with
   | sq mk s act ha hb =>
     have hh:(match Zt.mcs mk σ with | some σ=>gR (fun h σ R k=>exec J n a h σ k) s act (s.sl.map (·.1)++bF a) ha hb σ (fun h σ=>exec J n b h σ k) | none=>none)=some r:=hh
     split at hh
     . rename_i σ1 hm
       obtain ⟨m1,k1,k2⟩:=jJ hm hr
       refine wpIn_seq (sC (b6 hJ a) hrd hh k2 (fun h' σ' m' K' ρ' w' h1 h2 h3=>?_))
       exact b6 hJ b R E fr hrd h' σ' k r m' K' ρ' w' Q h3 h1 (fun e h'' σ'' m'' K'' ρ'' w'' q1 q2 q3=>hQ e h'' σ'' m'' K'' ρ'' w'' q1 ((k1.trans h2).trans q2) q3)
     . cases hh
   | sx mk s act ha hb =>
     have hh:(match Zt.mcs mk σ with | some σ=>hG (fun h σ R k=>exec J n a h σ k) s act (s.sl.map (·.1)++bF a) ha hb σ (gK k (fun h σ=>exec J n b h σ k)) | none=>none)=some r:=hh
     split at hh
     . rename_i σ1 hm
       obtain ⟨m1,k1,k2⟩:=jJ hm hr
       refine wpIn_seq (tf (b6 hJ a) hrd hh k2 ?_)
       exact rJ (σ0:=σ1) (fun h' σ' m' K' ρ' w' h1 h2 h3=>b6 hJ b R E fr hrd h' σ' k r m' K' ρ' w' Q h3 h1 (fun e h'' σ'' m'' K'' ρ'' w'' q1 q2 q3=>hQ e h'' σ'' m'' K'' ρ'' w'' q1 ((k1.trans h2).trans q2) q3)) (fun e h' σ' m' K' ρ' w' q1 q2 q3=>hQ e h' σ' m' K' ρ' w' q1 (k1.trans q2) q3)
     . cases hh
   | pl h=>exact plain h hh
   | nil=>exact plain _ hh
   | two _ _ _=>exact plain _ hh
   | tw _ _ _=>exact plain _ hh
   | jn _ _ _ _ _=>exact plain _ hh
   | jx _ _ _ _ _=>exact plain _ hh
   | lp _ _=>exact plain _ hh
   | un _ _=>exact plain _ hh
   | per _ _ _=>exact plain _ hh
   | perb _ _ _ _=>exact plain _ hh
   | mc _ _ _ _=>exact plain _ hh
   | ms _ _=>exact plain _ hh
   | wt _ _=>exact plain _ hh
   | cl _ _ _=>exact plain _ hh
   | c2 _ _ _ _=>exact plain _ hh
   | gp _ _=>exact plain _ hh
   | gj _ _ _ _ _=>exact plain _ hh
   | mix _ _ _ _ _=>exact plain _ hh
   | opn _ _ _=>exact plain _ hh
   | opb _ _ _=>exact plain _ hh
   | cls _ _ _=>exact plain _ hh
   | opp _ _ _ _=>exact plain _ hh
   | ot _ _=>exact plain _ hh
   | cm _ _ _ _=>exact plain _ hh
   | cm2 _ _ _ _ _=>exact plain _ hh
   | tr _ _ _ _ _=>exact plain _ hh
   | tru _=>exact plain _ hh
   | yl _ _=>exact plain _ hh
   | rg _ _=>exact plain _ hh
 | .cond c x y=>fun R E fr hrd h σ k r m K ρ w Q hh hr hQ=>by
   obtain ⟨h1,σ1,m1,K1,g1,g2,g3⟩:=aF h (show ay h σ (fun h σ=>pJ c (σ.evr n c) h σ (fun h σ=>exec J n x h σ k) (fun h σ=>exec J n y h σ k))=some r from hh) hr
   have hv:=g3.toPur.evr n c
   have goX:∀ h2 σ2,Rel E fr σ2 m1 K1 ρ w→Same σ σ2→exec J n x h2 σ2 k=some r→x.wpIn (aA E.rd) 0 P Q (act1 n ρ) w:=fun h2 σ2 q1 q2 q3 =>
     b6 hJ x R E fr hrd h2 σ2 k r m1 K1 ρ w Q q3 q1 (fun e h'' σ'' m'' K'' ρ'' w'' p1 p2 p3=>hQ e h'' σ'' m'' K'' ρ'' w'' p1 (q2.trans p2) p3)
   have goY:∀ h2 σ2,Rel E fr σ2 m1 K1 ρ w→Same σ σ2→exec J n y h2 σ2 k=some r→y.wpIn (aA E.rd) 0 P Q (act1 n ρ) w:=fun h2 σ2 q1 q2 q3 =>
     b6 hJ y R E fr hrd h2 σ2 k r m1 K1 ρ w Q q3 q1 (fun e h'' σ'' m'' K'' ρ'' w'' p1 p2 p3=>hQ e h'' σ'' m'' K'' ρ'' w'' p1 (q2.trans p2) p3)
   have slot:∀ (d:Nat) (sv:SV),c = .tmp d→σ1.evr n c=sv→sv ≠ .any→σ1.get d=sv:=fun d sv hc he hne=>by
     subst hc
     cases hh:Nat.blt d n with
     | false =>
       have:σ1.evr n (.tmp d) = .any:=by show (bif Nat.blt d n then σ1.get d else .any)=_; rw [hh]; rfl
       rw [this] at he; exact absurd he.symm hne
     | true =>
       have:σ1.evr n (.tmp d)=σ1.get d:=by show (bif Nat.blt d n then σ1.get d else .any)=_; rw [hh]; rfl
       rw [← this]; exact he
   unfold pJ at g1
   split at g1
   . rename_i jm w0 e
     rw [e] at hv
     obtain ⟨hj,hv⟩:=hv
     split at g1
     . rename_i t
       have hb:ev n ρ c = .bool t:=hv
       rw [hb] at hj
       refine wpIn_cond_split (t:=t) (by rw [bQ]; exact hb) (fun ht=>?_) (fun ht=>?_)
       . subst ht
         split at g1
         . exact goX _ _ (g3.fix (v := .bool true) hj rfl) (g2.trans ⟨rfl,rfl⟩) g1
         . exact goX _ σ1 g3 g2 g1
         . exact goX _ σ1 g3 g2 g1
       . subst ht
         split at g1
         . exact goY _ _ (g3.fix (v := .bool false) hj rfl) (g2.trans ⟨rfl,rfl⟩) g1
         . exact goY _ σ1 g3 g2 g1
         . exact goY _ σ1 g3 g2 g1
     . cases g1
   . rename_i t e
     rw [e] at hv
     have hb:ev n ρ c = .bool t:=hv
     refine wpIn_cond_split (t:=t) (by rw [bQ]; exact hb) (fun ht=>?_) (fun ht=>?_)
     . subst ht
       split at g1
       . rename_i ha hbn d _
         have hg:=slot d _ rfl e nofun
         exact goX ha _ (g3.ref (fun _ _ u hu=>by rw [hg] at hu; exact hu) (by rw [hg]; nofun)) (g2.trans ⟨rfl,fQ.2⟩) g1
       . exact goX _ σ1 g3 g2 g1
       . exact goX _ σ1 g3 g2 g1
     . subst ht
       split at g1
       . rename_i ha hbn d _
         have hg:=slot d _ rfl e nofun
         exact goY hbn _ (g3.ref (fun _ _ u hu=>by rw [hg] at hu; exact hu) (by rw [hg]; nofun)) (g2.trans ⟨rfl,fQ.2⟩) g1
       . exact goY _ σ1 g3 g2 g1
       . exact goY _ σ1 g3 g2 g1
   . rename_i tp l ng e
     rw [e] at hv
     obtain ⟨q,hb,hl⟩:=hv
     refine wpIn_cond_split (t:=q ^^ ng) (by rw [bQ]; exact hb) (fun ht=>?_) (fun ht=>?_)
     . split at g1
       . rename_i ha hbn _
         cases ng with
         | true =>
           rw [Bool.xor_true] at ht
           simp only [cond_true] at g1
           exact goX ha _ g3 g2 (rL g1)
         | false =>
           rw [Bool.xor_false] at ht
           simp only [cond_false] at g1
           exact goX ha _ g3 g2 (sW (hl ht) g1)
       . cases g1
     . split at g1
       . rename_i ha hbn _
         cases ng with
         | true =>
           rw [Bool.xor_true] at ht
           simp only [cond_true] at g1
           exact goY hbn _ g3 g2 (sW (hl (by simpa using ht)) g1)
         | false =>
           rw [Bool.xor_false] at ht
           simp only [cond_false] at g1
           exact goY hbn _ g3 g2 (rL g1)
       . cases g1
   . cases g1
 | .block id b=>fun R E fr hrd h σ k r m K ρ w Q hh hr hQ=>by
   have blk:∀ {R:Type} {k:Exit→Hn P→Zt→Option R} {r:R} {Q:Exit→Act→World→Prop} {fr:Frz} {σ:Zt},(∀ e h' σ' m' K' ρ' w',Rel E fr σ' m' K' ρ' w'→Same σ σ'→k e h' σ'=some r→Q e (act1 n ρ') w') →
       ∀ e h' σ' m' K' ρ' w',Rel E fr σ' m' K' ρ' w'→Same σ σ'→eo id k e h' σ'=some r→Exit.inBlock id Q e (act1 n ρ') w':=by
     intro R k r Q fr σ hQ e h' σ' m' K' ρ' w' h1 h2 h3
     cases e with
     | exit i =>
       change (bif Nat.beq i id then k .normal h' σ' else k (.exit i) h' σ')=some r at h3
       show if i=id then _ else _
       cases hb:Nat.beq i id with
       | true =>
         rw [hb] at h3
         rw [if_pos (Nat.eq_of_beq_eq_true hb)]
         exact hQ _ h' σ' m' K' ρ' w' h1 h2 h3
       | false =>
         rw [hb] at h3
         rw [if_neg (fun e=>by rw [e,Nat.beq_refl] at hb; cases hb)]
         exact hQ _ h' σ' m' K' ρ' w' h1 h2 h3
     | normal=>exact hQ _ h' σ' m' K' ρ' w' h1 h2 h3
     | goto l=>exact hQ _ h' σ' m' K' ρ' w' h1 h2 h3
     | ret=>exact hQ _ h' σ' m' K' ρ' w' h1 h2 h3
     | panic i=>exact hQ _ h' σ' m' K' ρ' w' h1 h2 h3
     | outgrown=>exact hQ _ h' σ' m' K' ρ' w' h1 h2 h3
   have fb:Fok P n (.block id b) (fun h σ R k=>exec J n b h σ (eo id k)):=fun R E fr hrd h σ k r m K ρ w Q hh hr hQ=>by
     refine wpIn_block (b6 hJ b R E fr hrd h σ _ r m K ρ w _ hh hr ?_)
     intro e h' σ' m' K' ρ' w' h1 h2 h3
     cases e with
     | exit i =>
       change (bif Nat.beq i id then k .normal h' σ' else k (.exit i) h' σ')=some r at h3
       show if i=id then _ else _
       cases hb:Nat.beq i id with
       | true =>
         rw [hb] at h3
         rw [if_pos (Nat.eq_of_beq_eq_true hb)]
         exact hQ _ h' σ' m' K' ρ' w' h1 h2 h3
       | false =>
         rw [hb] at h3
         rw [if_neg (fun e=>by rw [e,Nat.beq_refl] at hb; cases hb)]
         exact hQ _ h' σ' m' K' ρ' w' h1 h2 h3
     | normal=>exact hQ _ h' σ' m' K' ρ' w' h1 h2 h3
     | goto l=>exact hQ _ h' σ' m' K' ρ' w' h1 h2 h3
     | ret=>exact hQ _ h' σ' m' K' ρ' w' h1 h2 h3
     | panic i=>exact hQ _ h' σ' m' K' ρ' w' h1 h2 h3
     | outgrown=>exact hQ _ h' σ' m' K' ρ' w' h1 h2 h3
   have plain:∀ h0,exec J n b h0 σ (eo id k)=some r→(Code.block id b).wpIn (aA E.rd) 0 P Q (act1 n ρ) w:=fun h0 hh=>fb R E fr hrd h0 σ k r m K ρ w Q hh hr hQ
   cases h with
   | jn mk s act ha hb =>
     have hh:(match Zt.mcs mk σ with | some σ=>gR (fun h σ R k=>exec J n b h σ (eo id k)) s act (s.sl.map (·.1)++bF b) ha hb σ (k .normal) | none=>none)=some r:=hh
     split at hh
     . rename_i σ1 hm
       obtain ⟨m1,k1,k2⟩:=jJ hm hr
       exact sC fb hrd hh k2 (fun h' σ' m' K' ρ' w' h1 h2 h3=>hQ _ h' σ' m' K' ρ' w' h1 (k1.trans h2) h3)
     . cases hh
   | jx mk s act ha hb =>
     have hh:(match Zt.mcs mk σ with | some σ=>hG (fun h σ R k=>exec J n b h σ (eo id k)) s act (s.sl.map (·.1)++bF b) ha hb σ k | none=>none)=some r:=hh
     split at hh
     . rename_i σ1 hm
       obtain ⟨m1,k1,k2⟩:=jJ hm hr
       exact tf fb hrd hh k2 (fun e h' σ' m' K' ρ' w' q1 q2 q3=>hQ e h' σ' m' K' ρ' w' q1 (k1.trans q2) q3)
     . cases hh
   | pl h=>exact plain _ hh
   | nil=>exact plain _ hh
   | two _ _ _=>exact plain _ hh
   | tw _ _ _=>exact plain _ hh
   | sq _ _ _ _ _=>exact plain _ hh
   | sx _ _ _ _ _=>exact plain _ hh
   | lp _ _=>exact plain _ hh
   | un _ _=>exact plain _ hh
   | per _ _ _=>exact plain _ hh
   | perb _ _ _ _=>exact plain _ hh
   | mc _ _ _ _=>exact plain _ hh
   | ms _ _=>exact plain _ hh
   | wt _ _=>exact plain _ hh
   | cl _ _ _=>exact plain _ hh
   | c2 _ _ _ _=>exact plain _ hh
   | gp _ _=>exact plain _ hh
   | gj _ _ _ _ _=>exact plain _ hh
   | mix _ _ _ _ _=>exact plain _ hh
   | opn _ _ _=>exact plain _ hh
   | opb _ _ _=>exact plain _ hh
   | cls _ _ _=>exact plain _ hh
   | opp _ _ _ _=>exact plain _ hh
   | ot _ _=>exact plain _ hh
   | cm _ _ _ _=>exact plain _ hh
   | cm2 _ _ _ _ _=>exact plain _ hh
   | tr _ _ _ _ _=>exact plain _ hh
   | tru _=>exact plain _ hh
   | yl _ _=>exact plain _ hh
   | rg _ _=>exact plain _ hh
 | .loop b=>fun R E fr hrd h σ k r m K ρ w Q hh hr hQ=>by
   obtain ⟨h1,σ1,m1,K1,g1,g2,g3⟩:=aF h (show ay h σ (fun h σ=>match h with
     | .un m r=>jH (fun h σ k=>exec J n b h σ k) k m r σ
     | .lp s ha=>mI (fun h σ R k=>exec J n b h σ k) s (s.sl.map (·.1)++bF b) ha σ k
     | _=>none)=some r from hh) hr
   have hQ':∀ e h' σ' m' K' ρ' w',Rel E fr σ' m' K' ρ' w'→Same σ1 σ'→k e h' σ'=some r→Q e (act1 n ρ') w':=fun e h'' σ'' m'' K'' ρ'' w'' p1 p2 p3=>hQ e h'' σ'' m'' K'' ρ'' w'' p1 (g2.trans p2) p3
   split at g1
   . exact wpIn_loop_rounds _ (r6 (b6 hJ b) hrd hQ' _ g1 g3 Same.rfl')
   . exact yU (b6 hJ b) hrd g1 g3 hQ'
   . cases g1
 | .rangeFunc g ps ao bo=>fun R E fr hrd h σ k r m K ρ w Q hh hr hQ=>by
   obtain ⟨h1,σ1,m1,K1,g1,g2,g3⟩:=aF h (show ay h σ (fun h σ=>my J n g ps ao bo h σ k)=some r from hh) hr
   exact yD hJ hrd g1 g3 (fun e h'' σ'' m'' K'' ρ'' w'' p1 p2 p3=>hQ e h'' σ'' m'' K'' ρ'' w'' p1 (g2.trans p2) p3)
 | .goto l=>fun R E fr hrd h σ k r m K ρ w Q hh hr hQ=>by cases hh
 | .refuse s=>fun R E fr hrd h σ k r m K ρ w Q hh hr hQ=>by cases hh
theorem sw:∀ d:Nat,JOk (pL (P:=P) d)
 | 0=>fun n c R E fr hrd h σ k r m K ρ w Q hh hr hQ=>by cases hh
 | d + 1=>fun n c=>b6 (sw d) c
end
end
section
variable [BldA]
def dm (P:Program) (n:Nat) (σ:Zt):List ResultVar→Option (List SV)
 | []=>some []
 | .tmp t :: r=>(match dm P n σ r with | some vs=>some (σ.ev n (.tmp t) :: vs) | none=>none)
 | .cell a ty :: r=>(match σ.ev n (.tmp a) with
   | .ptr i o=>(match aH (HA.blkR i) (σ.H++σ.Hf) with
     | some q=>(match ldv P ty q.cs o,dm P n σ r with | some v,some vs=>some (v :: vs) | _,_=>none)
     | none=>none)
   | _=>none)
def vl:List SV→SV
 | [v]=>v
 | vs => .tup vs
def eE (σ:Zt) (rs:List SV) (o:Sh):Option (TL o.ts):=bif (match rs,o.sl with | [],[]=>true | _ :: _,[p]=>Nat.beq p.1 0 | _,_=>false) then (match o.get (fun _=>vl rs) σ.H with | some g=>TL.of o.ts g.ds | none=>none) else none
def mU {P:Program} (σ:Zt) (rs:List SV):(os:List Sh)→Hn P→Option (cu os)
 | [a],_=>eE σ rs a
 | [a,b],h=>(match h with | .pl _=>(eE σ rs b).map Sum.inr | _=>(eE σ rs a).map Sum.inl)
 | _,_=>none
def m6 {P:Program} (n:Nat) (fn:Func) (os:List Sh) (h:Hn P) (σ:Zt):Option (cu os):=ay h σ fun h σ=>match dm P n σ fn.results.toList with | some rs=>mU σ rs os h | none=>none
def fin {P:Program} (n:Nat) (fn:Func) (os:List Sh) (e:Exit) (h:Hn P) (σ:Zt):Option (cu os):=match e with
 | .normal=>m6 n fn os h σ
 | .ret=>m6 n fn os h σ
 | _=>none
def qk {P:Program} (n:Nat) (fn:Func) (c:Code) (inn:Sh) (os:List Sh) (h:Hn P) (x:TL inn.ts):Option (cu os):=match inn.un (TL.list inn.ts x) 0 with
 | some (vs,u)=>ay h ⟨fun _ => .any,vs,u.H,[],u.nx,false⟩ fun h σ=>exec (pL 4) n c h σ (fin n fn os)
 | none=>none
section
variable {P:Program} {E:En} {n:Nat} {m:List M} {K:Hp} {fr:Frz} {σ:Zt} {ρ:Sl1} {w:World}
theorem oY (hr:Rel E fr σ m K ρ w):∀ {l:List ResultVar} {rs:List SV},dm P n σ l=some rs→∃ us:List Value,SV.relL m K rs us∧l.length=us.length∧∀ (j:Nat) (r:ResultVar) (v:Value),l[j]? = some r→us[j]? = some v→fS P n (Hold E K (σ.atoms fr m)) ρ r v
 | [],rs,h=>by cases h; exact ⟨[],rfl,rfl,fun j r v h=>by simp at h⟩
 | .tmp t :: l,rs,h=>by
   unfold dm at h
   split at h
   . rename_i vs hvs
     cases h
     obtain ⟨us,h1,h2,h3⟩:=oY hr hvs
     refine ⟨ev n ρ (.tmp t) :: us,⟨_,us,rfl,hr.toPur.ev n (.tmp t),h1⟩,by simp [h2],fun j r v hj hv=>?_⟩
     cases j with
     | zero=>simp at hj hv; subst hj hv; rfl
     | succ j=>exact h3 j r v (by simpa using hj) (by simpa using hv)
   . cases h
 | .cell a ty :: l,rs,h=>by
   unfold dm at h
   split at h
   . rename_i i o e
     split at h
     . rename_i q hq
       split at h
       . rename_i v vs hv hvs
         cases h
         obtain ⟨us,h1,h2,h3⟩:=oY hr hvs
         obtain ⟨x,hx,hmem⟩:=aZ hq
         obtain rfl:=cE hx
         obtain ⟨b,ws,g1,g2,g3⟩:=hr.cls.blk hmem
         obtain ⟨u,g4,g5⟩:=jF (P:=P) (o0:=0) hv g2 (fun j u hu=>by rw [Nat.zero_add]; exact g3 j u hu)
         rw [Nat.zero_add] at g4
         have hev:=hr.toPur.ev n (.tmp a)
         rw [e] at hev
         obtain ⟨b',q1,q2⟩:=hev
         rw [g1] at q1; cases q1
         refine ⟨u :: us,⟨_,us,rfl,g5,h1⟩,by simp [h2],fun j r v hj hv=>?_⟩
         cases j with
         | zero=>simp at hj hv; subst hj hv; exact ⟨b,o,q2,g4⟩
         | succ j=>exact h3 j r v (by simpa using hj) (by simpa using hv)
       . cases h
     . cases h
   . cases h
theorem sX {C:World→Prop} {w:World} (hw:C w):∀ {l:List ResultVar} {us:List Value},l.length=us.length→(∀ (j:Nat) (r:ResultVar) (v:Value),l[j]? = some r→us[j]? = some v→fS P n C ρ r v)→(l.mapM (rvS (frm n ρ))).run P w = .ok us w
 | [],us,h,_=>by
   obtain rfl:us=[]:=List.length_eq_zero_iff.1 h.symm
   simp
 | r :: l,us,h,hr=>by
   cases us with
   | nil=>cases h
   | cons u us =>
     have h1:=lV (hr 0 r u rfl rfl) hw
     have h2:=sX hw (l:=l) (us:=us) (by simpa using h) (fun j r v hj hv=>hr (j + 1) r v (by simpa using hj) (by simpa using hv))
     simp [List.mapM_cons,h1,h2]
def kd:List Value→Value
 | [v]=>v
 | vs => .tuple vs.toArray
theorem zT {C:World→Prop} {w:World} (hw:C w) {fn:Func} {us:List Value} (hl:fn.results.toList.length=us.length) (h:∀ (j:Nat) (r:ResultVar) (v:Value),fn.results.toList[j]? = some r→us[j]? = some v→fS P n C ρ r v):(results fn (frm n ρ)).run P w = .ok (kd us) w:=by
 have h1:=sX hw hl h
 rw [n7]
 simp only [Array.mapM_eq_mapM_toList]
 simp only [Sem.run_bind,Sem.run_map,h1,Result.andThen_ok,Sem.run_pure]
 match us with
 | []=>rfl
 | [u]=>rfl
 | u :: v :: r =>
   rw [dif_neg (by simp)]
   rfl
theorem yZ {rs:List SV} {us:List Value} (h:SV.relL m K rs us) (hne:rs≠[]):SV.rel m K (vl rs) (kd us):=by
 match rs,us,h with
 | [],_,_=>exact absurd rfl hne
 | [v],us,h =>
   obtain ⟨u,q,rfl,h1,h2⟩:=aC h
   obtain rfl:=aI h2
   exact h1
 | v :: v2 :: r,us,h =>
   obtain ⟨u,q,rfl,h1,h2⟩:=aC h
   obtain ⟨u2,q2,rfl,h3,h4⟩:=aC h2
   exact ⟨_,rfl,u,_,rfl,h1,u2,q2,rfl,h3,h4⟩
theorem pe {rs:List SV} {us:List Value} {o:Sh} {x:TL o.ts} {K0:Hp} {m0:List M} (h:eE σ rs o=some x) (hr:Rel E fr σ m K ρ w) (hrel:SV.relL m K rs us) (hm:m0 <+: m) (ho:bf o.bl m0.length=true) (hF:σ.Hf=[]) :
   ∃ vs' u' m',o.un (TL.list o.ts x) m0.length=some (vs',u')∧m0 <+: m'∧m'.length=u'.nx∧(∀ a∈u'.H,HA.ok m' K a)∧hZ m' K vs' (kd us)∧Sep E K (u'.H.map (HA.conc m')++fr.F) w:=by
 unfold eE at h
 replace h:=ai h; obtain ⟨hs,h⟩:=h
 split at h
 . rename_i g hg
   obtain ⟨vs,u,ms,e1,e2,e3,e4,e5,e6,e7,e8⟩:=Sh.get_un hg hr.okH hm ho
   rw [TL.of_list h]
   refine ⟨vs,u,m0++ms,e1,ax _ _,e2,e4,?_,?_⟩
   . split at hs
     . rename_i hsl
       rw [hsl] at e3
       obtain rfl:vs=[]:=e3
       obtain rfl:=aI hrel
       rfl
     . rename_i v r p hsl
       rw [hsl] at e3
       obtain ⟨sv,q,rfl,g1,g2⟩:=e3
       obtain rfl:q=[]:=g2
       exact g1 _ (yZ hrel (by simp))
     . cases hs
   . have:=e6 E _ w hr.toSep
     have h2:σ.fz fr=fr.F:=by unfold Zt.fz; rw [hF]; rfl
     rw [h2] at this
     have h3:Sep E K (g.H.map (HA.conc m)++(u.H.map (HA.conc (m0++ms))++fr.F)) w:=Sep.perm (gY _ _ _) this
     exact Sep.drops h3
 . cases h
theorem Ai {rs:List SV} {us:List Value} {m0:List M} (hr:Rel E fr σ m K ρ w) (hrel:SV.relL m K rs us) (hm:m0 <+: m) (hF:σ.Hf=[]):∀ {os:List Sh} {h0:Hn P} {r:cu os},(∀ o∈os,bf o.bl m0.length=true)→mU σ rs os h0=some r →
   ∃ vs' u' m',(cR os r).1.un (cR os r).2 m0.length=some (vs',u')∧m0 <+: m'∧m'.length=u'.nx∧(∀ a∈u'.H,HA.ok m' K a)∧hZ m' K vs' (kd us)∧Sep E K (u'.H.map (HA.conc m')++fr.F) w
 | [],h0,r,_,h=>Empty.elim r
 | [a],h0,r,ho,h=>pe (K0:=K) (show eE σ rs a=some r from h) hr hrel hm (ho a (by simp)) hF
 | [a,b],h0,r,ho,h=>by
   have key:(eE σ rs b).map Sum.inr=some r∨(eE σ rs a).map Sum.inl=some r:=by
     cases h0 <;> first | exact .inl h | exact .inr h
   clear h
   rcases key with h | h
   . rw [Option.map_eq_some_iff] at h
     obtain ⟨x,h,rfl⟩:=h
     exact pe (K0:=K) h hr hrel hm (ho b (by simp)) hF
   . rw [Option.map_eq_some_iff] at h
     obtain ⟨x,h,rfl⟩:=h
     exact pe (K0:=K) h hr hrel hm (ho a (by simp)) hF
 | a :: b :: c :: os,h0,r,_,h=>by cases h
theorem rQ:∀ {sl:List (Nat×Kd)} {vs:List (Nat×SV)} {us:List Value} {j N:Nat},slN j sl N=true→vs.map (·.1)=sl.map (·.1)→slR m K vs us→∀ i sv,ar vs i=some sv→∃ k u,i=j + k∧us[k]? = some u∧SV.rel m K sv u
 | [],vs,us,j,N,h1,h2,h3,i,sv,hl=>by
   have:vs=[]:=by cases vs with | nil=>rfl | cons a b=>cases h2
   subst this; cases hl
 | p :: sl,vs,us,j,N,h1,h2,h3,i,sv,hl=>by
   cases vs with
   | nil=>cases h2
   | cons q vs =>
     simp only [List.map_cons,List.cons.injEq] at h2
     simp only [slN,Bool.and_eq_true] at h1
     have hj:=Nat.eq_of_beq_eq_true h1.1
     obtain ⟨u,r,rfl,g1,g2⟩:=h3
     change (bif Nat.beq q.1 i then some q.2 else ar vs i)=some sv at hl
     cases hb:Nat.beq q.1 i with
     | true =>
       rw [hb] at hl; cases hl
       have:=Nat.eq_of_beq_eq_true hb
       exact ⟨0,u,by rw [← this,h2.1,hj]; rfl,rfl,g1⟩
     | false =>
       rw [hb] at hl
       obtain ⟨k,u',e1,e2,e3⟩:=rQ h1.2 h2.2 g2 i sv hl
       exact ⟨k + 1,u',by omega,by simpa using e2,e3⟩
theorem sM {bi:List Nat}:∀ {sl:List (Nat×Kd)} {u u':Un} {vs:List (Nat×SV)},unS bi sl u=some (vs,u')→vs.map (·.1)=sl.map (·.1)
 | [],u,u',vs,h=>by cases h; rfl
 | p :: sl,u,u',vs,h=>by
   unfold unS at h
   split at h
   . split at h
     . rename_i h2
       cases h
       simp [sM h2]
     . cases h
   . cases h
theorem Ag {s:Sh} {ds:List Dat} {nx:Nat} {vs:List (Nat×SV)} {u:Un} (h:s.un ds nx=some (vs,u)):vs.map (·.1)=s.sl.map (·.1):=by
 unfold Sh.un at h
 replace h:=(ai h).2
 split at h
 split at h
 . rename_i h1
   split at h
   . cases h; exact sM h1
   . cases h
 . cases h
theorem tq:∀ {vs:List (Nat×SV)} {us:List Value},slR m K vs us→us.length=vs.length
 | [],us,h=>by obtain rfl:us=[]:=h; rfl
 | p :: vs,us,⟨u,r,e,_,h⟩=>by subst e; simp [tq h]
end
section
variable {P:Program} {E:En} {n:Nat} {m:List M} {K:Hp} {fr:Frz} {σ:Zt} {ρ:Sl1} {w:World}
theorem pc {b:Bool}:∀ l:List ResultVar,dm P n ⟨σ.base,σ.top,σ.H,σ.Hf,σ.nx,b⟩ l=dm P n σ l
 | []=>rfl
 | .tmp t :: r=>by unfold dm; rw [pc r]; rfl
 | .cell a ty :: r=>by unfold dm; rw [pc r]; rfl
theorem zD {b:Bool} {rs:List SV}:∀ {os:List Sh} {h:Hn P},mU ⟨σ.base,σ.top,σ.H,σ.Hf,σ.nx,b⟩ rs os h=mU σ rs os h
 | [],h=>rfl
 | [a],h=>rfl
 | [a,b],h=>by cases h <;> rfl
 | a :: b :: c :: os,h=>rfl
end
section
variable {P:Program} {n:Nat}
theorem Bh {s:Spec} {fn:Func} {c:Code} (hf:P.funcs[s.f]? = some fn) (hb:fn.body=some c) (hn:fn.ntmps=n) (h:Hn P) (hc:(slN 0 s.inn.sl s.inn.sl.length&&Nat.ble s.inn.sl.length n)=true) (hold:∀ ds vs u,s.inn.un ds 0=some (vs,u)→∀ o∈s.outs,bf o.bl u.nx=true)
   (hex:∀ (x:TL s.inn.ts) r,s.fn x=some r→qk n fn c s.inn s.outs h x=some r):bI P s:=by
 intro x r hx vs u hu m K args hgk hm hok hsl E w F hs
 rw [Bool.and_eq_true] at hc
 obtain ⟨hc1,hc2⟩:=hc
 have hkeys:=Ag hu
 have hlen:args.toArray.size≤n:=by
   have h1:=tq hsl
   have h2:vs.length=s.inn.sl.length:=by have:=congrArg List.length hkeys; simpa using this
   simp only [List.size_toArray]
   have:=Nat.le_of_ble_eq_true hc2
   omega
 refine callsIn_wide.1 (callsIn_of_wp_marks (F:=Fence.wide) (n:=0) hf hb trivial ?_)
 rw [hn,oQ hlen]
 have hrun:=hex x r hx
 unfold qk at hrun
 rw [hu] at hrun
 simp only at hrun
 have hrel:Rel E.out0 ⟨m,K,dN args.toArray,fun _=>false,F,K⟩ ⟨fun _ => .any,vs,u.H,[],u.nx,false⟩ m K (dN args.toArray) w:=by
   refine ⟨⟨List.prefix_refl m,Hp.le_refl K,hm,fun e=>(by cases e),fun i=>trivial,fun i e=>rfl,fun i _ => .inr rfl,fun i sv hi=>?_,hok,fun a ha=>by simp at ha,MOk.nil hgk (Hp.le_refl K)⟩,?_⟩
   . obtain ⟨k,v,e1,e2,e3⟩:=rQ hc1 hkeys hsl i sv hi
     have:dN args.toArray i=v:=by
       show eA args.toArray i=v
       unfold eA
       rw [e1,Nat.zero_add]
       simp [e2]
     rw [this]; exact e3
   . exact hs.out0
 obtain ⟨hp,σp,mp,Kp,p1,p2,p3⟩:=aF h hrun hrel
 refine b6 (sw 4) c (cu s.outs) E.out0 ⟨m,K,dN args.toArray,fun _=>false,F,K⟩ (fun l e=>by cases e) hp σp (fin n fn s.outs) r mp Kp _ w _ p1 p3 (fun e h' σ' m' K' ρ' w' h1 h2 h3=>?_)
 have fini:m6 n fn s.outs h' σ'=some r→LeavesInM Fence.wide 0 P fn (act1 n ρ').tmps (fun e w'=>∃ v K' L',e = .returned v∧(∃ vs' u' m',(cR s.outs r).1.un (cR s.outs r).2 u.nx=some (vs',u')∧m <+: m'∧m'.length=u'.nx∧(∀ a∈u'.H,HA.ok m' K' a)∧hZ m' K' vs' v∧L'=u'.H.map (HA.conc m'))∧K.le K'∧Sep E K' (L'++F) w') (act1 n ρ').defers .returning w':=fun h3=>by
   unfold m6 at h3
   obtain ⟨h'',σ2,m2,K2,g1,g2,g3⟩:=aF h' h3 h1
   split at g1
   . rename_i rs hrs
     refine n8 ρ'.ds g3.mks g3.toSep (fun K3 w3 c1 c2 c3=>?_)
     have g4:=g3.unmark c1 c2 c2 c3
     rw [← pc (b:=false)] at hrs
     rw [← zD (b:=false)] at g1
     obtain ⟨us,q1,q2,q3⟩:=oY g4 hrs
     refine ⟨kd us,zT (ρ:=(⟨ρ'.f,[]⟩:Sl1)) g4.hold q2 q3,?_⟩
     obtain ⟨vs',u',m'',z1,z2,z3,z4,z5,z6⟩:=Ai (m0:=m) g4 q1 g4.hm (((p2.trans h2).trans g2).2) (fun o ho=>by rw [hm]; exact hold _ _ _ hu o ho) g1
     rw [hm] at z1
     exact ⟨_,K3,_,rfl,⟨vs',u',m'',z1,z2,z3,z4,z5,rfl⟩,g4.hK,z6.back⟩
   . cases g1
 cases e with
 | normal=>exact fini h3
 | ret=>exact fini h3
 | _=>cases h3
end
end
section
variable [BldA]
mutual
theorem mD {bi:List Nat}:∀ (k:Kd) {u u':Un} {v:SV},Kd.un bi k u=some (v,u')→u.nx≤u'.nx
 | .any,u,u',v,h=>by cases h; exact Nat.le_refl _
 | .dat t,u,u',v,h=>by unfold Kd.un at h; split at h <;> cases h; exact Nat.le_refl _
 | .nilp,u,u',v,h=>by cases h; exact Nat.le_refl _
 | .nils,u,u',v,h=>by cases h; exact Nat.le_refl _
 | .nilf,u,u',v,h=>by cases h; exact Nat.le_refl _
 | .ptr j o,u,u',v,h=>by unfold Kd.un at h; split at h <;> cases h; exact Nat.le_refl _
 | .own e t,u,u',v,h=>by unfold Kd.un at h; split at h <;> cases h; exact Nat.le_add_right _ _
 | .al j,u,u',v,h=>by unfold Kd.un at h; split at h <;> cases h; exact Nat.le_refl _
 | .fsl j m,u,u',v,h=>by unfold Kd.un at h; split at h <;> cases h; exact Nat.le_refl _
 | .agg ks,u,u',v,h=>by
   unfold Kd.un at h; split at h
   . cases h; exact jL ks (by assumption)
   . cases h
 | .tup ks,u,u',v,h=>by
   unfold Kd.un at h; split at h
   . cases h; exact jL ks (by assumption)
   . cases h
 | .fn f ks,u,u',v,h=>by
   unfold Kd.un at h; split at h
   . cases h; exact jL ks (by assumption)
   . cases h
 | .kat t o,u,u',v,h=>by
   unfold Kd.un at h; split at h
   . split at h
     . cases h; exact Nat.le_refl _
     . cases h
   . cases h
 | .ifc t k,u,u',v,h=>by
   unfold Kd.un at h; split at h
   . cases h; exact mD k (by assumption)
   . cases h
 | .lit w,u,u',v,h=>by cases h; exact Nat.le_refl _
 | .od o,u,u',v,h=>by
   unfold Kd.un at h
   replace h:=(ai h).2
   split at h
   . split at h
     . cases h; exact Nat.le_add_right _ _
     . cases h
   . cases h
 | .rp j,u,u',v,h=>by unfold Kd.un at h; split at h <;> cases h; exact Nat.le_refl _
 | .is j k,u,u',v,h=>by
   unfold Kd.un at h; split at h
   . split at h
     . cases h; exact mD k (by assumption)
     . cases h
   . cases h
theorem jL {bi:List Nat}:∀ (ks:List Kd) {u u':Un} {vs:List SV},Kd.unL bi ks u=some (vs,u')→u.nx≤u'.nx
 | [],u,u',vs,h=>by cases h; exact Nat.le_refl _
 | k :: ks,u,u',vs,h=>by
   unfold Kd.unL at h; split at h
   . rename_i h1
     split at h
     . rename_i h2; cases h; exact Nat.le_trans (mD k h1) (jL ks h2)
     . cases h
   . cases h
end
theorem uo {bi:List Nat}:∀ (sl:List (Nat×Kd)) {u u':Un} {vs:List (Nat×SV)},unS bi sl u=some (vs,u')→u.nx≤u'.nx
 | [],u,u',vs,h=>by cases h; exact Nat.le_refl _
 | p :: sl,u,u',vs,h=>by
   unfold unS at h; split at h
   . rename_i h1
     split at h
     . rename_i h2; cases h; exact Nat.le_trans (mD p.2 h1) (uo sl h2)
     . cases h
   . cases h
theorem uz {bi:List Nat}:∀ (bl:List Bk) (is:List Nat) {u u':Un},unB bi bl is u=some u'→u.nx≤u'.nx
 | [],[],u,u',h=>by cases h; exact Nat.le_refl _
 | [],i :: is,u,u',h=>by cases h
 | b :: bl,[],u,u',h=>by cases h
 | b :: bl,i :: is,u,u',h=>by
   unfold unB at h; split at h
   . rename_i u1 h1
     refine Nat.le_trans ?_ (uz bl is h)
     unfold eD at h1
     cases hn:b.nu with
     | true=>rw [hn] at h1; cases h1; exact Nat.le_refl _
     | false =>
       rw [hn] at h1; simp only [cond_false] at h1
       cases hlp:b.lp with
       | true=>rw [hlp] at h1; simp only [cond_true] at h1; cases h1; exact Nat.le_refl _
       | false =>
       rw [hlp] at h1; simp only [cond_false] at h1
       cases hr:b.rw with
       | some o =>
         rw [hr] at h1
         dsimp only at h1
         split at h1
         . split at h1
           . cases h1; exact Nat.le_succ _
           . cases h1
         . cases h1
       | none =>
       rw [hr] at h1
       dsimp only at h1
       cases hb:b.bu with
       | true =>
         rw [hb] at h1; simp only [cond_true] at h1
         split at h1 <;> cases h1
         exact Nat.le_refl _
       | false =>
         rw [hb] at h1; simp only [cond_false] at h1
         split at h1
         . rename_i h2
           cases h1
           exact Nat.le_trans (jL b.ks h2) (Nat.le_succ _)
         . cases h1
   . cases h
theorem tN:∀ (bl:List Bk) (nx:Nat),de bl=true→(aP bl nx).2=nx + bl.length
 | [],nx,_=>rfl
 | b :: bl,nx,h=>by
   simp only [de,Bool.and_eq_true] at h
   cases hb:b.old with
   | some i=>rw [hb] at h; cases h.1
   | none =>
     simp only [aP,hb,List.length_cons]
     rw [tN bl (nx + 1) h.2]
     omega
theorem Bi {s:Sh} {ds:List Dat} {vs:List (Nat×SV)} {u:Un} (h:s.un ds 0=some (vs,u)) (ho:de s.bl=true):s.bl.length≤u.nx:=by
 unfold Sh.un at h
 replace h:=(ai h).2
 have hn:=tN s.bl 0 ho
 split at h
 rename_i bi nx he
 rw [he] at hn
 simp only [Nat.zero_add] at hn
 split at h
 . rename_i h1
   split at h
   . rename_i h2
     cases h
     have:=uo s.sl h1
     have:=uz s.bl bi h2
     simp only at *
     omega
   . cases h
 . cases h
theorem sg:∀ (bl:List Bk) {a b:Nat},bf bl a=true→a≤b→bf bl b=true
 | [],a,b,h,hab=>rfl
 | x :: bl,a,b,h,hab=>by
   simp only [bf,Bool.and_eq_true] at h ⊢
   refine ⟨?_,sg bl h.2 hab⟩
   cases ho:x.old with
   | none=>rfl
   | some i =>
     have h1:=h.1
     rw [ho] at h1
     simp only [Nat.blt_eq] at h1 ⊢
     omega
def pG (fn:Func):Code:=match fn.body with | some c=>c | none => .skip
def uy (s:Spec) (fn:Func):Bool:=fn.body.isSome&&(slN 0 s.inn.sl s.inn.sl.length&&Nat.ble s.inn.sl.length fn.ntmps)&&(de s.inn.bl&&s.outs.all fun o=>bf o.bl s.inn.bl.length)
theorem ah {P:Program} {s:Spec} {fn:Func} (hf:P.funcs[s.f]? = some fn) (h:Hn P) (hc:uy s fn=true) (hex:(fun x=>qk fn.ntmps fn (pG fn) s.inn s.outs h x)=s.fn):bI P s:=by
 unfold uy at hc
 simp only [Bool.and_eq_true] at hc
 obtain ⟨⟨h1,h2,h2'⟩,h3,h4⟩:=hc
 have hb:fn.body=some (pG fn):=by
   unfold pG
   cases hbd:fn.body with
   | none=>rw [hbd] at h1; cases h1
   | some c=>rfl
 refine Bh hf hb rfl h (by rw [h2,h2']; rfl) (fun ds vs u hu o ho=>sg o.bl (List.all_eq_true.1 h4 o ho) (Bi hu h3)) (fun x r hx=>?_)
 rw [← hx]
 exact congrFun hex x
end
theorem A9 [BldA] {P:Program} {s:Spec} {W:World} (hs:bI P s) {x:TL s.inn.ts} {r:cu s.outs} (hr:s.fn x=some r) (hgk:BldA.gk (Hp.of W)) {vs:List (Nat×SV)} (hun:s.inn.un (TL.list _ x) 0=some (vs,⟨[],0,[],[]⟩))
   (hout:(cR s.outs r).1.un (cR s.outs r).2 0=some ([(0,.bool true)],⟨[],0,[],[]⟩)) {args:List Value} (hsl:slR [] (Hp.of W) vs args) :
   Calls P s.f args.toArray W fun e W'=>e = .returned (.bool true)∧Below W.heap.size W W':=by
 have h:=hs x r hr vs _ hun [] (Hp.of W) args hgk rfl (fun a ha=>by cases ha) hsl (En.of W) W [] (Sep.start W)
 refine h.mono fun e W' h=>?_
 obtain ⟨v,K',L',rfl,⟨vs',u',m',h1,_,_,_,h2,_⟩,h3,h4⟩:=h
 have h1:=h1.symm.trans hout
 cases h1
 obtain rfl:v = .bool true:=h2
 exact ⟨rfl,h4.below h3⟩
section
open Go.ChangeShapes Go.WideShapes Go.RowKit Go.Deep
namespace Tp
mutual
def heavy (P:Program):Tp→TypeId→Bool
 | .sl e,t=>match P.underlying t with | some (.slice e')=>decide (0 < P.bytesOf e')&&heavy P e e' | _=>false
 | .one a,t=>match P.underlying t with | some (.struct fs)=>(match fs.toList with | [f]=>heavy P a f.type | _=>false) | _=>false
 | .cons a r,t=>match P.underlying t with | some (.struct fs)=>(match fs.toList with | f :: fs=>heavy P a f.type&&heavyAll P r fs | []=>false) | _=>false
 | _,_=>true
def heavyAll (P:Program):Tp→List Field→Bool
 | .emp,[]=>true
 | .one a,[f]=>heavy P a f.type
 | .cons a r,f :: fs=>heavy P a f.type&&heavyAll P r fs
 | _,_=>false
end
def Fit:(t:Tp)→t.den→Prop
 | .sl e,l=>l.length≤140737488351232∧∀ x∈l,Fit e x
 | .one a,d=>Fit a d
 | .cons a r,d=>Fit a d.1∧Fit r d.2
 | _,_=>True
end Tp
theorem ye (b o m:Nat):(⟨b,o,none⟩:Addr).add m=⟨b,o + m,none⟩:=by
 unfold Addr.add; split
 . rename_i h; subst h; rfl
 . rfl
section
variable {H:Type} {P:Program} {p:Nat→Bool}
theorem jV:∀ (ts:List TypeId) (ds:List (DataW H)),(DataW.weightsEach P ts ds).all p=true→∀ (i:Nat) t d,ts[i]? = some t→ds[i]? = some d→(d.weights P t).all p=true
 | [],ds,h,i,t,d,ht,hd=>by simp at ht
 | t :: ts,[],h,i,t',d,ht,hd=>by simp at hd
 | t :: ts,d :: ds,h,0,t',d',ht,hd=>by
   simp at ht hd; subst ht; subst hd
   unfold DataW.weightsEach at h
   rw [List.all_append,Bool.and_eq_true] at h; exact h.1
 | t :: ts,d :: ds,h,i + 1,t',d',ht,hd=>by
   unfold DataW.weightsEach at h
   rw [List.all_append,Bool.and_eq_true] at h
   exact jV ts ds h.2 i t' d' (by simpa using ht) (by simpa using hd)
theorem vr {e:TypeId}:∀ (ds:List (DataW H)),(DataW.weightsAll P e ds).all p=true→∀ d∈ds,(d.weights P e).all p=true
 | [],h,d,hd=>by cases hd
 | d :: ds,h,d',hd=>by
   unfold DataW.weightsAll at h
   rw [List.all_append,Bool.and_eq_true] at h
   rcases List.mem_cons.1 hd with rfl | hd
   . exact h.1
   . exact vr ds h.2 d' hd
end
section
variable {H:Type} {enc:TypeId×Value→H} {P:Program} {W:World} {base:Nat} {spare:Nat→Bool} {held:Bool}
mutual
theorem Tp.fit:∀ (ty:Tp) {t:TypeId} {fuel:Nat} {cs:List Value} {x:DataW H×List MemPlace} {d:ty.den},ty.has P t=true→ty.heavy P t=true→DataW.trod enc P W base spare held fuel t cs=some x→Is (Hp.of W) ty cs d→(x.1.weights P t).all (·≤reachBytes)=true→ty.Fit d
 | .int k,_,_,_,_,_,_,_,_,_,_=>trivial
 | .bool,_,_,_,_,_,_,_,_,_,_=>trivial
 | .str,_,_,_,_,_,_,_,_,_,_=>trivial
 | .ptr e,_,_,_,_,_,_,_,_,_,_=>trivial
 | .emp,_,_,_,_,_,_,_,_,_,_=>trivial
 | .sl e,t,fuel,cs,x,d,hh,hv,h,hi,hw=>by
   unfold Tp.has at hh
   unfold Tp.heavy at hv
   split at hh
   . rename_i e' ht
     rw [ht] at hv
     simp only [Bool.and_eq_true,decide_eq_true_eq] at hh hv
     obtain ⟨⟨he,hc⟩,h0⟩:=hh
     obtain ⟨hb0,hv⟩:=hv
     simp only [Is] at hi
     obtain ⟨ad,cp,hcs,hl1,hl2,hi⟩:=hi
     rcases open_slice ht h with ⟨rfl,rfl⟩ | ⟨a,len,cap,m,n,D,Pl,rfl,hb,hl,hm,hmm,rfl,hx⟩
     . simp only [List.cons.injEq,Value.slice.injEq,and_true] at hcs
       obtain ⟨_,hz,_⟩:=hcs
       obtain rfl:d=[]:=List.length_eq_zero_iff.1 hz.symm
       exact ⟨by simp,fun x hx=>by simp at hx⟩
     . simp only [List.cons.injEq,Value.slice.injEq,and_true] at hcs
       obtain ⟨rfl,hlen,rfl⟩:=hcs
       unfold DataW.weights at hw
       rw [ht] at hw
       simp only [List.all_cons,List.all_append,Bool.and_eq_true,decide_eq_true_eq,List.length_map,List.length_range] at hw
       obtain ⟨hw1,hw2,hw3⟩:=hw
       have hle:len≤(len + (m - len)) * P.bytesOf e':=by
         have:(len + (m - len)) * 1≤(len + (m - len)) * P.bytesOf e':=Nat.mul_le_mul_left _ hb0
         omega
       have hr:reachBytes=140737488351232:=by decide
       refine ⟨by omega,fun y hy=>?_⟩
       obtain ⟨k,hk,rfl⟩:=List.getElem_of_mem hy
       have hkl:k < len:=by omega
       obtain ⟨b,o,hb',hes⟩:=hi (fun hn=>by rw [hn] at hk; simp at hk)
       simp only [Option.some.injEq] at hb'
       subst hb'
       obtain ⟨es,hel,hie,hce⟩:=hes k d[k] (List.getElem?_eq_getElem hk)
       obtain ⟨cs',hcs',ht'⟩:=hx k (by rw [hmm]; split <;> omega)
       rw [hc] at hcs'
       obtain ⟨_,hlen',hcell⟩:=World.cells?_some hcs'
       have e:cs'=es:=by
         apply List.ext_getElem?
         intro j
         by_cases hj:j < e.size
         . rw [← hcell j hj]
           have h1:=hce j hj
           rw [List.getElem?_eq_getElem (by omega)] at h1 ⊢
           have h2:=cy (w:=W) (Hp.le_refl _) h1
           rw [← h2,Go.Deep.add_add,ye]
           congr 2; omega
         . rw [List.getElem?_eq_none (by omega),List.getElem?_eq_none (by omega)]
       subst e
       exact Tp.fit e he hv ht' hie (vr _ hw2 _ (List.mem_map.2 ⟨k,List.mem_range.2 hkl,rfl⟩))
   . simp at hh
 | .one a,t,fuel,cs,x,d,hh,hv,h,hi,hw=>by
   unfold Tp.has at hh
   unfold Tp.heavy at hv
   split at hh
   . rename_i fs ht
     rw [ht] at hv
     simp only [Bool.and_eq_true,decide_eq_true_eq] at hh
     obtain ⟨hh,hC⟩:=hh
     split at hh
     . rename_i f hfs
       simp only [hfs] at hv
       simp only [Bool.and_eq_true,decide_eq_true_eq] at hh hv
       obtain ⟨⟨h1,h2⟩,h3⟩:=hh
       obtain ⟨xs,n,_,rfl,hlen,hxl,hf⟩:=DataW.trod_struct ht h
       have hsz:fs.size=1:=by rw [← Array.length_toList,hfs]; simp
       have hget:∀ i,fs[i]? = [f][i]?:=fun i=>by rw [← hfs,Array.getElem?_toList]
       have t0:=hf 0 f (by rw [hget]; rfl)
       rw [h1,h2,List.drop_zero,List.getElem?_eq_getElem (by omega),List.take_of_length_le (by omega)] at t0
       unfold DataW.weights at hw
       simp only [ht,hfs] at hw
       exact Tp.fit a h3 hv t0 hi (jV _ _ hw 0 _ _ rfl (by simp [List.getElem?_eq_getElem (show 0 < xs.length by omega)]))
     . simp at hh
   . simp at hh
 | .cons a r,t,fuel,cs,x,d,hh,hv,h,hi,hw=>by
   unfold Tp.has at hh
   unfold Tp.heavy at hv
   split at hh
   . rename_i fs ht
     rw [ht] at hv
     simp only [Bool.and_eq_true,decide_eq_true_eq] at hh
     obtain ⟨hh,hC⟩:=hh
     split at hh
     . rename_i f fs' hfs
       simp only [hfs] at hv
       simp only [Bool.and_eq_true,decide_eq_true_eq] at hh hv
       obtain ⟨⟨⟨h1,h2⟩,h3⟩,h4⟩:=hh
       obtain ⟨xs,n,_,rfl,hlen,hxl,hf⟩:=DataW.trod_struct ht h
       have hsz:fs.size=fs'.length + 1:=by rw [← Array.length_toList,hfs]; simp
       have hget:∀ i,fs[i]? = (f :: fs')[i]?:=fun i=>by rw [← hfs,Array.getElem?_toList]
       have t0:=hf 0 f (by rw [hget]; rfl)
       rw [h1,h2,List.drop_zero,List.getElem?_eq_getElem (by omega)] at t0
       unfold DataW.weights at hw
       simp only [ht,hfs] at hw
       simp only [Is] at hi
       obtain ⟨c1,c2,rfl,hl1,hi1,hi2⟩:=hi
       rw [List.take_left' hl1] at t0
       refine ⟨Tp.fit a h3 hv.1 t0 hi1 (jV _ _ hw 0 _ _ rfl (by simp [List.getElem?_eq_getElem (show 0 < xs.length by omega)])),?_⟩
       refine Tp.fitAll a.size r fs' (cs:=c2) (all:=c1++c2) h4 hv.2 (fun i g hg=>?_) (by rw [List.drop_left' hl1]) hi2
       have t1:=hf (i + 1) g (by rw [hget]; exact hg)
       have hi':i < fs'.length:=(List.getElem?_eq_some_iff.1 hg).1
       rw [List.getElem?_eq_getElem (by omega)] at t1
       exact ⟨n,_,t1,jV _ _ hw (i + 1) _ _ (by simp [hg]) (by simp [List.getElem?_eq_getElem (show i + 1 < xs.length by omega)])⟩
     . simp at hh
   . simp at hh
theorem Tp.fitAll:∀ (o:Nat) (ty:Tp) (fs:List Field) {cs all:List Value} {d:ty.den},ty.hasAll P o fs=true→ty.heavyAll P fs=true →
   (∀ (i:Nat) (f:Field),fs[i]? = some f→∃ n x,DataW.trod enc P W base spare held n f.type ((all.drop f.offset).take (P.cellsOf f.type))=some x∧(x.1.weights P f.type).all (·≤reachBytes)=true)→cs=all.drop o→Is (Hp.of W) ty cs d→ty.Fit d
 | o,.emp,[],cs,all,d,hh,hv,hf,hc,hi=>trivial
 | o,.one a,[f],cs,all,d,hh,hv,hf,hc,hi=>by
   unfold Tp.hasAll at hh
   unfold Tp.heavyAll at hv
   simp only [Bool.and_eq_true,decide_eq_true_eq] at hh
   obtain ⟨⟨h1,h2⟩,h3⟩:=hh
   obtain ⟨n,x,t0,w0⟩:=hf 0 f rfl
   have hl:=Is.len (t := .one a) hi
   rw [h1,h2,← hc,List.take_of_length_le (by rw [hl]; exact Nat.le_refl _)] at t0
   exact Tp.fit a h3 hv t0 hi w0
 | o,.cons a r,f :: fs,cs,all,d,hh,hv,hf,hc,hi=>by
   unfold Tp.hasAll at hh
   unfold Tp.heavyAll at hv
   simp only [Bool.and_eq_true,decide_eq_true_eq] at hh hv
   obtain ⟨⟨⟨h1,h2⟩,h3⟩,h4⟩:=hh
   obtain ⟨n,x,t0,w0⟩:=hf 0 f rfl
   simp only [Is] at hi
   obtain ⟨c1,c2,rfl,hl1,hi1,hi2⟩:=hi
   rw [h1,h2,← hc,List.take_left' hl1] at t0
   refine ⟨Tp.fit a h3 hv.1 t0 hi1 w0,Tp.fitAll (o + a.size) r fs (cs:=c2) (all:=all) h4 hv.2 (fun i g hg=>hf (i + 1) g hg) (by rw [← List.drop_drop,← hc,List.drop_left' hl1]) hi2⟩
 | _,.int _,_,_,_,_,hh,_,_,_,_=>by simp [Tp.hasAll] at hh
 | _,.bool,_,_,_,_,hh,_,_,_,_=>by simp [Tp.hasAll] at hh
 | _,.str,_,_,_,_,hh,_,_,_,_=>by simp [Tp.hasAll] at hh
 | _,.sl _,_,_,_,_,hh,_,_,_,_=>by simp [Tp.hasAll] at hh
 | _,.ptr _,_,_,_,_,hh,_,_,_,_=>by simp [Tp.hasAll] at hh
 | _,.emp,_ :: _,_,_,_,hh,_,_,_,_=>by simp [Tp.hasAll] at hh
 | _,.one _,[],_,_,_,hh,_,_,_,_=>by simp [Tp.hasAll] at hh
 | _,.one _,_ :: _ :: _,_,_,_,hh,_,_,_,_=>by simp [Tp.hasAll] at hh
 | _,.cons _ _,[],_,_,_,hh,_,_,_,_=>by simp [Tp.hasAll] at hh
end
theorem Tp.argFit (ty:Tp) {r:Reach} {b:Nat} {t:TypeId} {v:Value} {d:DataW H} {p:List MemPlace} {x:ty.den} (hh:ty.has P t=true) (hv:ty.heavy P t=true) (h:DataW.Trod enc P W base spare held t v d p) (hx:IsV (Hp.of W) ty v x) (hw:(d.weights P t).all (·≤reachBytes)=true):ty.Fit x:=by
 obtain ⟨f,hf⟩:=h
 cases ty with
 | int k=>trivial
 | bool=>trivial
 | str=>trivial
 | ptr e=>trivial
 | emp=>trivial
 | sl e =>
   obtain ⟨ad,cp,rfl⟩:=Is.slv hx
   exact Tp.fit (.sl e) hh hv hf hx hw
 | one a =>
   obtain ⟨cs,rfl,hi⟩:=hx
   exact Tp.fit (.one a) hh hv (show DataW.trod enc P W base spare held f t cs=some (d,p) from hf) hi hw
 | cons a q =>
   obtain ⟨cs,rfl,hi⟩:=hx
   exact Tp.fit (.cons a q) hh hv (show DataW.trod enc P W base spare held f t cs=some (d,p) from hf) hi hw
end
end
set_option maxRecDepth 40000
section
section
variable {P:Program} {K:Hp}
theorem Tr.exA {f:FuncId} {args:Array Value} {α:Type} {A:α→ab} {L:List ab} {R:Value→Hp→List ab→Prop} (h:∀ x,Tr P f args K (A x :: L) R):Tr P f args K (Go.Proofs.YteciehjlefldmaaGreatDoor.exA A :: L) R:=fun E w F hs=>by
 obtain ⟨x,hx⟩:=Sep.open hs
 exact h x E w F hx
theorem Tr.star {f:FuncId} {args:Array Value} {A B:ab} {L:List ab} {R:Value→Hp→List ab→Prop} (h:Tr P f args K (A :: B :: L) R):Tr P f args K (Go.Proofs.YteciehjlefldmaaGreatDoor.star A B :: L) R:=fun E w F hs=>h E w F (Sep.split hs)
end
def bl (l:List UInt8):List Int:=l.map fun x=>(x.toNat:Int)
theorem up (a b:List UInt8):bl (a++b)=bl a++bl b:=by simp [bl]
theorem mg (l:List UInt8):(bl l).length=l.length:=by simp [bl]
def wrB (l:List UInt8) (c:Int):Option (List UInt8):=if 0≤c∧c < 256 then app l [UInt8.ofNat c.toNat] else none
theorem yB {l r:List UInt8} {c:Int} (h:wrB l c=some r):app (bl l) [c]=some (bl r):=by
 unfold wrB at h; split at h
 . rename_i hc
   obtain ⟨h1,rfl⟩:=ec h
   rw [aj (by rw [mg]; simpa using h1),up]
   congr 2
   simp [bl]
   omega
 . cases h
def wrS (l s:List UInt8):Option (List UInt8):=app l s
def Bld (b:Nat) (l:List UInt8):ab:=Go.Proofs.YteciehjlefldmaaGreatDoor.exA fun a:{ a:Value // a = .pointer none∨a = .pointer (some ⟨b,0,none⟩) }=>Go.Proofs.YteciehjlefldmaaGreatDoor.exA fun v:Value=>Go.Proofs.YteciehjlefldmaaGreatDoor.star (Cl b 87 [a.1,v]) (Row Hp.nil 5 (.int .u8) v (bl l))
theorem Bld.make {E:En} {K:Hp} {L:List ab} {w:World} {b:Nat} {l:List UInt8} {a v:Value} (ha:a = .pointer none∨a = .pointer (some ⟨b,0,none⟩)) (h:Sep E K (Cl b 87 [a,v] :: Row Hp.nil 5 (.int .u8) v (bl l) :: L) w):Sep E K (Bld b l :: L) w :=
 Sep.close (A:=fun a:{ a:Value // a = .pointer none∨a = .pointer (some ⟨b,0,none⟩) }=>Go.Proofs.YteciehjlefldmaaGreatDoor.exA fun v:Value=>Go.Proofs.YteciehjlefldmaaGreatDoor.star (Cl b 87 [a.1,v]) (Row Hp.nil 5 (.int .u8) v (bl l))) ⟨a,ha⟩ (Sep.close v (Sep.join h))
theorem Bld.fresh {E:En} {K:Hp} {L:List ab} {w:World} {b:Nat} (h:Sep E K (Cl b 87 [.pointer none,.slice none 0 0] :: L) w):Sep E K (Bld b [] :: L) w :=
 Bld.make (.inl rfl) (Sep.swap (Sep.rowNil h))
set_option maxHeartbeats 400000 in
theorem wu (b:Nat) (v:Value) (w:World) (hbk:w.heap[b]? = some (.cells #[.pointer none,v] 87 (0,0))) :
   Calls Tryz.prog 60 #[.pointer (some ⟨b,0,none⟩)] w fun e w'=>e = .returned (.tuple #[])∧w'=w.setCell ⟨b,0,none⟩ (.pointer (some ⟨b,0,none⟩)):=by
 have c0:w.cell? ⟨b,0,none⟩=some (.pointer none):=by simp [World.cell?,hbk]
 have f0:w.frozen? ⟨b,0,none⟩=false:=Lib.frozen_of_heap hbk 0
 have S:w.shape? b=some (87,2):=by simp [World.shape?,hbk]
 clear hbk
 obtain ⟨j,hj,hjs⟩:=Option.map_eq_some_iff.1 (show (Tryz.prog.info? 87).map (·.size)=some 2 by kernel_rfl)
 go_enter Tryz.func60,Tryz.ntmps60
 go_wp2
 rw [Lib.run_to_unsafe w ⟨b,0,none⟩ Tryz.underlying85 Tryz.underlying130 hj (by rw [hjs]; decide) S (Nat.zero_lt_succ 1)]
 simp only [Result.andThen]
 rw [Oper.upon_value]
 go_wp2
 rw [run_callFunc_extern Tryz.func79 (by kernel_rfl) (by kernel_rfl) (by kernel_rfl) (e:=Extern.AbiNoEscape.same) (by kernel_rfl)]
 rw [Lib.run_noEscape]
 simp only [Result.andThen]
 rw [Oper.upon_value]
 go_wp2
 rw [Lib.run_from_unsafe w ⟨b,0,none⟩ Tryz.underlying130 Tryz.underlying85 hj S (by kernel_rfl)]
 simp only [Result.andThen]
 rw [Oper.upon_value]
 go_wp2
 go_end0
 exact ⟨rfl,rfl⟩
theorem wb (b:Nat) (v:Value) (w:World) (hbk:w.heap[b]? = some (.cells #[.pointer (some ⟨b,0,none⟩),v] 87 (0,0))) :
   Calls Tryz.prog 60 #[.pointer (some ⟨b,0,none⟩)] w fun e w'=>e = .returned (.tuple #[])∧w'=w:=by
 have c0:w.cell? ⟨b,0,none⟩=some (.pointer (some ⟨b,0,none⟩)):=by simp [World.cell?,hbk]
 clear hbk
 obtain ⟨j,hj,hjs⟩:=Option.map_eq_some_iff.1 (show (Tryz.prog.info? 87).map (·.size)=some 2 by kernel_rfl)
 go_enter Tryz.func60,Tryz.ntmps60
 go_wp2
 rw [Lib.run_neq_ptr_same w _ Tryz.underlying85 hj]
 go_wp2
 go_end0
 exact ⟨rfl,rfl⟩
theorem wG {K:Hp} (b:Nat) (a v:Value) (ha:a = .pointer none∨a = .pointer (some ⟨b,0,none⟩)):Tr Tryz.prog 60 #[.pointer (some ⟨b,0,none⟩)] K [Cl b 87 [a,v]] (fun u K' L'=>(.tuple #[]=u∧L'=[Cl b 87 [.pointer (some ⟨b,0,none⟩),v]])∧K=K'):=fun E w F hs=>by
 have hc:=hs.cl
 rcases ha with rfl | rfl
 . refine (wu b v w hc).mono fun e w' ⟨h1,h2⟩=>?_
   subst h1; subst h2
   exact ⟨_,K,_,rfl,⟨⟨rfl,rfl⟩,rfl⟩,Hp.le_refl K,Sep.setCell hs 0 _⟩
 . refine (wb b v w hc).mono fun e w' ⟨h1,h2⟩=>?_
   subst h1; subst h2
   exact ⟨_,K,_,rfl,⟨⟨rfl,rfl⟩,rfl⟩,Hp.le_refl K,hs⟩
theorem pV:Inf Tryz.prog 5 (.int .u8 0) 1 1:=by unfold Inf; kernel_rfl
theorem uR:(Tryz.prog.info? 80).map (·.size)=some 1:=by kernel_rfl
theorem mP:Tryz.prog.cellsOf 80≠0:=by decide +kernel
theorem uP:b9 Tryz.prog 80=true:=by kernel_rfl
theorem qR {K:Hp} {pba:Nat} {a0 v:Value} {l:List Int} (ha:a0 = .pointer none∨a0 = .pointer (some ⟨pba,0,none⟩)):Tr Tryz.prog 60 #[.pointer (some ⟨pba,0,none⟩)] K [Cl pba 87 [a0,v],Row Hp.nil 5 (.int .u8) v l] (fun u K' L'=>(.tuple #[]=u∧L'=[Cl pba 87 [.pointer (some ⟨pba,0,none⟩),v],Row Hp.nil 5 (.int .u8) v l])∧K=K'):=fun E w F hs =>
 (wG pba a0 v ha E w (Row Hp.nil 5 (.int .u8) v l :: F) hs).mono fun e w' ⟨u,K',L',h1,⟨⟨h2,h3⟩,h4⟩,h5,h6⟩=>by
   subst h3
   exact ⟨u,K',_,h1,⟨⟨h2,rfl⟩,h4⟩,h5,h6⟩
set_option maxRecDepth 100000 in
theorem wx {K:Hp} {pba:Nat} {a0:Value} {ad:Option Addr} {cp:Nat} {l z:List Int} {c:Int} (ha:a0 = .pointer none∨a0 = .pointer (some ⟨pba,0,none⟩)) (hz:Go.Proofs.YteciehjlefldmaaGreatDoor.app l [c]=some z) :
   Tr Tryz.prog 78 #[.pointer (some ⟨pba,0,none⟩),.int .u8 c] K [Cl pba 87 [a0,.slice ad l.length cp],Row Hp.nil 5 (.int .u8) (.slice ad l.length cp) l] (fun v K' L'=>(∃ (ad2:Option Addr) (cp2:Nat),.nilIface=v∧L'=[Cl pba 87 [.pointer (some ⟨pba,0,none⟩),.slice ad2 z.length cp2],Row Hp.nil 5 (.int .u8) (.slice ad2 z.length cp2) z])∧K=K'):=by
 refine Tr.k ?_
 refine Tr.of Tryz.func78 rfl Tryz.ntmps78 rfl (fun E F=>?_)
 refine CJ.seq ?_
 refine CJ.region ?_
 refine J.val (v := .nilIface) rfl rfl (V.as rfl) ?_
 refine J.nil ?_
 refine CJ.seq ?_
 refine CJ.region ?_
 refine J.val rfl rfl (V.mv rfl) ?_
 refine J.op rfl (A.call (L1:=[Cl pba 87 [a0,.slice ad l.length cp],Row Hp.nil 5 (.int .u8) (.slice ad l.length cp) l]) Tryz.call60 rfl (qR ha) rfl rfl) ?_
 rintro _ _ _ ⟨v23,_,rfl,⟨⟨rfl,rfl⟩,rfl⟩,_,rfl⟩
 refine J.nil ?_
 refine CJ.seq ?_
 refine CJ.region ?_
 refine J.val rfl rfl (V.mv rfl) ?_
 refine J.val rfl rfl (V.mv rfl) ?_
 refine J.val rfl rfl (V.nck rfl) ?_
 refine J.val rfl rfl (V.fad Tryz.underlying87 rfl mP rfl) ?_
 refine J.val (v := .slice ad l.length cp) rfl rfl (V.ld rfl (Ld.sc uP (Rd.cl 0 rfl rfl))) ?_
 refine J.val (v := .int .u8 c) rfl rfl (V.mv rfl) ?_
 refine J.op rfl (A.lit (K0:=Hp.nil) (ty:=(.int .u8)) (xs:=([c]:List Int)) Tryz.underlying80 pV rfl (by decide) rfl rfl rfl ⟨_,_,rfl,rfl,rfl⟩ rfl (by decide)) ?_
 rintro _ _ _ ⟨b27,rfl,rfl,rfl⟩
 refine J.front 2 rfl ?_
 refine J.front 1 rfl ?_
 refine J.front 1 rfl ?_
 refine J.op rfl (A.appR (Kr:=Hp.nil) Tryz.underlying80 pV rfl rfl (by decide) (by decide) rfl rfl (Els.flat rfl) (Els.flat rfl) hz) ?_
 rintro _ _ _ ⟨v32,rfl,rfl,rfl⟩
 refine J.wit Row.form ?_
 rintro ⟨ad33,cp34,rfl,_,_,hn35⟩
 refine J.val rfl rfl (V.nck rfl) ?_
 refine J.val rfl rfl (V.fad Tryz.underlying87 rfl mP rfl) ?_
 refine J.front 1 rfl ?_
 refine J.op rfl (A.store1 (v := .slice ad33 z.length cp34) (cs':=[.pointer (some ⟨pba,0,none⟩),.slice ad33 z.length cp34]) uR rfl rfl rfl rfl rfl rfl) ?_
 rintro _ _ _ ⟨rfl,rfl,rfl⟩
 refine J.nil ?_
 refine CJ.seq ?_
 refine CJ.region ?_
 refine J.val (v := .nilIface) rfl rfl (V.as rfl) ?_
 refine J.nil ?_
 refine CJ.ret ?_
 exact ⟨_,[Cl pba 87 [.pointer (some ⟨pba,0,none⟩),.slice ad33 z.length cp34],Row Hp.nil 5 (.int .u8) (.slice ad33 z.length cp34) z],Res.one rfl rfl,⟨ad33,cp34,rfl,rfl⟩,(Hp.le_refl _),fun w hs=>hs⟩
theorem wD {K:Hp} {pb:Nat} {l:List UInt8} {c:Int} {r:List UInt8} (h:wrB l c=some r) :
   Tr Tryz.prog 78 #[.pointer (some ⟨pb,0,none⟩),.int .u8 c] K [Bld pb l] (fun v K' L'=>(∃ (l1:List UInt8),l1=r ∧ .nilIface=v∧L'=[Bld pb l1])∧K=K'):=by
 refine Tr.exA fun a=>Tr.exA fun v=>Tr.star fun E w F hs=>?_
 obtain ⟨ad,cp,rfl,-⟩:=Sep.fact (Sep.swap hs) Row.form
 refine (wx (K:=K) (pba:=pb) a.2 (yB h) E w F hs).mono fun e w' ⟨u,K',L',h1,⟨⟨ad2,cp2,h2,h3⟩,h4⟩,h5,h6⟩=>?_
 subst h3
 exact ⟨u,K',[Bld pb r],h1,⟨⟨r,rfl,h2,rfl⟩,h4⟩,h5,Bld.make (.inr rfl) h6⟩
set_option maxRecDepth 100000 in
theorem vT {K:Hp} {pba:Nat} {a0:Value} {ad:Option Addr} {cp:Nat} {l z:List Int} {s:List UInt8} (ha:a0 = .pointer none∨a0 = .pointer (some ⟨pba,0,none⟩)) (hz:Go.Proofs.YteciehjlefldmaaGreatDoor.app l (dW s)=some z) :
   Tr Tryz.prog 42 #[.pointer (some ⟨pba,0,none⟩),.string ⟨s.toArray⟩] K [Cl pba 87 [a0,.slice ad l.length cp],Row Hp.nil 5 (.int .u8) (.slice ad l.length cp) l] (fun v K' L'=>(∃ (ad2:Option Addr) (cp2:Nat),.tuple #[.int .i64 ((s.length:Nat):Int),.nilIface]=v∧L'=[Cl pba 87 [.pointer (some ⟨pba,0,none⟩),.slice ad2 z.length cp2],Row Hp.nil 5 (.int .u8) (.slice ad2 z.length cp2) z])∧K=K'):=by
 refine Tr.k ?_
 refine Tr.of Tryz.func42 rfl Tryz.ntmps42 rfl (fun E F=>?_)
 refine CJ.seq ?_
 refine CJ.region ?_
 refine J.val (v := .int .i64 0) rfl rfl (V.as rfl) ?_
 refine J.val (v := .nilIface) rfl rfl (V.as rfl) ?_
 refine J.nil ?_
 refine CJ.seq ?_
 refine CJ.region ?_
 refine J.val rfl rfl (V.mv rfl) ?_
 refine J.op rfl (A.call (L1:=[Cl pba 87 [a0,.slice ad l.length cp],Row Hp.nil 5 (.int .u8) (.slice ad l.length cp) l]) Tryz.call60 rfl (qR ha) rfl rfl) ?_
 rintro _ _ _ ⟨v23,_,rfl,⟨⟨rfl,rfl⟩,rfl⟩,_,rfl⟩
 refine J.nil ?_
 refine CJ.seq ?_
 refine CJ.region ?_
 refine J.val rfl rfl (V.mv rfl) ?_
 refine J.val rfl rfl (V.mv rfl) ?_
 refine J.val rfl rfl (V.nck rfl) ?_
 refine J.val rfl rfl (V.fad Tryz.underlying87 rfl mP rfl) ?_
 refine J.val (v := .slice ad l.length cp) rfl rfl (V.ld rfl (Ld.sc uP (Rd.cl 0 rfl rfl))) ?_
 refine J.val (v := .string ⟨s.toArray⟩) rfl rfl (V.mv rfl) ?_
 refine J.front 1 rfl ?_
 refine J.op rfl (A.appS Tryz.underlying80 Tryz.underlying9 pV rfl rfl hz) ?_
 rintro _ _ _ ⟨v32,rfl,rfl,rfl⟩
 refine J.wit Row.form ?_
 rintro ⟨ad33,cp34,rfl,_,_,hn35⟩
 refine J.val rfl rfl (V.nck rfl) ?_
 refine J.val rfl rfl (V.fad Tryz.underlying87 rfl mP rfl) ?_
 refine J.front 1 rfl ?_
 refine J.op rfl (A.store1 (v := .slice ad33 z.length cp34) (cs':=[.pointer (some ⟨pba,0,none⟩),.slice ad33 z.length cp34]) uR rfl rfl rfl rfl rfl rfl) ?_
 rintro _ _ _ ⟨rfl,rfl,rfl⟩
 refine J.nil ?_
 refine CJ.seq ?_
 refine CJ.region ?_
 refine J.val (v := .string ⟨s.toArray⟩) rfl rfl (V.mv rfl) ?_
 refine J.val (v := .int .i64 (((s.length:Nat):Int))) rfl rfl (V.lens Tryz.underlying9 rfl) ?_
 refine J.val (v := .int .i64 (((s.length:Nat):Int))) rfl rfl (V.as rfl) ?_
 refine J.val (v := .nilIface) rfl rfl (V.as rfl) ?_
 refine J.nil ?_
 refine CJ.ret ?_
 exact ⟨_,[Cl pba 87 [.pointer (some ⟨pba,0,none⟩),.slice ad33 z.length cp34],Row Hp.nil 5 (.int .u8) (.slice ad33 z.length cp34) z],Res.two rfl rfl rfl,⟨ad33,cp34,rfl,rfl⟩,(Hp.le_refl _),fun w hs=>hs⟩
theorem yj {l s r:List UInt8} (h:wrS l s=some r):app (bl l) (dW s)=some (bl r):=by
 unfold wrS at h
 obtain ⟨h1,rfl⟩:=ec h
 rw [show dW s=bl s from rfl,aj (by rw [mg,mg]; exact h1),up]
theorem vZ {K:Hp} {pb:Nat} {l s:List UInt8} {r:List UInt8} (h:wrS l s=some r) :
   Tr Tryz.prog 42 #[.pointer (some ⟨pb,0,none⟩),.string ⟨s.toArray⟩] K [Bld pb l] (fun v K' L'=>(∃ (l1:List UInt8),l1=r ∧ .tuple #[.int .i64 ((s.length:Nat):Int),.nilIface]=v∧L'=[Bld pb l1])∧K=K'):=by
 refine Tr.exA fun a=>Tr.exA fun v=>Tr.star fun E w F hs=>?_
 obtain ⟨ad,cp,rfl,-⟩:=Sep.fact (Sep.swap hs) Row.form
 refine (vT (K:=K) (pba:=pb) a.2 (yj h) E w F hs).mono fun e w' ⟨u,K',L',h1,⟨⟨ad2,cp2,h2,h3⟩,h4⟩,h5,h6⟩=>?_
 subst h3
 exact ⟨u,K',[Bld pb r],h1,⟨⟨r,rfl,h2,rfl⟩,h4⟩,h5,Bld.make (.inr rfl) h6⟩
structure Kp (w w':World) (g:Option Nat):Prop where
 os:w'.os=w.os
 tape:w'.tape=w.tape
 out:w'.output=w.output
 block:∀ n o,w.heap[n]? = some o→g≠some n→w'.heap[n]? = some o
theorem Kp.drew (w:World) (g:Option Nat):Kp w w.drew g:=⟨rfl,rfl,rfl,fun _ _ h _=>h⟩
theorem Kp.alloc {w w':World} {g:Option Nat} (h:Kp w w' g) (o:Obj):Kp w (w'.alloc o) g:=⟨h.os,h.tape,h.out,fun n x hx hn=>by
 have:=h.block n x hx hn
 rw [Below.heap_alloc _ _ _ (lt_of_block this)]; exact this⟩
theorem Kp.freeze {w w':World} {g:Nat} (h:Kp w w' (some g)) (m:Nat):Kp w (w'.freeze ⟨g,0,none⟩ m) (some g):=by
 unfold World.freeze
 split
 . exact h
 . refine ⟨h.os,h.tape,h.out,fun n x hx hn=>?_⟩
   have h1:=h.block n x hx hn
   have hne:g≠n:=fun e=>hn (by rw [e])
   show (w'.heap.modify g _)[n]? = some x
   rw [Array.getElem?_modify]; simp [hne,h1]
set_option maxHeartbeats 1000000 in
theorem xt (b:Nat) (p v:Value) (l:List UInt8) (w:World) (hbk:w.heap[b]? = some (.cells #[p,v] 87 (0,0))) (hown:w.ownsRow 0 5 1 v l.length (Lib.byteCells l)) :
   Calls Tryz.prog 43 #[.pointer (some ⟨b,0,none⟩)] w fun e w'=>e = .returned (.string ⟨l.toArray⟩)∧Kp w w' v.ownBlock:=by
 have hlt:=lt_of_block hbk
 have hUS0:∀ W q,(Builtin.unsafeString_ #[106,3] 9 #[.pointer q,.int .i64 0]).run Tryz.prog W = .ok (.string .empty) W:=fun W q=>Lib.run_unsafeString_none W _ _ _ q
 rcases hown.2 with ⟨rfl,h0⟩ | ⟨g,cap,cur,rfl,hbg,hg,hnc,hcm,hcs,htake⟩
 . obtain rfl:l=[]:=List.length_eq_zero_iff.1 h0
   have c1:w.drew.cell? ⟨b,1,none⟩=some (.slice none 0 0):=by
     have:w.drew.heap[b]? = some (.cells #[p,.slice none 0 0] 87 (0,0)):=hbk
     rw [Lib.cell_of_heap this]; rfl
   have hSD:(Builtin.unsafeSliceData_ #[80] 106 #[.slice none 0 0]).run Tryz.prog w.drew = .ok (.pointer none) w.drew:=rfl
   clear hbk hown h0
   go_enter Tryz.func43,Tryz.ntmps43
   go_wp2
   go_region
   all_goals (go_wp2; go_ret; exact ⟨rfl,Kp.drew w _⟩)
 . by_cases hl0:l=[]
   . subst hl0
     by_cases hc0:cap=0
     . subst hc0
       have hSD:(Builtin.unsafeSliceData_ #[80] 106 #[.slice (some ⟨g,0,none⟩) 0 0]).run Tryz.prog w.drew = .ok (.pointer (some ⟨w.drew.heap.size,0,none⟩)) (w.drew.alloc (.view ⟨g,0,none⟩ 5)) :=
         Lib.run_unsafeSliceData_zero w.drew _ _ 5 Tryz.underlying106 ⟨g,0,none⟩ 0 (5,cur.size) (by have hg':w.drew.heap[g]? = some (.cells cur 5 (0,0)):=hg; simp [World.shape?,hg'])
       have c1:w.drew.cell? ⟨b,1,none⟩=some (.slice (some ⟨g,0,none⟩) 0 0):=by
         have:w.drew.heap[b]? = some (.cells #[p,.slice (some ⟨g,0,none⟩) 0 0] 87 (0,0)):=hbk
         rw [Lib.cell_of_heap this]; rfl
       have c2:(w.drew.alloc (.view ⟨g,0,none⟩ 5)).cell? ⟨b,1,none⟩=some (.slice (some ⟨g,0,none⟩) 0 0):=by
         have:(w.drew.alloc (.view ⟨g,0,none⟩ 5)).heap[b]? = _:=(Lib.alloc_old w.drew _ b hlt).trans hbk
         rw [Lib.cell_of_heap this]; rfl
       have c3:(w.alloc (.view ⟨g,0,none⟩ 5)).drew.cell? ⟨b,1,none⟩=some (.slice (some ⟨g,0,none⟩) 0 0):=c2
       have c0:w.cell? ⟨b,1,none⟩=some (.slice (some ⟨g,0,none⟩) 0 0):=c1
       clear hbk hown htake hcs hg
       go_enter Tryz.func43,Tryz.ntmps43
       go_wp2
       go_region
       all_goals (go_wp2; go_ret; exact ⟨rfl,(Kp.drew w _).alloc _⟩)
     . have c1:w.drew.cell? ⟨b,1,none⟩=some (.slice (some ⟨g,0,none⟩) 0 cap):=by
         have:w.drew.heap[b]? = some (.cells #[p,.slice (some ⟨g,0,none⟩) 0 cap] 87 (0,0)):=hbk
         rw [Lib.cell_of_heap this]; rfl
       have hSD:(Builtin.unsafeSliceData_ #[80] 106 #[.slice (some ⟨g,0,none⟩) 0 cap]).run Tryz.prog w.drew = .ok (.pointer (some ⟨g,0,none⟩)) w.drew :=
         Lib.run_unsafeSliceData_row _ _ _ _ _ _ hc0
       clear hbk hown htake hcs hg hc0
       go_enter Tryz.func43,Tryz.ntmps43
       go_wp2
       go_region
       all_goals (go_wp2; go_ret; exact ⟨rfl,Kp.drew w _⟩)
   . have hl1:l.length≠0:=by simpa using hl0
     have c1:w.drew.cell? ⟨b,1,none⟩=some (.slice (some ⟨g,0,none⟩) l.length cap):=by
       have:w.drew.heap[b]? = some (.cells #[p,.slice (some ⟨g,0,none⟩) l.length cap] 87 (0,0)):=hbk
       rw [Lib.cell_of_heap this]; rfl
     have hSD:(Builtin.unsafeSliceData_ #[80] 106 #[.slice (some ⟨g,0,none⟩) l.length cap]).run Tryz.prog w.drew = .ok (.pointer (some ⟨g,0,none⟩)) w.drew :=
       Lib.run_unsafeSliceData_row _ _ _ _ _ _ (by omega)
     have hUS:(Builtin.unsafeString_ #[106,3] 9 #[.pointer (some ⟨g,0,none⟩),.int .i64 l.length]).run Tryz.prog w.drew = .ok (.string ⟨l.toArray⟩) (w.drew.freeze ⟨g,0,none⟩ l.length):=by
       refine Lib.run_unsafeString_row w.drew 106 3 9 5 Tryz.underlying106 (by kernel_rfl) g cur.size (by have hg':w.drew.heap[g]? = some (.cells cur 5 (0,0)):=hg; simp [World.shape?,hg']) l hl0 (by omega) (by unfold maxLen at hcm; omega) ?_
       intro j x hx
       exact hown.cells (g:=g) rfl j (.int .u8 x.toNat) (by simp [Lib.byteCells,hx])
     clear hbk hown htake hcs hg hl0 hl1 hUS0
     go_enter Tryz.func43,Tryz.ntmps43
     go_wp2
     go_region
     all_goals (go_wp2; go_ret; exact ⟨rfl,(Kp.drew w (some g)).freeze _⟩)
theorem wW {K:Hp} {pb:Nat} {l:List UInt8} {r:List UInt8} (h:some l=some r) :
   Tr Tryz.prog 43 #[.pointer (some ⟨pb,0,none⟩)] K [Bld pb l] (fun v K' L'=>(∃ (s1:List UInt8),s1=r ∧ .string ⟨s1.toArray⟩=v∧L'=[])∧K=K'):=by
 obtain rfl:=Option.some.inj h
 refine Tr.exA fun a=>Tr.exA fun v=>Tr.star fun E w F hs=>?_
 have hbk:=hs.cl
 have hsw:=Sep.swap hs
 obtain ⟨h0,⟨cs,h1,h2⟩,h3,h4⟩:=hsw
 have hown:=h2.owns (w:=w) (fun n o e=>h4.sub n o (Hp.join_right e (h3 n o e)))
 obtain rfl:=mf h1
 rw [mg] at hown
 have e:(bl l).map (Value.int .u8)=Lib.byteCells l:=by simp [bl,Lib.byteCells]
 rw [e] at hown
 refine (xt pb a.1 v l w hbk hown).mono fun e w' ⟨h5,h6⟩=>?_
 subst h5
 refine ⟨_,K,[],rfl,⟨⟨l,rfl,rfl,rfl⟩,rfl⟩,Hp.le_refl K,?_⟩
 have hturn:Sep E K (emp :: Cl pb 87 [a.1,v] :: F) w':=by
   refine Sep.turn (Sep.swap hs) (fun he=>⟨h6.os.trans he.1,h6.tape.trans he.2.1,h6.out.trans he.2.2⟩) (fun h hr hle=>⟨Hp.nil,rfl,fun n o e=>(by cases e),fun n o e hn=>h6.block n o e (fun e'=>?_)⟩)
   obtain ⟨cs',_,hr2⟩:=hr
   exact (hr2.block n).1 hn e'
 exact hturn.drop.drop
end
section
variable [BldA]
def nY:Spec:=⟨78,⟨[(0,.ptr 0 0),(1,.dat (.int .u8))],[⟨none,0,[],true,false,none,false⟩]⟩,[⟨[(0,.lit (.raw .nilIface))],[⟨some 0,0,[],true,false,none,false⟩]⟩],fun x=>wrB x.2 x.1⟩
theorem wC (hb:∀ b l,BldA.bat b l=Bld b l):bI Tryz.prog nY:=by
 intro x r hr vs u hu m K args hgk hm hH hsl E w F hs
 have hu':nY.inn.un (TL.list _ x) 0=some ([(0,.ptr 0 0),(1,.int .u8 x.1)],⟨[],1,[.bld 0 x.2],[]⟩):=rfl
 rw [hu'] at hu
 cases hu
 replace hm:m.length=1:=hm
 obtain ⟨b,hb0⟩:=hH _ (List.mem_singleton.2 rfl)
 obtain ⟨v,q,rfl,⟨b',h1,rfl⟩,v2,q2,rfl,h2,rfl⟩:=hsl
 rw [hb0] at h1
 cases h1
 obtain rfl:v2 = .int .u8 x.1:=h2
 have hs':Sep E K (HA.conc m (.bld 0 x.2) :: F) w:=hs
 simp only [HA.conc,hb0] at hs'
 have hs2:Sep E K (Bld b x.2 :: F) w:=by have e:=hb b x.2; rw [← e]; exact hs'
 refine (wD (K:=K) hr E w F hs2).mono ?_
 rintro e w' ⟨v,K',L',rfl,⟨⟨l1,rfl,rfl,rfl⟩,rfl⟩,h1,h2⟩
 refine ⟨_,K,_,rfl,⟨[(0,.raw .nilIface)],⟨[],1,[.bld 0 l1],[]⟩,m,rfl,List.prefix_rfl,hm,?_,rfl,rfl⟩,h1,?_⟩
 . intro a ha
   obtain rfl:=List.mem_singleton.1 ha
   exact ⟨b,hb0⟩
 . show Sep E K (HA.conc m (.bld 0 l1) :: F) w'
   simp only [HA.conc,hb0]
   have e:=hb b l1
   rw [show BldA.bat b l1=Bld b l1 from e]
   exact h2
def nQ:Spec:=⟨42,⟨[(0,.ptr 0 0),(1,.dat .str)],[⟨none,0,[],true,false,none,false⟩]⟩,[⟨[(0,.tup [.any,.lit (.raw .nilIface)])],[⟨some 0,0,[],true,false,none,false⟩]⟩],fun x=>wrS x.2 x.1⟩
theorem wd (hb:∀ b l,BldA.bat b l=Bld b l):bI Tryz.prog nQ:=by
 intro x r hr vs u hu m K args hgk hm hH hsl E w F hs
 have hu':nQ.inn.un (TL.list _ x) 0=some ([(0,.ptr 0 0),(1,.str x.1)],⟨[],1,[.bld 0 x.2],[]⟩):=rfl
 rw [hu'] at hu
 cases hu
 replace hm:m.length=1:=hm
 obtain ⟨b,hb0⟩:=hH _ (List.mem_singleton.2 rfl)
 obtain ⟨v,q,rfl,⟨b',h1,rfl⟩,v2,q2,rfl,h2,rfl⟩:=hsl
 rw [hb0] at h1
 cases h1
 obtain rfl:v2 = .string ⟨List.toArray (α:=UInt8) x.1⟩:=h2
 have hs':Sep E K (HA.conc m (.bld 0 x.2) :: F) w:=hs
 simp only [HA.conc,hb0] at hs'
 have hs2:Sep E K (Bld b x.2 :: F) w:=by have e:=hb b x.2; rw [← e]; exact hs'
 refine (vZ (K:=K) hr E w F hs2).mono ?_
 rintro e w' ⟨v,K',L',rfl,⟨⟨l1,rfl,rfl,rfl⟩,rfl⟩,h1,h2⟩
 refine ⟨_,K,_,rfl,⟨[(0,.tup [.any,.raw .nilIface])],⟨[],1,[.bld 0 l1],[]⟩,m,rfl,List.prefix_rfl,hm,?_,⟨_,rfl,_,_,rfl,trivial,_,_,rfl,rfl,rfl⟩,rfl⟩,h1,?_⟩
 . intro a ha
   obtain rfl:=List.mem_singleton.1 ha
   exact ⟨b,hb0⟩
 . show Sep E K (HA.conc m (.bld 0 l1) :: F) w'
   simp only [HA.conc,hb0]
   have e:=hb b l1
   rw [show BldA.bat b l1=Bld b l1 from e]
   exact h2
def oq:Spec:=⟨43,⟨[(0,.ptr 0 0)],[⟨none,0,[],true,false,none,false⟩]⟩,[⟨[(0,.dat .str)],[]⟩],fun x=>some x⟩
theorem xi (hb:∀ b l,BldA.bat b l=Bld b l):bI Tryz.prog oq:=by
 intro x r hr vs u hu m K args hgk hm hH hsl E w F hs
 have hu':oq.inn.un (TL.list _ x) 0=some ([(0,.ptr 0 0)],⟨[],1,[.bld 0 x],[]⟩):=rfl
 rw [hu'] at hu
 cases hu
 replace hm:m.length=1:=hm
 obtain ⟨b,hb0⟩:=hH _ (List.mem_singleton.2 rfl)
 obtain ⟨v,q,rfl,⟨b',h1,rfl⟩,rfl⟩:=hsl
 rw [hb0] at h1
 cases h1
 have hs':Sep E K (HA.conc m (.bld 0 x) :: F) w:=hs
 simp only [HA.conc,hb0] at hs'
 have hs2:Sep E K (Bld b x :: F) w:=by have e:=hb b x; rw [← e]; exact hs'
 refine (wW (K:=K) hr E w F hs2).mono ?_
 rintro e w' ⟨v,K',L',rfl,⟨⟨s1,rfl,rfl,rfl⟩,rfl⟩,h1,h2⟩
 exact ⟨_,K,[],rfl,⟨[(0,.str s1)],⟨[],1,[],[]⟩,m,rfl,List.prefix_rfl,hm,fun a h=>(by cases h),rfl,rfl⟩,h1,h2⟩
end
end
end Go.Proofs.YteciehjlefldmaaGreatDoor
namespace Go.Proofs
open Go.Shelf
def Tryz.lays156_ren:Go.Shelf.Ren:=⟨fun | 156=>19 | 165=>41 | 166=>42 | 169=>43 | 240=>60 | 241=>61 | 276=>79 | 277=>80 | n=>n,fun | 31=>57 | 9=>9 | 3=>3 | 4=>4 | 0=>0 | 20=>20 | 72=>87 | 76=>91 | 70=>85 | 37=>80 | 75=>90 | 127=>106 | 164=>130 | 5=>5 | 80=>93 | n=>n,fun | n=>n⟩
theorem Tryz.lays156:Go.Proofs.Lays.n156 Tryz.prog Tryz.lays156_ren:={
  mixed:=by kernel_rfl
  f156:=Tryz.func19.trans (congrArg some (by kernel_rfl))
  f165:=Tryz.func41.trans (congrArg some (by kernel_rfl))
  f166:=Tryz.func42.trans (congrArg some (by kernel_rfl))
  f169:=Tryz.func43.trans (congrArg some (by kernel_rfl))
  f240:=Tryz.func60.trans (congrArg some (by kernel_rfl))
  f241:=Tryz.func61.trans (congrArg some (by kernel_rfl))
  f276:=Tryz.func79.trans (congrArg some (by kernel_rfl))
  f277:=Tryz.func80.trans (congrArg some (by kernel_rfl))
  t0:=Tryz.underlying0
  a0:=Tryz.isAgg0
  z0:=Tryz.sizeOf0
  v0:=Tryz.zeroValue0
  t3:=Tryz.underlying3
  a3:=Tryz.isAgg3
  z3:=Tryz.sizeOf3
  v3:=Tryz.zeroValue3
  t4:=Tryz.underlying4
  a4:=Tryz.isAgg4
  z4:=Tryz.sizeOf4
  v4:=Tryz.zeroValue4
  t9:=Tryz.underlying9
  a9:=Tryz.isAgg9
  z9:=Tryz.sizeOf9
  v9:=Tryz.zeroValue9
  t20:=Tryz.underlying20
  a20:=Tryz.isAgg20
  z20:=Tryz.sizeOf20
  v20:=Tryz.zeroValue20
  t31:=Tryz.underlying57
  a31:=Tryz.isAgg57
  z31:=Tryz.sizeOf57
  v31:=Tryz.zeroValue57
  t37:=Tryz.underlying80
  a37:=Tryz.isAgg80
  z37:=Tryz.sizeOf80
  v37:=Tryz.zeroValue80
  t70:=Tryz.underlying85
  a70:=Tryz.isAgg85
  z70:=Tryz.sizeOf85
  v70:=Tryz.zeroValue85
  t72:=Tryz.underlying87
  a72:=Tryz.isAgg87
  z72:=Tryz.sizeOf87
  v72:=Tryz.zeroValue87
  t75:=Tryz.underlying90
  a75:=Tryz.isAgg90
  z75:=Tryz.sizeOf90
  v75:=Tryz.zeroValue90
  t76:=Tryz.underlying91
  a76:=Tryz.isAgg91
  z76:=Tryz.sizeOf91
  v76:=Tryz.zeroValue91
  t127:=Tryz.underlying106
  a127:=Tryz.isAgg106
  z127:=Tryz.sizeOf106
  v127:=Tryz.zeroValue106
  t164:=Tryz.underlying130
  a164:=Tryz.isAgg130
  z164:=Tryz.sizeOf130
  v164:=Tryz.zeroValue130 }
theorem Tryz.Builder_Extra_156:Builder.Extra Tryz.prog Tryz.lays156_ren:={
  sizeBuilder:=by kernel_rfl
  liesBuilder:=by kernel_rfl
  t5:=Tryz.underlying5
  a5:=Tryz.isAgg5
  z5:=Tryz.sizeOf5
  v5:=Tryz.zeroValue5
  infoByte:=by kernel_rfl
  cellsByte:=by kernel_rfl
  sizeByte:=by kernel_rfl
  neB5:=by decide }
open Go.RowKit in
/-- No element: the empty string; the gV is as it was. (Whatever the slice's address and capacity: a nil slice too.) (LAID: no walk: one application.) -/
theorem Tryz.strings_Join_none (a:Option Addr) (c:Nat) (sep:ByteArray) (w:World) :
    Calls Tryz.prog 19 #[.slice a 0 c,.string sep] w fun e w'=>e = .returned (.string ⟨#[]⟩)∧w'=w:=Any.strings_Join_none Tryz.lays156 Tryz.Builder_Extra_156 a c sep w
open Go.RowKit in
/-- strings.Join: "Join concatenates the elements of its first argument to create a single string. The separator string sep is placed between elements in the resulting string.": HOWEVER MANY ELEMENTS. Below the heap's end the gV is as it was. (LAID: no walk: one application.) -/
theorem Tryz.strings_Join (bk o c:Nat) (xs:List ByteArray) (sep:ByteArray) (w:World) (hcells:∀ (j:Nat) x,xs[j]? = some x→w.cell? ⟨bk,o + j,none⟩=some (.string x)) (hbk:bk < w.heap.size) (hN:xs.length≤140737488355328) (hcap:xs.length≤c) (hlen:(Lib.join (xs.map (·.data.toList)) sep.data.toList).length≤140737488355328) :
    Calls Tryz.prog 19 #[.slice (some ⟨bk,o,none⟩) xs.length c,.string sep] w fun e w'=>e = .returned (.string ⟨(Lib.join (xs.map (·.data.toList)) sep.data.toList).toArray⟩)∧Below w.heap.size w w':=Any.strings_Join Tryz.lays156 Tryz.Builder_Extra_156 bk o c xs sep w hcells hbk hN hcap hlen
def Tryz.lays143_ren:Go.Shelf.Ren:=⟨fun | 143=>69 | 219=>92 | 217=>108 | 225=>109 | 224=>110 | 267=>111 | 266=>118 | 314=>119 | n=>n,fun | 9=>9 | 3=>3 | 4=>4 | 5=>5 | 46=>161 | 146=>175 | 51=>174 | n=>n,fun | 1=>0 | n=>n⟩
theorem Tryz.lays143:Go.Proofs.Lays.n143 Tryz.prog Tryz.lays143_ren:={
  mixed:=by kernel_rfl
  f143:=Tryz.func69.trans (congrArg some (by kernel_rfl))
  f217:=Tryz.func108.trans (congrArg some (by kernel_rfl))
  f219:=Tryz.func92.trans (congrArg some (by kernel_rfl))
  f224:=Tryz.func110.trans (congrArg some (by kernel_rfl))
  f225:=Tryz.func109.trans (congrArg some (by kernel_rfl))
  f266:=Tryz.func118.trans (congrArg some (by kernel_rfl))
  f267:=Tryz.func111.trans (congrArg some (by kernel_rfl))
  f314:=Tryz.func119.trans (congrArg some (by kernel_rfl))
  t3:=Tryz.underlying3
  a3:=Tryz.isAgg3
  z3:=Tryz.sizeOf3
  v3:=Tryz.zeroValue3
  t4:=Tryz.underlying4
  a4:=Tryz.isAgg4
  z4:=Tryz.sizeOf4
  v4:=Tryz.zeroValue4
  t5:=Tryz.underlying5
  a5:=Tryz.isAgg5
  z5:=Tryz.sizeOf5
  v5:=Tryz.zeroValue5
  t9:=Tryz.underlying9
  a9:=Tryz.isAgg9
  z9:=Tryz.sizeOf9
  v9:=Tryz.zeroValue9
  t46:=Tryz.underlying161
  a46:=Tryz.isAgg161
  z46:=Tryz.sizeOf161
  v46:=Tryz.zeroValue161
  t51:=Tryz.underlying174
  a51:=Tryz.isAgg174
  z51:=Tryz.sizeOf174
  v51:=Tryz.zeroValue174
  t146:=Tryz.underlying175
  a146:=Tryz.isAgg175
  z146:=Tryz.sizeOf175
  v146:=Tryz.zeroValue175
  g1:=by kernel_rfl }
open Go.RowKit Go.Lib in
/-- strings.Index: "Index returns the index of the first instance of substr in s, or -1 if substr is not present in s.": IT RETURNS 'Lib.index s substr'; the gV is as it was. (LAID: no walk: one application.) -/
theorem Tryz.strings_Index (s sub:ByteArray) (m:Int) (w:World) (hs:s.size < 4294967281) (hm:w.cell? ⟨0,0,none⟩=some (.int .i64 m)) :
    Calls Tryz.prog 69 #[.string s,.string sub] w fun e w'=>e = .returned (.int .i64 (Lib.index s.data.toList sub.data.toList))∧w'=w:=Any.strings_Index Tryz.lays143 s sub m w hs hm
def Tryz.lays145_ren:Go.Shelf.Ren:=⟨fun | 145=>116 | 220=>120 | 219=>92 | 217=>108 | 225=>109 | 224=>110 | 267=>111 | 266=>118 | 314=>119 | n=>n,fun | 9=>9 | 4=>4 | 59=>170 | 3=>3 | 5=>5 | 46=>161 | 146=>175 | 51=>174 | n=>n,fun | 1=>0 | n=>n⟩
theorem Tryz.lays145:Go.Proofs.Lays.n145 Tryz.prog Tryz.lays145_ren:={
  mixed:=by kernel_rfl
  f145:=Tryz.func116.trans (congrArg some (by kernel_rfl))
  f217:=Tryz.func108.trans (congrArg some (by kernel_rfl))
  f219:=Tryz.func92.trans (congrArg some (by kernel_rfl))
  f220:=Tryz.func120.trans (congrArg some (by kernel_rfl))
  f224:=Tryz.func110.trans (congrArg some (by kernel_rfl))
  f225:=Tryz.func109.trans (congrArg some (by kernel_rfl))
  f266:=Tryz.func118.trans (congrArg some (by kernel_rfl))
  f267:=Tryz.func111.trans (congrArg some (by kernel_rfl))
  f314:=Tryz.func119.trans (congrArg some (by kernel_rfl))
  t3:=Tryz.underlying3
  a3:=Tryz.isAgg3
  z3:=Tryz.sizeOf3
  v3:=Tryz.zeroValue3
  t4:=Tryz.underlying4
  a4:=Tryz.isAgg4
  z4:=Tryz.sizeOf4
  v4:=Tryz.zeroValue4
  t5:=Tryz.underlying5
  a5:=Tryz.isAgg5
  z5:=Tryz.sizeOf5
  v5:=Tryz.zeroValue5
  t9:=Tryz.underlying9
  a9:=Tryz.isAgg9
  z9:=Tryz.sizeOf9
  v9:=Tryz.zeroValue9
  t46:=Tryz.underlying161
  a46:=Tryz.isAgg161
  z46:=Tryz.sizeOf161
  v46:=Tryz.zeroValue161
  t51:=Tryz.underlying174
  a51:=Tryz.isAgg174
  z51:=Tryz.sizeOf174
  v51:=Tryz.zeroValue174
  t59:=Tryz.underlying170
  a59:=Tryz.isAgg170
  z59:=Tryz.sizeOf170
  v59:=Tryz.zeroValue170
  t146:=Tryz.underlying175
  a146:=Tryz.isAgg175
  z146:=Tryz.sizeOf175
  v146:=Tryz.zeroValue175
  g1:=by kernel_rfl }
open Go.RowKit Go.Lib in
/-- strings.Cut: "Cut slices s around the first instance of sep, returning the text before and after sep. The found result reports whether sep appears in s. If sep does not appear in s, cut returns s, "", false.": IT RETURNS 'Lib.cut s sep'; the gV is as it was but for the count of draws. (LAID: no walk: one application.) -/
theorem Tryz.strings_Cut (s sep:ByteArray) (m:Int) (w:World) (hs:s.size < 4294967281) (hm:w.cell? ⟨0,0,none⟩=some (.int .i64 m)) :
    Calls Tryz.prog 116 #[.string s,.string sep] w fun e w'=>e = .returned (.tuple #[.string ⟨(Lib.cut s.data.toList sep.data.toList).1.toArray⟩,.string ⟨(Lib.cut s.data.toList sep.data.toList).2.1.toArray⟩,.bool (Lib.cut s.data.toList sep.data.toList).2.2])∧∃ n,w'=w.drewN n:=Any.strings_Cut Tryz.lays145 s sep m w hs hm
def Tryz.lays146_ren:Go.Shelf.Ren:=⟨fun | 146=>28 | 221=>51 | 268=>70 | 138=>71 | 143=>69 | 195=>93 | 197=>68 | 218=>94 | 219=>92 | 260=>91 | 217=>108 | 225=>109 | 224=>110 | 267=>111 | 266=>118 | 314=>119 | n=>n,fun | 9=>9 | 31=>57 | 3=>3 | 4=>4 | 0=>0 | 105=>115 | 21=>21 | 5=>5 | 46=>161 | 119=>160 | 139=>164 | 138=>163 | 146=>175 | 51=>174 | n=>n,fun | 1=>0 | 3=>1 | 4=>2 | n=>n⟩
theorem Tryz.lays146:Go.Proofs.Lays.n146 Tryz.prog Tryz.lays146_ren:={
  mixed:=by kernel_rfl
  f138:=Tryz.func71.trans (congrArg some (by kernel_rfl))
  f143:=Tryz.func69.trans (congrArg some (by kernel_rfl))
  f146:=Tryz.func28.trans (congrArg some (by kernel_rfl))
  f195:=Tryz.func93.trans (congrArg some (by kernel_rfl))
  f197:=Tryz.func68.trans (congrArg some (by kernel_rfl))
  f217:=Tryz.func108.trans (congrArg some (by kernel_rfl))
  f218:=Tryz.func94.trans (congrArg some (by kernel_rfl))
  f219:=Tryz.func92.trans (congrArg some (by kernel_rfl))
  f221:=Tryz.func51.trans (congrArg some (by kernel_rfl))
  f224:=Tryz.func110.trans (congrArg some (by kernel_rfl))
  f225:=Tryz.func109.trans (congrArg some (by kernel_rfl))
  f260:=Tryz.func91.trans (congrArg some (by kernel_rfl))
  f266:=Tryz.func118.trans (congrArg some (by kernel_rfl))
  f267:=Tryz.func111.trans (congrArg some (by kernel_rfl))
  f268:=Tryz.func70.trans (congrArg some (by kernel_rfl))
  f314:=Tryz.func119.trans (congrArg some (by kernel_rfl))
  t0:=Tryz.underlying0
  a0:=Tryz.isAgg0
  z0:=Tryz.sizeOf0
  v0:=Tryz.zeroValue0
  t3:=Tryz.underlying3
  a3:=Tryz.isAgg3
  z3:=Tryz.sizeOf3
  v3:=Tryz.zeroValue3
  t4:=Tryz.underlying4
  a4:=Tryz.isAgg4
  z4:=Tryz.sizeOf4
  v4:=Tryz.zeroValue4
  t5:=Tryz.underlying5
  a5:=Tryz.isAgg5
  z5:=Tryz.sizeOf5
  v5:=Tryz.zeroValue5
  t9:=Tryz.underlying9
  a9:=Tryz.isAgg9
  z9:=Tryz.sizeOf9
  v9:=Tryz.zeroValue9
  t21:=Tryz.underlying21
  a21:=Tryz.isAgg21
  z21:=Tryz.sizeOf21
  v21:=Tryz.zeroValue21
  t31:=Tryz.underlying57
  a31:=Tryz.isAgg57
  z31:=Tryz.sizeOf57
  v31:=Tryz.zeroValue57
  t46:=Tryz.underlying161
  a46:=Tryz.isAgg161
  z46:=Tryz.sizeOf161
  v46:=Tryz.zeroValue161
  t51:=Tryz.underlying174
  a51:=Tryz.isAgg174
  z51:=Tryz.sizeOf174
  v51:=Tryz.zeroValue174
  t105:=Tryz.underlying115
  a105:=Tryz.isAgg115
  z105:=Tryz.sizeOf115
  v105:=Tryz.zeroValue115
  t119:=Tryz.underlying160
  a119:=Tryz.isAgg160
  z119:=Tryz.sizeOf160
  t138:=Tryz.underlying163
  a138:=Tryz.isAgg163
  z138:=Tryz.sizeOf163
  v138:=Tryz.zeroValue163
  t139:=Tryz.underlying164
  a139:=Tryz.isAgg164
  z139:=Tryz.sizeOf164
  v139:=Tryz.zeroValue164
  t146:=Tryz.underlying175
  a146:=Tryz.isAgg175
  z146:=Tryz.sizeOf175
  v146:=Tryz.zeroValue175
  g1:=by kernel_rfl
  g3:=by kernel_rfl
  g4:=by kernel_rfl }
open Go.RowKit Go.Lib in
/-- strings.Split. (LAID: no walk: one application.) -/
theorem Tryz.strings_Split (s sep:ByteArray) (m:Int) (w:World) (hs:s.size < 4294967281) (hm:w.cell? ⟨0,0,none⟩=some (.int .i64 m)) (h1:1≤sep.size) :
    Calls Tryz.prog 28 #[.string s,.string sep] w fun e w' =>
      e = .returned (.slice (some ⟨w.heap.size,0,none⟩) (Lib.countB s sep + 1) (Lib.countB s sep + 1))∧w'=w.alloc (.cells ((Lib.splitB sep 0 (Lib.countB s sep) s).map Value.string).toArray 9):=Any.strings_Split Tryz.lays146 (by kernel_rfl) s sep m w hs hm h1
end Go.Proofs
namespace Go.Proofs.YteciehjlefldmaaGreatDoor
noncomputable section
set_option linter.unusedVariables false
set_option linter.unusedSimpArgs false
set_option linter.unnecessarySimpa false
open Go.RowKit
theorem Sep.ofBelow {E:En} {K:Hp} {L:List ab} {w w':World} (h:Sep E K L w) (b:Below w.heap.size w w'):Sep E K L w':=h.fr (Fr.of_below b)
def Gk (K:Hp):Prop:=∃ m:Int,aO K 0 0=some (.int .i64 m)
theorem Gk.mono {K K':Hp} (h:Gk K) (f:K.le K'):Gk K':=let ⟨m,h⟩:=h; ⟨m,dG f h⟩
theorem Gk.of {W:World} (h:W.ShapedOpen Tryz.prog):Gk (Hp.of W) :=
 let ⟨m,hm⟩:=Go.Proofs.cell_of_shapedOpen_int (zero:=#[.int .i64 0]) (t:=3) h (of_decide_eq_true (by kernel_rfl)) (by kernel_rfl) rfl (by kernel_rfl) (by kernel_rfl) Tryz.underlying3
 ⟨m,s8 hm⟩
def j8 (s sep:List UInt8):Option (List UInt8×List UInt8×Bool):=if s.length < 4294967281 then some (Lib.cut s sep) else none
theorem v8 {K:Hp} {xa xb:List UInt8} (fG:Gk K) {r:List UInt8×List UInt8×Bool} (h:j8 xa xb=some r) :
   Tr Tryz.prog 116 #[.string ⟨xa.toArray⟩,.string ⟨xb.toArray⟩] K [] (fun v K' L'=>(∃ (s1 s2:List UInt8) (t3:Bool),(s1,s2,t3)=r∧v = .tuple #[.string ⟨s1.toArray⟩,.string ⟨s2.toArray⟩,.bool t3]∧L'=[])∧K=K'):=by
 refine Tr.k (fun E w F hs=>?_)
 unfold j8 at h
 split at h
 . rename_i hlt
   cases h
   obtain ⟨m,hm⟩:=fG
   refine (Tryz.strings_Cut ⟨xa.toArray⟩ ⟨xb.toArray⟩ m w (by simpa [ByteArray.size] using hlt) (cy hs.sub hm)).mono ?_
   rintro e w' ⟨rfl,n,rfl⟩
   exact ⟨_,K,[],rfl,⟨_,_,_,rfl,rfl,rfl⟩,Hp.le_refl K,hs.fr ((Fr.refl [] w).drewN n)⟩
 . cases h
def cJ (s sep:List UInt8):Option (List (List UInt8)):=if s.length < 4294967281∧1≤sep.length then some ((Lib.splitB ⟨sep.toArray⟩ 0 (Lib.countB ⟨s.toArray⟩ ⟨sep.toArray⟩) ⟨s.toArray⟩).map (·.data.toList)) else none
theorem sY:∀ l:List ByteArray,Els Hp.nil .str (l.map Value.string) (l.map (·.data.toList))
 | []=>rfl
 | x :: l=>⟨[.string x],_,rfl,by simp [Is],sY l⟩
theorem vP {K:Hp} {xa xb:List UInt8} (fG:Gk K) {r:List (List UInt8)} (h:cJ xa xb=some r) :
   Tr Tryz.prog 28 #[.string ⟨xa.toArray⟩,.string ⟨xb.toArray⟩] K [] (fun v K' L'=>(∃ (l1:List (List UInt8)) (ad1:Option Addr) (cp1:Nat),l1=r∧v = .slice ad1 l1.length cp1∧L'=[Row Hp.nil 9 .str (.slice ad1 l1.length cp1) l1])∧K=K'):=by
 refine Tr.k (fun E w F hs=>?_)
 unfold cJ at h
 split at h
 . rename_i hlt
   cases h
   obtain ⟨m,hm⟩:=fG
   have hs1:(⟨xa.toArray⟩:ByteArray).size < 4294967281:=by simpa [ByteArray.size] using hlt.1
   have h1:1≤(⟨xb.toArray⟩:ByteArray).size:=by simpa [ByteArray.size] using hlt.2
   have hlen:=Lib.splitB_all ⟨xb.toArray⟩ h1 0 _ ⟨xa.toArray⟩ rfl
   have hle:=Lib.countB_le ⟨xb.toArray⟩ h1 _ ⟨xa.toArray⟩ (Nat.le_refl _)
   refine (Tryz.strings_Split ⟨xa.toArray⟩ ⟨xb.toArray⟩ m w hs1 (cy hs.sub hm) h1).mono ?_
   rintro e w' ⟨rfl,rfl⟩
   refine ⟨_,K,_,rfl,⟨_,_,_,rfl,by rw [List.length_map,hlen],rfl⟩,Hp.le_refl K,?_⟩
   refine (Sep.alloc hs _ _).mono (fun h0 ha=>?_)
   obtain rfl:h0=_:=ha
   have hl2:((Lib.splitB ⟨xb.toArray⟩ 0 (Lib.countB ⟨xa.toArray⟩ ⟨xb.toArray⟩) ⟨xa.toArray⟩).map (·.data.toList)).length=Lib.countB ⟨xa.toArray⟩ ⟨xb.toArray⟩ + 1:=by rw [List.length_map,hlen]
   refine ⟨_,sY _,by simp [Tp.size],.inr ⟨w.heap.size,_,_,by rw [hl2],rfl,by omega,?_,by simp [Tp.size,hlen],by simp only [Tp.size,Nat.mul_one,List.length_map]; exact List.take_of_length_le (by simp)⟩⟩
   have:=hs1
   unfold maxLen
   omega
 . cases h
def dM (xs:List (List UInt8)) (sep:List UInt8):Option (List UInt8):=if (Lib.join xs sep).length≤140737488355328∧xs.length≤140737488355328 then some (Lib.join xs sep) else none
theorem rf {K:Hp}:∀ {xs:List (List UInt8)} {cs:List Value},Els K .str cs xs→cs=xs.map fun x=>Value.string ⟨x.toArray⟩
 | [],cs,h=>h
 | x :: xs,cs,h=>by
   obtain ⟨es,r,rfl,h1,h2⟩:=h
   simp only [Is] at h1
   subst h1
   rw [rf h2]; rfl
theorem vU {K:Hp} {xa:List (List UInt8)} {xb:List UInt8} {ad:Option Addr} {cp:Nat} (fa:Is K (.sl .str) [.slice ad xa.length cp] xa) {r:List UInt8} (h:dM xa xb=some r) :
   Tr Tryz.prog 19 #[.slice ad xa.length cp,.string ⟨xb.toArray⟩] K [] (fun v K' L'=>(∃ s1:List UInt8,s1=r∧v = .string ⟨s1.toArray⟩∧L'=[])∧K=K'):=by
 refine Tr.k (fun E w F hs=>?_)
 unfold dM at h
 split at h
 . rename_i hlt
   cases h
   by_cases hx:xa=[]
   . subst hx
     refine (Tryz.strings_Join_none ad cp ⟨xb.toArray⟩ w).mono ?_
     rintro e w' ⟨rfl,rfl⟩
     exact ⟨_,K,[],rfl,⟨[],rfl,rfl,rfl⟩,Hp.le_refl K,hs⟩
   . have fa':=fa
     simp only [Is] at fa
     obtain ⟨ad',cp',e0,a1,a2,a3⟩:=fa
     simp only [List.cons.injEq,Value.slice.injEq,and_true] at e0
     obtain ⟨rfl,_,rfl⟩:=e0
     obtain ⟨b,o,rfl,a4⟩:=a3 hx
     obtain ⟨cs,c1,c2,c3⟩:=fa'.cells (by decide)
     obtain rfl:=rf c1
     have hc:∀ (j:Nat) x,(xa.map fun x=>(⟨x.toArray⟩:ByteArray))[j]? = some x→w.cell? ⟨b,o + j,none⟩=some (.string x):=fun j x hj=>by
       have:=c3 w hs.sub j (.string x) (by rw [List.getElem?_map] at hj ⊢; cases hq:xa[j]? with
         | none=>rw [hq] at hj; simp at hj
         | some q=>rw [hq] at hj; simp at hj ⊢; exact hj)
       rwa [aX] at this
     have hb:b < w.heap.size:=by
       cases xa with
       | nil=>exact absurd rfl hx
       | cons q xs =>
         have:=hc 0 _ rfl
         unfold World.cell? at this
         simp only at this
         split at this
         . rename_i e; exact lt_of_block e
         . cases this
     have hm:(xa.map fun x=>(⟨x.toArray⟩:ByteArray)).map (·.data.toList)=xa:=by simp [Function.comp_def]
     have hl:(xa.map fun x=>(⟨x.toArray⟩:ByteArray)).length=xa.length:=by simp
     have:=Tryz.strings_Join b o cp (xa.map fun x=>(⟨x.toArray⟩:ByteArray)) ⟨xb.toArray⟩ w hc hb (by rw [hl]; exact hlt.2) (by rw [hl]; exact a1) (by rw [hm]; exact hlt.1)
     rw [hl,hm] at this
     refine this.mono ?_
     rintro e w' ⟨rfl,hbl⟩
     exact ⟨_,K,[],rfl,⟨_,rfl,rfl,rfl⟩,Hp.le_refl K,hs.ofBelow hbl⟩
 . cases h
set_option linter.unusedSectionVars false
section
theorem Gk.monoC {K K':Hp} (h:K.cle K') (g:Gk K):Gk K':=let ⟨m,e⟩:=g; ⟨m,h _ _ _ e⟩
variable [BldA]
def px:Spec:=⟨116,⟨[(0,.dat .str),(1,.dat .str)],[]⟩,[⟨[(0,.tup [.dat .str,.dat .str,.dat .bool])],[]⟩],fun x=>j8 x.1 x.2⟩
theorem AI (hg:∀ K,BldA.gk K→Gk K):bI Tryz.prog px:=by
 intro x r hr vs u hu m K args hgk hm hH hsl E w F hs
 have hu':px.inn.un (TL.list _ x) 0=some ([(0,.str x.1),(1,.str x.2)],⟨[],0,[],[]⟩):=rfl
 rw [hu'] at hu
 cases hu
 obtain ⟨v,q,rfl,h1,v2,q2,rfl,h2,rfl⟩:=hsl
 obtain rfl:v = .string ⟨List.toArray (α:=UInt8) x.1⟩:=h1
 obtain rfl:v2 = .string ⟨List.toArray (α:=UInt8) x.2⟩:=h2
 refine (v8 (K:=K) (hg K hgk) hr E w F hs).mono ?_
 rintro e w' ⟨v,K',L',rfl,⟨⟨s1,s2,t3,rfl,rfl,rfl⟩,rfl⟩,h1,h2⟩
 exact ⟨_,K,[],rfl,⟨[(0,.tup [.str s1,.str s2,.bool t3])],⟨[],0,[],[]⟩,m,rfl,List.prefix_rfl,hm,fun a h=>(by cases h),⟨_,rfl,_,_,rfl,rfl,_,_,rfl,rfl,_,_,rfl,rfl,rfl⟩,rfl⟩,h1,h2⟩
def oB:Spec:=⟨28,⟨[(0,.dat .str),(1,.dat .str)],[]⟩,[⟨[(0,.own 9 .str)],[]⟩],fun x=>cJ x.1 x.2⟩
theorem yI (hg:∀ K,BldA.gk K→Gk K):bI Tryz.prog oB:=by
 intro x r hr vs u hu m K args hgk hm hH hsl E w F hs
 have hu':oB.inn.un (TL.list _ x) 0=some ([(0,.str x.1),(1,.str x.2)],⟨[],0,[],[]⟩):=rfl
 rw [hu'] at hu
 cases hu
 replace hm:m.length=0:=hm
 obtain ⟨v,q,rfl,h1,v2,q2,rfl,h2,rfl⟩:=hsl
 obtain rfl:v = .string ⟨List.toArray (α:=UInt8) x.1⟩:=h1
 obtain rfl:v2 = .string ⟨List.toArray (α:=UInt8) x.2⟩:=h2
 refine (vP (K:=K) (hg K hgk) hr E w F hs).mono ?_
 rintro e w' ⟨v,K',L',rfl,⟨⟨l,ad1,cp1,rfl,rfl,rfl⟩,rfl⟩,h1,h2⟩
 have h2:Sep E K (Row Hp.nil 9 .str (.slice ad1 (List.length (α:=List UInt8) l) cp1) l :: F) w':=h2
 obtain ⟨ad',cap',e1,g2,g3,g4⟩:=h2.fact (fun h k=>Row.form h k)
 cases e1
 obtain ⟨h0,⟨cs,hE,hR⟩,hd,hs2⟩:=h2
 have g5:Els K .str cs l:=Els.flat rfl hE
 have g6:Sep E K (Rw 9 1 (.slice ad1 (List.length (α:=List UInt8) l) cp1) (List.length (α:=List UInt8) l) cs :: F) w':=⟨h0,hR,hd,hs2⟩
 have hm0:(m++[M.val (.slice ad1 (List.length (α:=List UInt8) l) cp1),M.cont .str l cs])[0]? = some (.val (.slice ad1 (List.length (α:=List UInt8) l) cp1)):=by
   rw [List.getElem?_append_right (by omega),hm]; rfl
 have hm1:(m++[M.val (.slice ad1 (List.length (α:=List UInt8) l) cp1),M.cont .str l cs])[1]? = some (.cont .str l cs):=by
   rw [List.getElem?_append_right (by omega),hm]; rfl
 refine ⟨_,K,_,rfl,⟨[(0,.own 0)],⟨[],2,[.row 0 1 9 .str l (List.length (α:=List UInt8) l)],[0]⟩,m++[M.val (.slice ad1 (List.length (α:=List UInt8) l) cp1),M.cont .str l cs],rfl,List.prefix_append _ _,by simp [hm],?_,⟨hm0,rfl⟩,rfl⟩,h1,?_⟩
 . intro a ha
   obtain rfl:=List.mem_singleton.1 ha
   exact ⟨ad1,cp1,cs,hm0,hm1,g5,rfl,g2,g3,g4⟩
 . show Sep E K (HA.conc _ (.row 0 1 9 .str l (List.length (α:=List UInt8) l)) :: F) w'
   simp only [HA.conc,hm0,hm1]
   exact g6
def ib (s sub:List UInt8):Option Int:=if s.length < 4294967281 then some (Lib.index s sub) else none
theorem vQ {K:Hp} {xa xb:List UInt8} (fG:Gk K) {r:Int} (h:ib xa xb=some r) :
   Tr Tryz.prog 69 #[.string ⟨xa.toArray⟩,.string ⟨xb.toArray⟩] K [] (fun v K' L'=>(∃ i1:Int,i1=r∧v = .int .i64 i1∧L'=[])∧K=K'):=by
 refine Tr.k (fun E w F hs=>?_)
 unfold ib at h
 split at h
 . rename_i hlt
   cases h
   obtain ⟨m,hm⟩:=fG
   refine (Tryz.strings_Index ⟨xa.toArray⟩ ⟨xb.toArray⟩ m w (by simpa [ByteArray.size] using hlt) (cy hs.sub hm)).mono ?_
   rintro e w' ⟨rfl,rfl⟩
   exact ⟨_,K,_,rfl,⟨_,rfl,rfl,rfl⟩,Hp.le_refl K,hs⟩
 . cases h
def oD:Spec:=⟨69,⟨[(0,.dat .str),(1,.dat .str)],[]⟩,[⟨[(0,.dat (.int .i64))],[]⟩],fun x=>ib x.1 x.2⟩
theorem yS (hg:∀ K,BldA.gk K→Gk K):bI Tryz.prog oD:=by
 intro x r hr vs u hu m K args hgk hm hH hsl E w F hs
 have hu':oD.inn.un (TL.list _ x) 0=some ([(0,.str x.1),(1,.str x.2)],⟨[],0,[],[]⟩):=rfl
 rw [hu'] at hu
 cases hu
 obtain ⟨v,q,rfl,h1,v2,q2,rfl,h2,rfl⟩:=hsl
 obtain rfl:v = .string ⟨List.toArray (α:=UInt8) x.1⟩:=h1
 obtain rfl:v2 = .string ⟨List.toArray (α:=UInt8) x.2⟩:=h2
 refine (vQ (K:=K) (hg K hgk) hr E w F hs).mono ?_
 rintro e w' ⟨v,K',L',rfl,⟨⟨i1,rfl,rfl,rfl⟩,rfl⟩,h1,h2⟩
 exact ⟨_,K,[],rfl,⟨[(0,.int .i64 i1)],⟨[],0,[],[]⟩,m,rfl,List.prefix_rfl,hm,fun a h=>(by cases h),rfl,rfl⟩,h1,h2⟩
end
section
section
variable {E:En} {K K0:Hp} {L:List ab} {w:World}
theorem Sep.arr {b:Nat} {e:TypeId} {t:Tp} {m:Nat} {cs:List Value} {xs:List t.den} (he:Els Hp.nil t cs xs) (hl:xs.length=m) (hm:Nat.ble m 1048576=true) (hs:Sep E K (Cl b e cs :: L) w):Sep E K (Row Hp.nil e t (.slice (some ⟨b,0,none⟩) m m) xs :: L) w:=by
 have hm:=Nat.le_of_ble_eq_true hm
 subst hl
 refine hs.mono (fun h ha=>?_)
 obtain rfl:h=_:=ha
 exact ⟨cs,he,he.len,.inr ⟨b,xs.length,cs.toArray,rfl,rfl,Nat.le_refl _,by unfold maxLen; omega,by rw [List.size_toArray]; exact he.len,by simp [← he.len]⟩⟩
end
section
variable {P:Program} {K0:Hp}
theorem V.subA {tx e:TypeId} {tp:Tp} {b m:Nat} {s z:List tp.den} {l h:Int} (ht:P.underlying tx=some (.array m e)) (hz:(P.info? e).map (·.size)=some tp.size) (hl:s.length=m) (hs:Is K0 (.sl tp) [.slice (some ⟨b,0,none⟩) m m] s) (hy:subL s l h=some z) :
   ∃ ad' cp',(∀ {n:Nat} {C:World→Prop} {ρ:Sl0} {d:Option Nat} {t:TypeId} {pos:String} {af:Array Edge} {g:Option (Nat×Bool)} {x:Operand} {lo hi:Option Operand},ev n ρ x = .pointer (some ⟨b,0,none⟩)→(∀ q,lo=some q→∃ k,ev n ρ q = .int k l)→(lo=none→l=0)→(∀ q,hi=some q→∃ k,ev n ρ q = .int k h)→(hi=none→h=(m:Nat)) →
     Val P n C ρ ⟨d,.slice tx x lo hi none,t,pos,af,g⟩ (.slice ad' z.length cp'))∧Is K0 (.sl tp) [.slice ad' z.length cp'] z:=by
 subst hl
 obtain ⟨a1,a2,a3,rfl⟩:=fu hy
 obtain ⟨l,rfl⟩:=Int.eq_ofNat_of_zero_le a1
 obtain ⟨h,rfl⟩:=Int.eq_ofNat_of_zero_le (show 0≤h by omega)
 have b1:l≤h:=by omega
 have b2:h≤s.length:=by omega
 simp only [Int.toNat_natCast]
 have hlen:((s.take h).drop l).length=h - l:=by rw [List.length_drop,List.length_take]; omega
 refine ⟨some (if s.length=l then ⟨b,0,none⟩ else ⟨b,0 + l * tp.size,none⟩),s.length - l,?_,by rw [hlen]; exact hs.part l h b1 b2⟩
 intro n C ρ d t pos af g x lo hi hx hl hl0 hh hh0 w _
 rw [hlen]
 cases hi':P.info? e with
 | none=>rw [hi'] at hz; simp at hz
 | some i' =>
   rw [hi'] at hz
   simp at hz
   cases lo with
   | none =>
     have:=hl0 rfl
     obtain rfl:l=0:=by omega
     cases hi with
     | none =>
       have:=hh0 rfl
       obtain rfl:h=s.length:=by omega
       simp [execOp,hx,Instr.sliceAt,run_underlying ht,Instr.sureAddr,Instr.sliceBounds,sizeOf,typeInfo,hi',hz,aX]
     | some q =>
       obtain ⟨k,hq⟩:=hh q rfl
       simp [execOp,hx,hq,Instr.sliceAt,run_underlying ht,Instr.sureAddr,Instr.sliceBounds,Instr.sliceBound,asIntOf,b2,sizeOf,typeInfo,hi',hz,aX]
       try (by_cases q:s.length=0 <;> simp [q])
   | some ql =>
     obtain ⟨k1,hq1⟩:=hl ql rfl
     cases hi with
     | none =>
       have:=hh0 rfl
       obtain rfl:h=s.length:=by omega
       simp [execOp,hx,hq1,Instr.sliceAt,run_underlying ht,Instr.sureAddr,Instr.sliceBounds,Instr.sliceBound,asIntOf,b1,sizeOf,typeInfo,hi',hz,aX]
       try (by_cases q:s.length=l <;> simp [q])
     | some q =>
       obtain ⟨k,hq⟩:=hh q rfl
       simp [execOp,hx,hq,hq1,Instr.sliceAt,run_underlying ht,Instr.sureAddr,Instr.sliceBounds,Instr.sliceBound,asIntOf,b1,b2,sizeOf,typeInfo,hi',hz,aX]
       try (by_cases q:s.length=l <;> simp [q])
theorem AV {α:Type} {xs:List α} {i:Int} {m:Nat} (h:i < (xs.length:Nat)) (hl:xs.length=m):i < (m:Nat):=by subst hl; exact h
end
end
set_option maxRecDepth 20000
section
theorem A2:Inf Tryz.prog 79 (.agg #[.int .u8 0,.int .u8 0,.int .u8 0,.int .u8 0,.int .u8 0,.int .u8 0,.int .u8 0,.int .u8 0,.int .u8 0,.int .u8 0,.int .u8 0,.int .u8 0,.int .u8 0,.int .u8 0,.int .u8 0,.int .u8 0,.int .u8 0,.int .u8 0,.int .u8 0,.int .u8 0]) 20 20:=by unfold Inf; kernel_rfl
theorem sz5:(Tryz.prog.info? 5).map (·.size)=some 1:=by kernel_rfl
theorem EQ:Tryz.prog.follows .mixedOrders=true:=by kernel_rfl
def iy  : (Int×(List Int)×Int)→Option ((Int×(List Int)×Int)⊕List UInt8):=fun ((i262,l263,i266):(Int×(List Int)×Int))=>(aa l263 (IntKind.wrap .i64 (i266 - 1))).bind fun x295=>(some (l263.set (IntKind.wrap .i64 (i266 - 1)).toNat (IntKind.wrap .u8 (IntKind.wrap .i64 (48 + (Int.tmod i262 10)))))).bind fun z300=>cond (decide ((IntKind.wrap .i64 (Int.tdiv i262 10))=0)) ((subL z300 (IntKind.wrap .i64 (i266 - 1)) (((20:Nat):Int))).bind fun y308=>some (.inr (bq y308))) (some (.inl ((IntKind.wrap .i64 (Int.tdiv i262 10),z300,IntKind.wrap .i64 (i266 - 1)))))
def be (xa:Int):Option (List UInt8) :=
  cond (decide (xa < 0)) (some (([]:List UInt8))) (loop (iy) ((xa,([0,0,0,0,0,0,0,0,0,0,0,0,0,0,0,0,0,0,0,0]:List Int),20)))
set_option maxRecDepth 100000 in
set_option maxHeartbeats 4000000 in
theorem vY {K:Hp} {xa:Int}   {r:List UInt8} (h:be xa=some r) :
    Tr Tryz.prog 16 #[ii xa] K [] (fun v K' L'=>(∃ (s157:List UInt8),s157=r ∧ .string ⟨s157.toArray⟩=v∧L'=[])∧K=K'):=by
 refine Tr.k <| Tr.of Tryz.func16 rfl Tryz.ntmps16 rfl fun E F=>?_
 unfold be at h
 refine cr <| ja (.string ⟨([]:List UInt8).toArray⟩) rfl <| J.nil <| CJ.seq <| CJ.seq <| CJ.region ?_
 refine jm (ii xa) rfl <| jv (.bool (decide (xa < 0))) (V.lss rfl rfl) <| J.nil <| cc rfl h (fun hc158 h=>?_) fun hc158 h=>?_
 . refine cr <| ja (.string ⟨([]:List UInt8).toArray⟩) rfl <| J.nil <| CJ.ret ?_
   obtain rfl:=si h
   exact ⟨_,_,Res.one rfl rfl,⟨([]:List UInt8),rfl,rfl,rfl⟩,(Hp.le_refl _),fun w hs=>hs⟩
 refine CJ.skip <| cr <| jal A2 [.int .u8 0,.int .u8 0,.int .u8 0,.int .u8 0,.int .u8 0,.int .u8 0,.int .u8 0,.int .u8 0,.int .u8 0,.int .u8 0,.int .u8 0,.int .u8 0,.int .u8 0,.int .u8 0,.int .u8 0,.int .u8 0,.int .u8 0,.int .u8 0,.int .u8 0,.int .u8 0] rfl fun b159=>?_
 have hl160:([0,0,0,0,0,0,0,0,0,0,0,0,0,0,0,0,0,0,0,0]:List Int).length=20:=rfl
 refine J.by (fun w hs=>Sep.arr (t:=(.int .u8)) (xs:=([0,0,0,0,0,0,0,0,0,0,0,0,0,0,0,0,0,0,0,0]:List Int)) ⟨_,_,rfl,rfl,⟨_,_,rfl,rfl,⟨_,_,rfl,rfl,⟨_,_,rfl,rfl,⟨_,_,rfl,rfl,⟨_,_,rfl,rfl,⟨_,_,rfl,rfl,⟨_,_,rfl,rfl,⟨_,_,rfl,rfl,⟨_,_,rfl,rfl,⟨_,_,rfl,rfl,⟨_,_,rfl,rfl,⟨_,_,rfl,rfl,⟨_,_,rfl,rfl,⟨_,_,rfl,rfl,⟨_,_,rfl,rfl,⟨_,_,rfl,rfl,⟨_,_,rfl,rfl,⟨_,_,rfl,rfl,⟨_,_,rfl,rfl,rfl⟩⟩⟩⟩⟩⟩⟩⟩⟩⟩⟩⟩⟩⟩⟩⟩⟩⟩⟩⟩ hl160 rfl hs) <| J.nil <| cr <| ja (ii 20) rfl <| J.nil <| CJ.block ?_
 refine CJ.loop (fun s ρ K' L'=>∃ (i262:Int) (l263:(List Int)) (i266:Int),(i262,l263,i266)=s∧Fits [(0,ii i262),(3,.pointer (some ⟨b159,0,none⟩)),(4,ii i266)] ρ∧K=K'∧L'=Row Hp.nil 79 (.int .u8) (.slice (some ⟨b159,0,none⟩) 20 20) l263 :: F) h ⟨xa,([0,0,0,0,0,0,0,0,0,0,0,0,0,0,0,0,0,0,0,0]:List Int),20,rfl,⟨rfl,rfl,rfl,trivial⟩,rfl,rfl⟩ ?_
 rintro s ρ _ _ r294 ⟨i262,l263,i266,rfl,hf292,rfl,rfl⟩ h291
 obtain ⟨ρ,rfl⟩:=hf292.ex
 refine CJ.wit Row.len fun hl265=>CJ.block <| cr <| jm (ii i266) rfl <| jv (ii (IntKind.wrap .i64 (i266 - 1))) (V.sub rfl rfl) <| ja (ii (IntKind.wrap .i64 (i266 - 1))) rfl ?_
 refine J.nil <| cr <| jm (ii (IntKind.wrap .i64 (i266 - 1))) rfl <| jm (ii i262) rfl <| jv (ii (Int.tmod i262 10)) (V.rem rfl rfl (by decide)) <| jv (ii (IntKind.wrap .i64 (48 + (Int.tmod i262 10)))) (V.add rfl rfl) ?_
 refine jv (.int .u8 (IntKind.wrap .u8 (IntKind.wrap .i64 (48 + (Int.tmod i262 10))))) (V.conv Tryz.underlying3 Tryz.underlying5 rfl) ?_
 obtain ⟨x295,hx296,h291⟩:=ob h291
 obtain ⟨p297,p298,p299⟩:=cY hx296
 refine jv _ (V.iadA Tryz.underlying79 sz5 rfl rfl p297 (AV p299 hl265)) ?_
 obtain ⟨z300,hz301,h291⟩:=ob h291
 have e302:=Option.some.inj hz301
 have hl303:z300.length=20:=by rw [← e302,List.length_set]; exact hl265
 refine J.op rfl (A.storeR (ty:=(.int .u8)) (q:=0) (y0:=IntKind.wrap .u8 (IntKind.wrap .i64 (48 + (Int.tmod i262 10)))) (zs:=z300) sz5 rfl rfl rfl rfl rfl p298 (by simp [Tp.size]) (by decide) (by rintro _ rfl; exact rfl) e302) ?_
 rintro _ _ _ ⟨rfl,rfl,rfl⟩
 refine J.nil <| cr <| jm (ii i262) rfl <| jv (ii (IntKind.wrap .i64 (Int.tdiv i262 10))) (V.quo rfl rfl (by decide)) <| ja (ii (IntKind.wrap .i64 (Int.tdiv i262 10))) rfl <| J.nil ?_
 refine cr <| jm (ii (IntKind.wrap .i64 (Int.tdiv i262 10))) rfl <| jv (.bool (decide ((IntKind.wrap .i64 (Int.tdiv i262 10))=0))) (V.eql rfl rfl) <| J.nil <| cc rfl h291 (fun hc304 h291=>?_) fun hc304 h291=>?_
 . refine cr <| jm (ii (IntKind.wrap .i64 (i266 - 1))) rfl <| J.persist (Hp.nil_le _) (by decide) fun K305 hK306 f307=>?_
   obtain ⟨y308,hy309,h291⟩:=ob h291
   obtain ⟨ad310,cp311,hv312,f313⟩:=V.subA (tp:=(.int .u8)) Tryz.underlying79 sz5 hl303 f307 hy309
   refine jv (.slice ad310 y308.length cp311) (hv312 rfl (fun _ h=>by cases h; exact ⟨_,rfl⟩) nofun nofun (fun _=>rfl)) <| jv (.string ⟨(bq y308).toArray⟩) (V.b2sK Tryz.underlying80 Tryz.underlying5 Tryz.underlying9 rfl f313 (Hp.le_refl _)) <| ja (.string ⟨(bq y308).toArray⟩) rfl <| J.nil <| CJ.ret ?_
   obtain rfl:=si h291
   refine ⟨nofun,fun e=>?_⟩
   subst e
   exact ⟨_,_,Res.one rfl rfl,⟨bq y308,rfl,rfl,rfl⟩,hK306,fun w hs=>hs⟩
 refine CJ.skip ?_
 obtain rfl:=si h291
 exact ⟨rfl,⟨IntKind.wrap .i64 (Int.tdiv i262 10),z300,IntKind.wrap .i64 (i266 - 1),rfl,⟨rfl,rfl,rfl,trivial⟩,rfl,rfl⟩⟩

def dx:Nat→Int→Option (List UInt8)
  | 0,_=>none
  | fuel + 1,xa=>cond (decide (xa < 0)) (some (([]:List UInt8))) (cond (decide (xa < 10)) ((subL ([48,49,50,51,52,53,54,55,56,57]:List UInt8) xa (IntKind.wrap .i64 (xa + 1))).bind fun y37=>some (y37)) ((subL ([48,49,50,51,52,53,54,55,56,57]:List UInt8) (Int.tmod xa 10) (IntKind.wrap .i64 ((Int.tmod xa 10) + 1))).bind fun y49=>(dx fuel (IntKind.wrap .i64 (Int.tdiv xa 10))).bind fun s53=>(app s53 y49).bind fun z57=>some (z57)))
def bL (xa:Int):Option (List UInt8):=lev (fun n=>dx n xa)
set_option maxRecDepth 100000 in
set_option maxHeartbeats 4000000 in
theorem wc:∀ (fuel:Nat) {K:Hp} {xa:Int}   {r:List UInt8} (h:dx fuel xa=some r),
    Tr Tryz.prog 20 #[ii xa] K [] (fun v K' L'=>(∃ (s34:List UInt8),s34=r ∧ .string ⟨s34.toArray⟩=v∧L'=[])∧K=K'):=by
  intro fuel
  induction fuel with
  | zero=>intro K xa r h; rw [dx] at h; cases h
  | succ fuel ih =>
    intro K xa r h
    refine Tr.k <| Tr.of Tryz.func20 rfl Tryz.ntmps20 rfl fun E F=>?_
    rw [dx] at h
    refine cr <| ja (.string ⟨([]:List UInt8).toArray⟩) rfl <| J.nil <| CJ.seq <| CJ.seq <| CJ.region ?_
    refine jm (ii xa) rfl <| jv (.bool (decide (xa < 0))) (V.lss rfl rfl) <| J.nil <| cc rfl h (fun hc35 h=>?_) fun hc35 h=>?_
    . refine cr <| ja (.string ⟨([]:List UInt8).toArray⟩) rfl <| J.nil <| CJ.ret ?_
      obtain rfl:=si h
      exact ⟨_,_,Res.one rfl rfl,⟨([]:List UInt8),rfl,rfl,rfl⟩,(Hp.le_refl _),fun w hs=>hs⟩
    refine CJ.skip <| CJ.seq <| cr <| jm (ii xa) rfl <| jv (.bool (decide (xa < 10))) (V.lss rfl rfl) <| J.nil ?_
    refine cc rfl h (fun hc36 h=>?_) fun hc36 h=>?_
    . refine cr <| jm (ii xa) rfl <| jm (ii xa) rfl <| jv (ii (IntKind.wrap .i64 (xa + 1))) (V.add rfl rfl) ?_
      obtain ⟨y37,hy38,h⟩:=ob h
      refine jv (.string ⟨y37.toArray⟩) (V.subs Tryz.underlying9 rfl (fun _ h=>by cases h; exact ⟨_,rfl⟩) nofun (fun _ h=>by cases h; exact ⟨_,rfl⟩) nofun hy38) <| ja (.string ⟨y37.toArray⟩) rfl <| J.nil <| CJ.ret ?_
      obtain rfl:=si h
      exact ⟨_,_,Res.one rfl rfl,⟨y37,rfl,rfl,rfl⟩,(Hp.le_refl _),fun w hs=>hs⟩
    refine CJ.skip <| CJ.seq <| CJ.mix [] [([0,1,3,4,5,6,7,8],2)] [9,10] [] EQ (by decide +kernel) trivial rfl rfl rfl <| JM.cons <| qm (ii xa) rfl <| qv (ii (IntKind.wrap .i64 (Int.tdiv xa 10))) (V.quo rfl rfl (by decide)) <| qm (ii xa) rfl ?_
    refine qv (ii (Int.tmod xa 10)) (V.rem rfl rfl (by decide)) <| qm (ii xa) rfl <| qv (ii (Int.tmod xa 10)) (V.rem rfl rfl (by decide)) <| qv (ii (IntKind.wrap .i64 ((Int.tmod xa 10) + 1))) (V.add rfl rfl) ?_
    obtain ⟨y49,hy50,h⟩:=ob h
    refine qv (.string ⟨y49.toArray⟩) (V.subs Tryz.underlying9 rfl (fun _ h=>by cases h; exact ⟨_,rfl⟩) nofun (fun _ h=>by cases h; exact ⟨_,rfl⟩) nofun hy50) <| JQ.nil ?_
    obtain ⟨r51,hr52,h⟩:=ob h
    refine JA.op rfl (A.call (L1:=[]) Tryz.call20 rfl (ih hr52) rfl rfl) ?_
    rintro _ _ _ ⟨v54,_,rfl,⟨⟨s53,rfl,rfl,rfl⟩,rfl⟩,_,rfl⟩
    refine ⟨fun w hs=>Hold.sub (Hp.le_refl _) trivial hs,?_⟩
    refine JM.nil ?_
    obtain ⟨z57,hz58,h⟩:=ob h
    refine qv (.string ⟨z57.toArray⟩) (V.cat rfl rfl hz58) <| qa (.string ⟨z57.toArray⟩) rfl <| JQ.nil <| J.nil <| CJ.ret ?_
    obtain rfl:=si h
    exact ⟨_,_,Res.one rfl rfl,⟨z57,rfl,rfl,rfl⟩,(Hp.le_refl _),fun w hs=>hs⟩
set_option maxRecDepth 100000 in
set_option maxHeartbeats 4000000 in
theorem wv {K:Hp} {xa:Int}   {r:List UInt8} (h:bL xa=some r) :
    Tr Tryz.prog 20 #[ii xa] K [] (fun v K' L'=>(∃ (s34:List UInt8),s34=r ∧ .string ⟨s34.toArray⟩=v∧L'=[])∧K=K'):=by
  obtain ⟨n,hn⟩:=za h
  exact wc n  hn
variable [BldA]
theorem sP {P:Program} {f:Nat} {fn:Int→Option (List UInt8)} (ok:∀ {K:Hp} {xa:Int} {r:List UInt8},fn xa=some r→Tr P f #[ii xa] K [] (fun v K' L'=>(∃ s:List UInt8,s=r ∧ .string ⟨s.toArray⟩=v∧L'=[])∧K=K')):bI P ⟨f,⟨[(0,.dat (.int .i64))],[]⟩,[⟨[(0,.dat .str)],[]⟩],fn⟩:=by
  intro x r hr vs u hu m K args hgk hm hH hsl E w F hs
  have hu':Sh.un ⟨[(0,.dat (.int .i64))],[]⟩ (TL.list [Tp.int .i64] x) 0=some ([(0,.int .i64 x)],⟨[],0,[],[]⟩):=rfl
  rw [show (Spec.inn ⟨f,⟨[(0,.dat (.int .i64))],[]⟩,[⟨[(0,.dat .str)],[]⟩],fn⟩).un (TL.list _ x) 0=_ from hu'] at hu
  cases hu
  obtain ⟨v,q,rfl,h1,rfl⟩:=hsl
  obtain rfl:v=ii x:=h1
  refine (ok (K:=K) hr E w F hs).mono ?_
  rintro e w' ⟨v,K',L',rfl,⟨⟨s,rfl,rfl,rfl⟩,rfl⟩,h1,h2⟩
  exact ⟨_,K,[],rfl,⟨[(0,.str s)],⟨[],0,[],[]⟩,m,rfl,List.prefix_rfl,hm,fun a h=>(by cases h),rfl,rfl⟩,h1,h2⟩
theorem zO {P:Program} {f:Nat} {fn:List (List UInt8)→List UInt8→Option (List UInt8)} (ok:∀ {K:Hp} {xa:List (List UInt8)} {xb:List UInt8} {ad:Option Addr} {cp:Nat} (fa:Is K (.sl .str) [.slice ad xa.length cp] xa) {r:List UInt8},fn xa xb=some r→Tr P f #[.slice ad xa.length cp,.string ⟨xb.toArray⟩] K [] (fun v K' L'=>(∃ s1:List UInt8,s1=r∧v = .string ⟨s1.toArray⟩∧L'=[])∧K=K')):bI P ⟨f,⟨[(0,.dat (.sl .str)),(1,.dat .str)],[]⟩,[⟨[(0,.dat .str)],[]⟩],fun x=>fn x.1 x.2⟩:=by
  intro x r hr vs u hu m K args hgk hm hH hsl E w F hs
  have hu':Sh.un ⟨[(0,.dat (.sl .str)),(1,.dat .str)],[]⟩ (TL.list [Tp.sl .str,Tp.str] x) 0=some ([(0,.row .str x.1 (List.length (α:=List UInt8) x.1)),(1,.str x.2)],⟨[],0,[],[]⟩):=rfl
  rw [show (Spec.inn ⟨f,⟨[(0,.dat (.sl .str)),(1,.dat .str)],[]⟩,[⟨[(0,.dat .str)],[]⟩],fun x=>fn x.1 x.2⟩).un (TL.list _ x) 0=_ from hu'] at hu
  cases hu
  obtain ⟨v,q,rfl,h1,v2,q2,rfl,h2,rfl⟩:=hsl
  obtain rfl:v2 = .string ⟨x.2.toArray⟩:=h2
  obtain ⟨fa,_⟩:=h1
  have fa0:=fa
  simp only [Is] at fa
  obtain ⟨ad,cp,e0,_⟩:=fa
  simp only [List.cons.injEq,and_true] at e0
  subst e0
  refine (ok (K:=K) fa0 hr E w F hs).mono ?_
  rintro e w' ⟨v,K',L',rfl,⟨⟨s,rfl,rfl,rfl⟩,rfl⟩,h1,h2⟩
  exact ⟨_,K,[],rfl,⟨[(0,.str s)],⟨[],0,[],[]⟩,m,rfl,List.prefix_rfl,hm,fun a h=>(by cases h),rfl,rfl⟩,h1,h2⟩
def qK:Spec:=⟨16,⟨[(0,.dat (.int .i64))],[]⟩,[⟨[(0,.dat .str)],[]⟩],be⟩
theorem vW:bI Tryz.prog qK:=sP fun h=>vY h
def bP:OkSpec Tryz.prog:=⟨qK,vW,Tryz.call16⟩
def qQ:Spec:=⟨20,⟨[(0,.dat (.int .i64))],[]⟩,[⟨[(0,.dat .str)],[]⟩],bL⟩
theorem wj:bI Tryz.prog qQ:=sP fun h=>wv h
def cx:OkSpec Tryz.prog:=⟨qQ,wj,Tryz.call20⟩
def tA:Spec:=⟨19,⟨[(0,.dat (.sl .str)),(1,.dat .str)],[]⟩,[⟨[(0,.dat .str)],[]⟩],fun x=>dM x.1 x.2⟩
theorem zL:bI Tryz.prog tA:=zO vU
def pn:OkSpec Tryz.prog:=⟨tA,zL,Tryz.call19⟩
end
set_option maxRecDepth 100000
set_option maxHeartbeats 4000000
section
open Go.RowKit _root_.Go.Proofs.Tryz
abbrev bkO (i:Nat) (o:OT):Bk:=⟨some i,0,[],false,false,some o,false⟩
abbrev bkC (i:Nat) (e:TypeId) (ks:List Kd):Bk:=⟨some i,e,ks,false,false,none,false⟩
abbrev bkN (e:TypeId) (ks:List Kd):Bk:=⟨none,e,ks,false,false,none,false⟩
abbrev bkU (i:Nat):Bk:=⟨some i,0,[],false,true,none,false⟩
abbrev bkM:Bk:=⟨none,0,[],false,true,none,false⟩
abbrev kdI (i:Nat):Nat×Kd:=(i,.dat (.int .i64))
abbrev kdB (i:Nat):Nat×Kd:=(i,.dat .bool)
abbrev Tq1:Type:=(Int×Int×(List (Int×Int))×(List (List (Int×Bool)))×(List (Int×Bool))×(List (Int×(List (Int×Int))×(List (List (Int×Bool)))×(List (Int×Bool))))×(List ((List (Int×Int×Int×Int×Bool))×(Int×Int×Int×(List Int)×(List Int)×(List Int)))))
abbrev Yq1:Tp:=(.cons (.int .i64) (.cons (.int .i64) (.cons (.sl (.cons (.int .i64) (.one (.int .i64)))) (.cons (.sl (.one (.sl (.cons (.int .i64) (.one .bool))))) (.cons (.one (.sl (.cons (.int .i64) (.one .bool)))) (.cons (.sl (.cons (.int .i64) (.cons (.sl (.cons (.int .i64) (.one (.int .i64)))) (.cons (.sl (.one (.sl (.cons (.int .i64) (.one .bool))))) (.one (.one (.sl (.cons (.int .i64) (.one .bool))))))))) (.one (.sl (.cons (.sl (.cons (.int .i64) (.cons (.int .i64) (.cons (.int .i64) (.cons (.int .i64) (.one .bool)))))) (.one (.cons (.int .i64) (.cons (.int .i64) (.cons (.int .i64) (.cons (.sl (.int .i64)) (.cons (.sl (.int .i64)) (.one (.sl (.int .i64))))))))))))))))))
abbrev Yq2:Tp:=(.int .i64)
abbrev Tq2:Type:=((List (Int×Int×Int×Int×Bool))×(Int×Int×Int×(List Int)×(List Int)×(List Int)))
abbrev Tq3:Type:=(Int×(List (Int×Int))×(List (List (Int×Bool)))×(List (Int×Bool)))
abbrev Yq3:Tp:=(.cons Yq2 (.one .bool))
abbrev Tq4:Type:=(List (Int×Bool))
abbrev Yq4:Tp:=(.cons Yq2 (.cons Yq2 (.cons Yq2 (.cons (.sl Yq2) (.cons (.sl Yq2) (.one (.sl Yq2)))))))
abbrev Tq5:Type:=(List UInt8)
abbrev Tq6:Type:=(Int×Int×Int×Int×Bool)
abbrev Yq5:Tp:=(.cons Yq2 (.cons Yq2 (.cons Yq2 Yq3)))
abbrev Yq6:Tp:=(.one (.sl Yq3))
abbrev Tq7:Type:=(Int×Int×(List (Int×Int))×(List Tq4)×Tq4×(List Tq3)×(List Tq2)×Int×Int×List UInt8)
abbrev Yq7:Tp:=(.cons Yq2 (.one Yq2))
abbrev Tq8:Type:=(List (Int×Int))
abbrev Tq9:Type:=(List UInt8×Int)
abbrev fU:Type:=(Int×Int×Int×(List Int)×(List Int)×(List Int))
abbrev bU:Type:=((List Tq5)×Int)
abbrev dn:Type:=(Int×Int×Int×Int)
abbrev qq:Type:=(Int×Int×Tq8×(List Tq4)×Tq4×(List Tq3)×(List Tq2)×Int×Int)
abbrev mX:Type:=((Int×Int×Tq8×(List Tq4)×Tq4×(List Tq3)×(List Tq2)×Int×(List Tq5)×Int))
abbrev Yq8:Tp:=(.cons Yq2 (.cons (.sl Yq7) (.cons (.sl Yq6) (.one Yq6))))
abbrev ce:Type:=((List Tq6)×Int)
instance nob:BldA:=⟨87,Bld,fun h=>Bld.fresh h,Gk,Gk.monoC⟩
def AK:OkSpec Tryz.prog:=⟨px,AI (fun _ h=>h),call116⟩
def js:OkSpec Tryz.prog:=⟨oB,yI (fun _ h=>h),call28⟩
def yH:OkSpec Tryz.prog:=⟨oD,yS (fun _ h=>h),call69⟩
def wz:OkSpec Tryz.prog:=⟨nY,wC (fun _ _=>rfl),call78⟩
def qN:OkSpec Tryz.prog:=⟨nQ,wd (fun _ _=>rfl),call42⟩
def w8:OkSpec Tryz.prog:=⟨oq,xi (fun _ _=>rfl),call43⟩

def fd (xa:Tq4) (xb:Int):Option Bool :=
 some (decide ((xa.length:Int)≤xb))
def hQ0:Hn Tryz.prog := .nil
def sQ0:Spec:=⟨11,⟨[(0,.dat Yq6),kdI 1],[]⟩,[⟨[kdB 0],[]⟩],fun x=>fd x.1 x.2⟩
def oQ0:OkSpec Tryz.prog:=⟨sQ0,ah func11 hQ0 (by kernel_rfl) (by kernel_rfl),call11⟩
def qL (xa:Tq3):Int→Option (Int⊕(Unit⊕Bool)):=fun i1=>cond (decide (i1 < (xa.2.2.1.length:Int))) ((aa xa.2.2.1 i1).bind fun x2=>(fd x2 20).bind fun t3=>cond (!t3) (some (.inr ((.inr (false))))) (some (.inl (IntKind.wrap .i64 (i1 + 1))))) (some (.inr ((.inl ()))))
def d6 (xa:Tq3):Option Bool :=
 (cond ((decide (20 < (xa.2.1.length:Int)))||(decide (20 < (xa.2.2.1.length:Int)))) (some (true)) ((fd xa.2.2.2 20).bind fun t1=>some (!t1))).bind fun t2=>cond (t2) (some (false)) ((loop (qL xa) 0).bind fun o=>match o with | .inr r=>some r | .inl ()=>some (true))
def hQ1:Hn Tryz.prog := .gp 4 (.wt 14 (.gj 4 ⟨[kdB 19],[]⟩ [] (.two 14 .nil (.cl oQ0 [] .nil)) (.tw 19 .nil (.jx [] ⟨[],[]⟩ [] (.lp ⟨[kdI 3],[]⟩ (.tw 24 (.cl oQ0 [] (.tw 33 .nil .nil)) .nil)) .nil))))
def sQ1:Spec:=⟨12,⟨[(0,.dat Yq8)],[]⟩,[⟨[kdB 0],[]⟩],fun x=>d6 x⟩
def oQ1:OkSpec Tryz.prog:=⟨sQ1,ah func12 hQ1 (by kernel_rfl) (by kernel_rfl),call12⟩
def qJ (xa:Tq1):Int→Option (Int⊕(Unit⊕Bool)):=fun i1=>cond (decide (i1 < (xa.2.2.2.1.length:Int))) ((aa xa.2.2.2.1 i1).bind fun x2=>(fd x2 20).bind fun t3=>cond (!t3) (some (.inr ((.inr (false))))) (some (.inl (IntKind.wrap .i64 (i1 + 1))))) (some (.inr ((.inl ()))))
def f9 (xa:Tq1):Int→Option (Int⊕(Unit⊕Bool)):=fun i1=>cond (decide (i1 < (xa.2.2.2.2.2.1.length:Int))) ((aa xa.2.2.2.2.2.1 i1).bind fun x2=>(d6 (x2.1,x2.2.1,x2.2.2.1,x2.2.2.2)).bind fun t3=>cond (!t3) (some (.inr ((.inr (false))))) (some (.inl (IntKind.wrap .i64 (i1 + 1))))) (some (.inr ((.inl ()))))
def eP (xa:Tq1):(Int×Int)→Option ((Int×Int)⊕(Int⊕Bool)):=fun (i1,i2)=>cond (decide (i2 < (xa.2.2.2.2.2.2.length:Int))) ((aa xa.2.2.2.2.2.2 i2).bind fun x3=>(aa xa.2.2.2.2.2.2 i2).bind fun x4=>cond (((decide (20 < (x3.2.2.2.2.1.length:Int)))||(decide (20 < (x3.2.2.2.2.2.1.length:Int))))||(decide (20 < (x3.2.2.2.2.2.2.length:Int)))) (some (.inr ((.inr (false))))) (some (.inl ((IntKind.wrap .i64 (i1 + (x4.1.length:Int)),IntKind.wrap .i64 (i2 + 1)))))) (some (.inr (.inl i1)))
def eV (xa:Tq1):Option Bool :=
 (cond ((((decide (20 < (xa.2.2.1.length:Int)))||(decide (10 < (xa.2.2.2.1.length:Int))))||(decide (4 < (xa.2.2.2.2.2.1.length:Int))))||(decide (8 < (xa.2.2.2.2.2.2.length:Int)))) (some (true)) ((fd xa.2.2.2.2.1 20).bind fun t1=>some (!t1))).bind fun t2=>cond (t2) (some (false)) ((loop (qJ xa) 0).bind fun o=>match o with | .inr r=>some r | .inl ()=>(loop (f9 xa) 0).bind fun o=>match o with | .inr r=>some r | .inl ()=>(loop (eP xa) (0,0)).bind fun o=>match o with | .inr r=>some r | .inl i3=>some (decide (i3≤24)))
def hQ2:Hn Tryz.prog := .gp 4 (.wt 18 (.gp 4 (.wt 24 (.gp 4 (.wt 30 (.gj 4 ⟨[kdB 35],[]⟩ [] (.two 30 .nil (.cl oQ0 [] .nil)) (.tw 35 .nil (.jx [] ⟨[],[]⟩ [] (.lp ⟨[kdI 3],[]⟩ (.tw 40 (.cl oQ0 [] (.tw 49 .nil .nil)) .nil)) (.jx [] ⟨[],[]⟩ [] (.lp ⟨[kdI 4],[]⟩ (.tw 54 (.cl oQ1 [] (.tw 63 .nil .nil)) .nil)) (.jx [] ⟨[kdI 5],[]⟩ [] (.lp ⟨[kdI 5,kdI 6],[]⟩ (.tw 68 (.gp 4 (.wt 96 (.gp 4 (.tw 101 .nil .nil)))) .nil)) .nil))))))))))
def sQ2:Spec:=⟨4,⟨[(0,.dat Yq1)],[]⟩,[⟨[kdB 0],[]⟩],fun x=>eV x⟩
def oQ2:OkSpec Tryz.prog:=⟨sQ2,ah func4 hQ2 (by kernel_rfl) (by kernel_rfl),call4⟩

def qF (xa:Tq5) (xb:Tq5) (xc:Int):Option (List UInt8×List UInt8×Int) :=
 some ((xb,xa,xc))
def hQ3:Hn Tryz.prog := .nil
def sQ3:Spec:=⟨49,⟨[(0,.dat .str),(1,.dat .str),kdI 2],[]⟩,[⟨[(0,.fn 67 [.ptr 0 0,.ptr 1 0,.ptr 2 0])],[bkN 9 [.dat .str],bkN 9 [.dat .str],bkN 3 [.dat Yq2]]⟩],fun x=>qF x.1 x.2.1 x.2.2⟩
def oQ3:OkSpec Tryz.prog:=⟨sQ3,ah func49 hQ3 (by kernel_rfl) (by kernel_rfl),call49⟩

def nt (xa:Tq5) (xb:Tq5):Option (List UInt8×List UInt8×Int) :=
 (qF xa xb 0).bind fun (s20,s21,i22)=>some ((s20,s21,i22))
def hQ4:Hn Tryz.prog := .cl oQ3 [] .nil
def sQ4:Spec:=⟨26,⟨[(0,.dat .str),(1,.dat .str)],[]⟩,[⟨[(0,.fn 67 [.ptr 0 0,.ptr 1 0,.ptr 2 0])],[bkN 9 [.dat .str],bkN 9 [.dat .str],bkN 3 [.dat Yq2]]⟩],fun x=>nt x.1 x.2⟩
def oQ4:OkSpec Tryz.prog:=⟨sQ4,ah func26 hQ4 (by kernel_rfl) (by kernel_rfl),call26⟩
def vL (xa:List UInt8):Option (Int×Int):=none
def sQ5:Spec:=⟨68,⟨[(0,.dat .str)],[]⟩,[⟨[(0,.tup [.dat (.int .i32),.dat Yq2])],[]⟩],fun _=>none⟩
def oQ5:OkSpec Tryz.prog:=⟨sQ5,fun _ _ h=>(by cases h),call68⟩

def iF (xa:Tq5):Option Bool :=
 some (decide (xa=([]:List UInt8)))
def hQ6:Hn Tryz.prog := .nil
def sQ6:Spec:=⟨29,⟨[(0,.dat .str)],[]⟩,[⟨[kdB 0],[]⟩],fun x=>iF x⟩
def oQ6:OkSpec Tryz.prog:=⟨sQ6,ah func29 hQ6 (by kernel_rfl) (by kernel_rfl),call29⟩
def ki (xa:(List Tq5)):Int→Option (Int⊕(Unit⊕Int)):=fun i1=>cond (decide (i1 < (xa.length:Int))) ((aa xa i1).bind fun x2=>(iF x2).bind fun t3=>cond (t3) (some (.inr ((.inr (i1))))) (some (.inl (IntKind.wrap .i64 (i1 + 1))))) (some (.inr ((.inl ()))))
def kl (xa:(List Tq5)):Option Int :=
 (loop (ki xa) 0).bind fun o=>match o with | .inr r=>some r | .inl ()=>some ((-1))
def hQ7:Hn Tryz.prog := .jx [] ⟨[],[]⟩ [] (.lp ⟨[kdI 8],[]⟩ (.tw 9 (.cl oQ6 [] (.tw 16 .nil .nil)) .nil)) .nil
def sQ7:Spec:=⟨50,⟨[(0,.dat (.sl .str)),(1,.fn 29 [])],[]⟩,[⟨[kdI 0],[]⟩],fun x=>kl x⟩
def oQ7:OkSpec Tryz.prog:=⟨sQ7,ah func50 hQ7 (by kernel_rfl) (by kernel_rfl),call50⟩
def m9  : ((List Tq5)×Int×Int)→Option (((List Tq5)×Int×Int)⊕bU):=fun (l1,i2,i3)=>cond (decide (i3 < (l1.length:Int))) ((aa l1 i3).bind fun x4=>(iF x4).bind fun t5=>cond (!t5) ((aa l1 i2).bind fun x6=>(some (l1.set i2.toNat x4)).bind fun z7=>some (.inl ((z7,IntKind.wrap .i64 (i2 + 1),IntKind.wrap .i64 (i3 + 1))))) (some (.inl ((l1,i2,IntKind.wrap .i64 (i3 + 1)))))) (some (.inr (((l1,i2)))))
def f6 (qxa:(List Tq5)):Option ((List Tq5)) :=
 (kl qxa).bind fun i1=>cond (decide (i1=(-1))) (some (qxa)) ((loop (m9) ((qxa,i1,IntKind.wrap .i64 (i1 + 1)))).bind fun (l2,i3)=>(subL l2 i3 (l2.length:Int)).bind fun _=>(some (cpy l2 (i3:Int).toNat (List.replicate (((l2.length:Int):Int).toNat - (i3:Int).toNat) ([]:List UInt8)))).bind fun z4=>(subL z4 0 i3).bind fun y5=>some (y5))
def hQ8:Hn Tryz.prog := .cl oQ7 [0] (.tw 12 (.per 0 1 .nil) (.jn [] ⟨[(0,.own 9 .str),kdI 5,(8,.any)],[]⟩ [0] (.lp ⟨[(0,.own 9 .str),kdI 5,kdI 6],[]⟩ (.tw 19 (.cl oQ6 [] (.tw 29 .nil .nil)) .nil)) (.per 2 4 .nil)))
def sQ8:Spec:=⟨27,⟨[(0,.own 9 .str),(1,.fn 29 [])],[]⟩,[⟨[(0,.dat (.sl .str))],[]⟩],fun x=>f6 x⟩
def oQ8:OkSpec Tryz.prog:=⟨sQ8,ah func27 hQ8 (by kernel_rfl) (by kernel_rfl),call27⟩

def nj (xa:Tq5) (xb:Tq5):Option Bool :=
 (cond (decide ((xb.length:Int)≤(xa.length:Int))) ((subL xa 0 (xb.length:Int)).bind fun y14=>some (decide (y14=xb))) (some (false))).bind fun t12=>some (t12)
def hQ9:Hn Tryz.prog := .gj 6 ⟨[kdB 17],[]⟩ [] (.two 10 .nil .nil) .nil
def sQ9:Spec:=⟨52,⟨[(0,.dat .str),(1,.dat .str)],[]⟩,[⟨[kdB 0],[]⟩],fun x=>nj x.1 x.2⟩
def oQ9:OkSpec Tryz.prog:=⟨sQ9,ah func52 hQ9 (by kernel_rfl) (by kernel_rfl),call52⟩

def dX (xa:Tq5) (xb:Tq5):Option Bool :=
 (nj xa xb).bind fun t10=>some (t10)
def BH:Hn Tryz.prog := .cl oQ9 [] .nil
def D8:Spec:=⟨30,⟨[(0,.dat .str),(1,.dat .str)],[]⟩,[⟨[kdB 0],[]⟩],fun x=>dX x.1 x.2⟩
def qg:OkSpec Tryz.prog:=⟨D8,ah func30 BH (by kernel_rfl) (by kernel_rfl),call30⟩

def gg (xa:Tq5):Option (Int×Int) :=
 (cond (decide (xa=([98,111,117,110,100,115]:List UInt8))) (some (decide (xa=([98,111,117,110,100,115]:List UInt8)))) (some (decide (xa=([110,101,101,100,115]:List UInt8)))):Option Bool).bind fun t36=>cond (t36) (some ((1,9223372036854775807))) ((cond (decide (xa=([98,108,111,99,107]:List UInt8))) (some (decide (xa=([98,108,111,99,107]:List UInt8)))) (cond (decide (xa=([110,111,112]:List UInt8))) (some (decide (xa=([110,111,112]:List UInt8)))) (some (decide (xa=([114,101,116,117,114,110]:List UInt8))))):Option Bool).bind fun t41=>cond (t41) (some ((1,1))) ((cond (decide (xa=([108,111,99,97,108]:List UInt8))) (some (decide (xa=([108,111,99,97,108]:List UInt8)))) (cond (decide (xa=([103,105,118,101,115]:List UInt8))) (some (decide (xa=([103,105,118,101,115]:List UInt8)))) (cond (decide (xa=([97,114,103]:List UInt8))) (some (decide (xa=([97,114,103]:List UInt8)))) (cond (decide (xa=([117,115,101]:List UInt8))) (some (decide (xa=([117,115,101]:List UInt8)))) (cond (decide (xa=([100,101,97,100]:List UInt8))) (some (decide (xa=([100,101,97,100]:List UInt8)))) (some (decide (xa=([103,111,116,111]:List UInt8)))))))):Option Bool).bind fun t50=>cond (t50) (some ((2,2))) ((cond (decide (xa=([114,101,103,105,111,110,115]:List UInt8))) (some (decide (xa=([114,101,103,105,111,110,115]:List UInt8)))) (cond (decide (xa=([115,105,103]:List UInt8))) (some (decide (xa=([115,105,103]:List UInt8)))) (cond (decide (xa=([97,115,115,105,103,110]:List UInt8))) (some (decide (xa=([97,115,115,105,103,110]:List UInt8)))) (some (decide (xa=([115,119,105,116,99,104]:List UInt8)))))):Option Bool).bind fun t60=>cond (t60) (some ((3,3))) (cond (decide (xa=([98,111,114,114,111,119]:List UInt8))) (some ((4,5))) (cond (decide (xa=([114,101,98,111,114,114,111,119]:List UInt8))) (some ((4,5))) (some ((6,6))))))))
def ET:Hn Tryz.prog := .pl (.pl (.pl (.sq [] ⟨[kdB 5],[]⟩ [] (.tw 5 .nil .nil) (.tw 5 .nil (.sq [] ⟨[kdB 8],[]⟩ [] (.tw 8 .nil (.tw 8 .nil .nil)) (.tw 8 .nil (.sq [] ⟨[kdB 12],[]⟩ [] (.tw 12 .nil (.tw 12 .nil (.tw 12 .nil (.tw 12 .nil (.tw 12 .nil .nil))))) (.tw 12 .nil (.sq [] ⟨[kdB 19],[]⟩ [] (.tw 19 .nil (.tw 19 .nil (.tw 19 .nil .nil))) (.tw 19 .nil (.two 24 .nil (.tw 24 .nil .nil))))))))))))
def Dl:Spec:=⟨53,⟨[(0,.dat .str)],[]⟩,[⟨[(0,.tup [.dat Yq2,.dat Yq2])],[]⟩],fun x=>gg x⟩
def CQ:OkSpec Tryz.prog:=⟨Dl,ah func53 ET (by kernel_rfl) (by kernel_rfl),call53⟩
def ko (xa:(List Tq5)) (xb:Tq5):Int→Option (Int⊕(Unit⊕Int)):=fun i1=>cond (decide (i1 < (xa.length:Int))) ((aa xa i1).bind fun x2=>cond (decide (xb=x2)) (some (.inr ((.inr (i1))))) (some (.inl (IntKind.wrap .i64 (i1 + 1))))) (some (.inr ((.inl ()))))
def nk (xa:(List Tq5)) (xb:Tq5):Option Int :=
 (loop (ko xa xb) 0).bind fun o=>match o with | .inr r=>some r | .inl ()=>some ((-1))
def EA:Hn Tryz.prog := .jx [] ⟨[],[]⟩ [] (.lp ⟨[kdI 8],[]⟩ (.tw 9 (.tw 16 .nil .nil) .nil)) .nil
def DX:Spec:=⟨95,⟨[(0,.dat (.sl .str)),(1,.dat .str)],[]⟩,[⟨[kdI 0],[]⟩],fun x=>nk x.1 x.2⟩
def CV:OkSpec Tryz.prog:=⟨DX,ah func95 EA (by kernel_rfl) (by kernel_rfl),call95⟩

def aW (xa:(List Tq5)) (xb:Tq5):Option Bool :=
 (nk xa xb).bind fun i10=>some (decide (0≤i10))
def CU:Hn Tryz.prog := .cl CV [] .nil
def Cj:Spec:=⟨72,⟨[(0,.dat (.sl .str)),(1,.dat .str)],[]⟩,[⟨[kdB 0],[]⟩],fun x=>aW x.1 x.2⟩
def dO:OkSpec Tryz.prog:=⟨Cj,ah func72 CU (by kernel_rfl) (by kernel_rfl),call72⟩

def vK (xb:Tq5) (qa0:Int) (qa1:Int) (qa2:Tq8) (qa4:Tq4) (qa5:(List Tq3)) (qa6:(List Tq2)) (qa7:Int):Option ((Bool×Tq8×Tq4×(List Tq3)×(List Tq2))) :=
 cond (decide (qa7=0)) ((aW (([([114,101,103,105,111,110,115]:List UInt8)]:List Tq5)) xb).bind fun t3=>some ((t3,qa2,qa4,qa5,qa6))) (cond (decide (qa7=1)) ((aW (([([98,111,117,110,100,115]:List UInt8)]:List Tq5)) xb).bind fun t9=>some ((t9,qa2,qa4,qa5,qa6))) (cond (decide (qa7=2)) ((aW (([([108,111,99,97,108]:List UInt8),([103,105,118,101,115]:List UInt8)]:List Tq5)) xb).bind fun t10=>some ((t10,qa2,qa4,qa5,qa6))) (cond (decide (qa7=3)) ((aW (([([115,105,103]:List UInt8),([98,108,111,99,107]:List UInt8)]:List Tq5)) xb).bind fun t11=>some ((t11,qa2,qa4,qa5,qa6))) (cond (decide (qa7=4)) ((aW (([([110,101,101,100,115]:List UInt8)]:List Tq5)) xb).bind fun t12=>some ((t12,qa2,qa4,qa5,qa6))) (cond (decide (qa7=5)) ((aW (([([97,114,103]:List UInt8),([115,105,103]:List UInt8),([98,108,111,99,107]:List UInt8)]:List Tq5)) xb).bind fun t13=>some ((t13,qa2,qa4,qa5,qa6))) (cond (decide (qa7=6)) ((aW (([([110,111,112]:List UInt8),([97,115,115,105,103,110]:List UInt8),([98,111,114,114,111,119]:List UInt8),([114,101,98,111,114,114,111,119]:List UInt8),([117,115,101]:List UInt8),([100,101,97,100]:List UInt8),([103,111,116,111]:List UInt8),([115,119,105,116,99,104]:List UInt8),([114,101,116,117,114,110]:List UInt8),([99,97,108,108]:List UInt8)]:List Tq5)) xb).bind fun t14=>some ((t14,qa2,qa4,qa5,qa6))) (cond (decide (qa7=7)) ((aW (([([98,108,111,99,107]:List UInt8)]:List Tq5)) xb).bind fun t15=>some ((t15,qa2,qa4,qa5,qa6))) ((aW ([]) xb).bind fun t16=>some ((t16,qa2,qa4,qa5,qa6))))))))))
def qD (xa:Tq5):Int→Option (Int⊕(Unit⊕Bool)):=fun i1=>cond (decide (i1 < (xa.length:Int))) ((aa xa i1).bind fun x2=>(cond (decide ((((x2.toNat:Nat):Int)) < 48)) (some (true)) ((aa xa i1).bind fun x3=>some (decide (57 < (((x3.toNat:Nat):Int)))))).bind fun t4=>cond (t4) (some (.inr ((.inr (false))))) (some (.inl (IntKind.wrap .i64 (i1 + 1))))) (some (.inr ((.inl ()))))
def kw (xa:Tq5):Option Bool :=
 (cond (decide (xa=([]:List UInt8))) (some (true)) ((cond (decide (1 < (xa.length:Int))) ((aa xa 0).bind fun x1=>some (decide ((((x1.toNat:Nat):Int))=48))) (some (false))).bind fun t2=>some (t2))).bind fun t3=>cond (t3) (some (false)) ((loop (qD xa) 0).bind fun o=>match o with | .inr r=>some r | .inl ()=>some (true))
def CY:Hn Tryz.prog := .gj 8 ⟨[kdB 15],[]⟩ [] (.two 6 .nil (.wt 10 (.gj 3 ⟨[kdB 14],[]⟩ [] (.two 10 .nil .nil) .nil))) (.tw 15 .nil (.jx [] ⟨[],[]⟩ [] (.lp ⟨[kdI 3],[]⟩ (.tw 19 (.gj 4 ⟨[kdB 31],[]⟩ [] (.two 26 .nil .nil) (.tw 31 .nil .nil)) .nil)) .nil))
def Ey:Spec:=⟨115,⟨[(0,.dat .str)],[]⟩,[⟨[kdB 0],[]⟩],fun x=>kw x⟩
def Eb:OkSpec Tryz.prog:=⟨Ey,ah func115 CY (by kernel_rfl) (by kernel_rfl),call115⟩
def dw (xa:Tq5) (xb:Int):(Int×Int)→Option ((Int×Int)⊕(Int⊕(Int×Int))):=fun (i1,i2)=>cond (decide (i2 < (xa.length:Int))) ((aa xa i2).bind fun x3=>cond ((decide (xb < (IntKind.wrap .i64 (IntKind.wrap .u8 ((((x3.toNat:Nat):Int)) - 48)))))||(decide ((IntKind.wrap .i64 (Int.tdiv (IntKind.wrap .i64 (xb - (IntKind.wrap .i64 (IntKind.wrap .u8 ((((x3.toNat:Nat):Int)) - 48))))) 10)) < i1))) (some (.inr ((.inr ((0,5)))))) (some (.inl ((IntKind.wrap .i64 ((IntKind.wrap .i64 (i1 * 10)) + (IntKind.wrap .i64 (IntKind.wrap .u8 ((((x3.toNat:Nat):Int)) - 48)))),IntKind.wrap .i64 (i2 + 1)))))) (some (.inr (.inl i1)))
def dY (xa:Tq5) (xb:Int):Option (Int×Int) :=
 (kw xa).bind fun t88=>cond (!t88) (some ((0,3))) ((loop (dw xa xb) (0,0)).bind fun o=>match o with | .inr r=>some r | .inl i1=>some ((i1,0)))
def DV:Hn Tryz.prog := .cl Eb [] (.tw 11 .nil (.jx [] ⟨[kdI 6],[]⟩ [] (.lp ⟨[kdI 6,kdI 7],[]⟩ (.tw 15 (.gp 6 (.tw 33 .nil .nil)) .nil)) .nil))
def Eo:Spec:=⟨99,⟨[(0,.dat .str),kdI 1],[]⟩,[⟨[(0,.tup [.dat Yq2,.dat Yq2])],[]⟩],fun x=>dY x.1 x.2⟩
def j3:OkSpec Tryz.prog:=⟨Eo,ah func99 DV (by kernel_rfl) (by kernel_rfl),call99⟩
def ir (xb:Int) (l1:List Tq5):((List Int)×Int)→Option (((List Int)×Int)⊕((List Int)⊕((List Int)×Int))):=fun (l2,i3)=>cond (decide (i3 < (l1.length:Int))) ((aa l1 i3).bind fun x4=>(dY x4 xb).bind fun (i5,i6)=>cond (!decide (i6=0)) (some (.inr ((.inr (([],i6)))))) ((app l2 ([i5]:List Int)).bind fun z7=>some (.inl ((z7,IntKind.wrap .i64 (i3 + 1)))))) (some (.inr (.inl l2)))
def iu (xa:Tq5) (xb:Int):Option (((List Int)×Int)) :=
 cond (decide (xa=([]:List UInt8))) (some (([],0))) ((cJ xa ([44]:List UInt8)).bind fun l1=>(loop (ir xb l1) ([],0)).bind fun o=>match o with | .inr r=>some r | .inl l2=>some ((l2,0)))
def Bq:Hn Tryz.prog := .tw 12 .nil (.cl js [] (.jx [] ⟨[(6,.own 3 Yq2)],[]⟩ [] (.lp ⟨[(6,.own 3 Yq2),kdI 16],[]⟩ (.tw 17 (.cl j3 [] (.tw 27 .nil .nil)) .nil)) .nil))
def Cs:Spec:=⟨114,⟨[(0,.dat .str),kdI 1],[]⟩,[⟨[(0,.tup [.own 3 Yq2,.dat Yq2])],[]⟩],fun x=>iu x.1 x.2⟩
def Dc:OkSpec Tryz.prog:=⟨Cs,ah func114 Bq (by kernel_rfl) (by kernel_rfl),call114⟩

def nr (xa:Tq5):Option (((List Int)×Int)) :=
 cond (decide (xa=([45]:List UInt8))) (some (([],0))) ((iu xa 1048576).bind fun (l23,i24)=>some ((l23,i24)))
def Cr:Hn Tryz.prog := .tw 5 .nil (.cl Dc [] .nil)
def DT:Spec:=⟨113,⟨[(0,.dat .str)],[]⟩,[⟨[(0,.tup [.own 3 Yq2,.dat Yq2])],[]⟩],fun x=>nr x⟩
def BQ:OkSpec Tryz.prog:=⟨DT,ah func113 Cr (by kernel_rfl) (by kernel_rfl),call113⟩

def nf (qa0:(List Tq5)) (qa1:Int):Option (((List Int)×(List Tq5)×Int)) :=
 cond (!decide (qa1=0)) (some (([],qa0,qa1))) ((aa qa0 0).bind fun x40=>(nr x40).bind fun (l51,i52)=>(subL qa0 1 (qa0.length:Int)).bind fun y60=>some ((l51,y60,i52)))
def Cy:Hn Tryz.prog := .tw 10 .nil (.cl BQ [] .nil)
def B6:Spec:=⟨112,⟨[(0,.ptr 0 0),(1,.fn 113 [])],[bkN 102 [.dat (.sl .str),.dat Yq2]]⟩,[⟨[(0,.own 3 Yq2)],[bkC 0 102 [.dat (.sl .str),.dat Yq2]]⟩],fun x=>nf x.1 x.2⟩
def CG:OkSpec Tryz.prog:=⟨B6,ah func112 Cy (by kernel_rfl) (by kernel_rfl),call112⟩

def dv (qa0:(List Tq5)) (qa1:Int):Option (((List Int)×(List Tq5)×Int)) :=
 (nf qa0 qa1).bind fun (l28,l29,i30)=>some ((l28,l29,i30))
def Ek:Hn Tryz.prog := .cl CG [] .nil
def CP:Spec:=⟨96,⟨[(0,.ptr 0 0)],[bkN 102 [.dat (.sl .str),.dat Yq2]]⟩,[⟨[(0,.own 3 Yq2)],[bkC 0 102 [.dat (.sl .str),.dat Yq2]]⟩],fun x=>dv x.1 x.2⟩
def hY:OkSpec Tryz.prog:=⟨CP,ah func96 Ek (by kernel_rfl) (by kernel_rfl),call96⟩

def nq (xa:Tq5):Option (Int×Int) :=
 (dY xa 1048576).bind fun (i13,i14)=>some ((i13,i14))
def DN:Hn Tryz.prog := .cl j3 [] .nil
def Bs:Spec:=⟨98,⟨[(0,.dat .str)],[]⟩,[⟨[(0,.tup [.dat Yq2,.dat Yq2])],[]⟩],fun x=>nq x⟩
def Di:OkSpec Tryz.prog:=⟨Bs,ah func98 DN (by kernel_rfl) (by kernel_rfl),call98⟩

def nc (qa0:(List Tq5)) (qa1:Int):Option ((Int×(List Tq5)×Int)) :=
 cond (!decide (qa1=0)) (some ((0,qa0,qa1))) ((aa qa0 0).bind fun x31=>(nq x31).bind fun (i42,i43)=>(subL qa0 1 (qa0.length:Int)).bind fun y47=>some ((i42,y47,i43)))
def BN:Hn Tryz.prog := .tw 10 .nil (.cl Di [] .nil)
def Dm:Spec:=⟨97,⟨[(0,.ptr 0 0),(1,.fn 98 [])],[bkN 102 [.dat (.sl .str),.dat Yq2]]⟩,[⟨[kdI 0],[bkC 0 102 [.dat (.sl .str),.dat Yq2]]⟩],fun x=>nc x.1 x.2⟩
def DG:OkSpec Tryz.prog:=⟨Dm,ah func97 BN (by kernel_rfl) (by kernel_rfl),call97⟩

def bw (qa0:(List Tq5)) (qa1:Int):Option ((Int×(List Tq5)×Int)) :=
 (nc qa0 qa1).bind fun (i21,l22,i23)=>some ((i21,l22,i23))
def DB:Hn Tryz.prog := .cl DG [] .nil
def BK:Spec:=⟨75,⟨[(0,.ptr 0 0)],[bkN 102 [.dat (.sl .str),.dat Yq2]]⟩,[⟨[kdI 0],[bkC 0 102 [.dat (.sl .str),.dat Yq2]]⟩],fun x=>bw x.1 x.2⟩
def cK:OkSpec Tryz.prog:=⟨BK,ah func75 DB (by kernel_rfl) (by kernel_rfl),call75⟩

def eN (xa:Tq5) (qa0:(List Tq5)) (qa1:Int):Option ((Int×Int×Int×(List Int)×(List Int)×(List Int)×Bool×(List Tq5)×Int)) :=
 cond (decide (xa=([103,111,116,111]:List UInt8))) ((dv qa0 qa1).bind fun (l2,l3,i4)=>some ((1,0,0,l2,[],[],true,l3,i4))) (cond (decide (xa=([115,119,105,116,99,104]:List UInt8))) ((dv qa0 qa1).bind fun (l5,l6,i7)=>(dv l6 i7).bind fun (l9,l10,i11)=>some ((2,0,0,l5,l9,[],true,l10,i11))) (cond (decide (xa=([114,101,116,117,114,110]:List UInt8))) (some ((3,0,0,[],[],[],true,qa0,qa1))) (cond (decide (xa=([99,97,108,108]:List UInt8))) ((bw qa0 qa1).bind fun (i12,l13,i14)=>(bw l13 i14).bind fun (i15,l16,i17)=>(dv l16 i17).bind fun (l18,l19,i20)=>(dv l19 i20).bind fun (l21,l22,i23)=>(dv l22 i23).bind fun (l24,l25,i26)=>some ((4,i12,i15,l18,l24,l21,true,l25,i26))) (some ((0,0,0,[],[],[],false,qa0,qa1))))))
def DE:Hn Tryz.prog := .tw 9 (.cl hY [] .nil) (.tw 15 (.cl hY [] (.cl hY [] .nil)) (.tw 24 .nil (.tw 27 (.cl cK [] (.cl cK [] (.cl hY [] (.cl hY [] (.cl hY [] .nil))))) .nil)))
def Eh:Spec:=⟨73,⟨[(0,.dat .str),(1,.ptr 0 0)],[bkN 102 [.dat (.sl .str),.dat Yq2]]⟩,[⟨[(0,.tup [.agg [.dat Yq2,.dat Yq2,.dat Yq2,.own 3 Yq2,.own 3 Yq2,.own 3 Yq2],.dat .bool])],[bkC 0 102 [.dat (.sl .str),.dat Yq2]]⟩],fun x=>eN x.1 x.2.1 x.2.2⟩
def D9:OkSpec Tryz.prog:=⟨Eh,ah func73 DE (by kernel_rfl) (by kernel_rfl),call73⟩

def eO (xa:(List Tq5)) (qa0:(List Tq5)) (qa1:Int):Option ((Int×Int×Int×Int×Bool×(List Tq5)×Int)) :=
 (aa xa 0).bind fun x2=>cond (decide (x2=([97,115,115,105,103,110]:List UInt8))) ((bw qa0 qa1).bind fun (i3,l4,i5)=>(bw l4 i5).bind fun (i6,l7,i9)=>some ((1,i3,i6,0,false,l7,i9))) ((cond (decide (x2=([98,111,114,114,111,119]:List UInt8))) (some (decide (x2=([98,111,114,114,111,119]:List UInt8)))) (some (decide (x2=([114,101,98,111,114,114,111,119]:List UInt8)))):Option Bool).bind fun t10=>cond (t10) (((aa xa 0).bind fun x11=>cond (decide (x11=([114,101,98,111,114,114,111,119]:List UInt8))) (some (3)) (some (2)):Option Int).bind fun i12=>((cond (decide ((xa.length:Int)=5)) ((aa xa 4).bind fun x13=>some (!decide (x13=([109,117,116]:List UInt8)))) (some (false))).bind fun t14=>cond (t14) (some (3)) (some (qa1)):Option Int).bind fun i15=>(bw qa0 i15).bind fun (i16,l17,i18)=>(bw l17 i18).bind fun (i19,l20,i21)=>(bw l20 i21).bind fun (i22,l23,i24)=>some ((i12,i16,i19,i22,decide ((xa.length:Int)=5),l23,i24))) (cond (decide (x2=([117,115,101]:List UInt8))) ((bw qa0 qa1).bind fun (i25,l26,i27)=>some ((4,0,i25,0,false,l26,i27))) (cond (decide (x2=([100,101,97,100]:List UInt8))) ((bw qa0 qa1).bind fun (i28,l29,i30)=>some ((5,i28,0,0,false,l29,i30))) (some ((0,0,0,0,false,qa0,qa1))))))
def CA:Hn Tryz.prog := .tw 9 (.cl cK [] (.cl cK [] .nil)) (.sq [] ⟨[kdB 18],[]⟩ [] (.tw 18 .nil .nil) (.tw 18 (.pl (.sq [] ⟨[],[bkC 4 53 [.dat Yq2,.lit (.int .i64 0),.lit (.int .i64 0),.lit (.int .i64 0),.lit (.bool false)]]⟩ [4] (.tw 25 .nil .nil) (.pl (.sq [(0,0)] ⟨[],[bkC 0 102 [.is 1 (.any),.dat Yq2],bkU 9]⟩ [0] (.gj 4 ⟨[kdB 38],[]⟩ [] (.two 33 .nil .nil) (.tw 38 .nil .nil)) (.cl cK [] (.cl cK [] (.cl cK [] .nil))))))) (.tw 51 (.cl cK [] .nil) (.tw 57 (.cl cK [] .nil) .nil))))
def Cu:Spec:=⟨74,⟨[(0,.dat (.sl .str)),(1,.ptr 0 0)],[bkN 102 [.dat (.sl .str),.dat Yq2]]⟩,[⟨[(0,.agg [.dat Yq2,.dat Yq2,.dat Yq2,.dat Yq2,.dat .bool])],[bkC 0 102 [.dat (.sl .str),.dat Yq2]]⟩],fun x=>eO x.1 x.2.1 x.2.2⟩
def vx:OkSpec Tryz.prog:=⟨Cu,ah func74 CA (by kernel_rfl) (by kernel_rfl),call74⟩

def vI (xb:(List Tq5)) (qa0:Int) (qa1:Int) (qa2:Tq8) (qa4:Tq4) (qa5:(List Tq3)) (qa6:(List Tq2)) (qa7:Int) (qb0:(List Tq5)) (qb1:Int):Option ((Tq8×Tq4×(List Tq3)×(List Tq2)×Int×(List Tq5)×Int)) :=
 (aa qa6 (IntKind.wrap .i64 ((qa6.length:Int) - 1))).bind fun _=>(aa xb 0).bind fun x3=>(eN x3 qb0 qb1).bind fun (i9,i10,i11,l12,l13,l14,t15,l16,i17)=>cond (t15) ((aa qa6 (IntKind.wrap .i64 ((qa6.length:Int) - 1))).bind fun x18=>(aD (IntKind.wrap .i64 ((qa6.length:Int) - 1)) (IntKind.wrap .i64 ((qa6.length:Int) - 1))).bind fun _=>some ((qa2,qa4,qa5,qa6.set (IntKind.wrap .i64 ((qa6.length:Int) - 1)).toNat ((x18.1,(i9,i10,i11,l12,l13,l14))),7,l16,i17))) ((((aa qa6 (IntKind.wrap .i64 ((qa6.length:Int) - 1))).bind fun x19=>(aD (IntKind.wrap .i64 ((qa6.length:Int) - 1)) (IntKind.wrap .i64 ((qa6.length:Int) - 1))).bind fun _=>(eO xb l16 i17).bind fun (i20,i21,i22,i23,t24,l25,i26)=>(app x19.1 (([(i20,i21,i22,i23,t24)]:List Tq6))).bind fun z27=>(aD (IntKind.wrap .i64 ((qa6.length:Int) - 1)) (IntKind.wrap .i64 ((qa6.length:Int) - 1))).bind fun _=>some ((l25,i26,qa6.set (IntKind.wrap .i64 ((qa6.length:Int) - 1)).toNat ((z27,(x19.2.1,x19.2.2.1,x19.2.2.2.1,x19.2.2.2.2.1,x19.2.2.2.2.2.1,x19.2.2.2.2.2.2)))))).bind fun x28=>((eO xb l16 i17).bind fun (i29,i30,i31,i32,t33,l34,i35)=>((aa qa6 (IntKind.wrap .i64 ((qa6.length:Int) - 1))).bind fun x36=>(aD (IntKind.wrap .i64 ((qa6.length:Int) - 1)) (IntKind.wrap .i64 ((qa6.length:Int) - 1))).bind fun _=>(app x36.1 (([(i29,i30,i31,i32,t33)]:List Tq6))).bind fun z37=>(aD (IntKind.wrap .i64 ((qa6.length:Int) - 1)) (IntKind.wrap .i64 ((qa6.length:Int) - 1))).bind fun _=>some ((l34,i35,qa6.set (IntKind.wrap .i64 ((qa6.length:Int) - 1)).toNat ((z37,(x36.2.1,x36.2.2.1,x36.2.2.2.1,x36.2.2.2.2.1,x36.2.2.2.2.2.1,x36.2.2.2.2.2.2)))))).bind fun x38=>((aa qa6 (IntKind.wrap .i64 ((qa6.length:Int) - 1))).bind fun x39=>(aD (IntKind.wrap .i64 ((qa6.length:Int) - 1)) (IntKind.wrap .i64 ((qa6.length:Int) - 1))).bind fun _=>(app x39.1 (([(i29,i30,i31,i32,t33)]:List Tq6))).bind fun z40=>(aD (IntKind.wrap .i64 ((qa6.length:Int) - 1)) (IntKind.wrap .i64 ((qa6.length:Int) - 1))).bind fun _=>some ((l34,i35,qa6.set (IntKind.wrap .i64 ((qa6.length:Int) - 1)).toNat ((z40,(x39.2.1,x39.2.2.1,x39.2.2.2.1,x39.2.2.2.2.1,x39.2.2.2.2.2.1,x39.2.2.2.2.2.2)))))).bind fun y41=>agr x38 y41 (some x38)).bind fun y42=>agr x28 y42 (some x28):Option (((List Tq5)×Int×(List Tq2)))).bind fun (l43,i44,l45)=>some ((qa2,qa4,qa5,l45,qa7,l43,i44)))
def kv (xa:Tq5) (xb:Int):Option (Int×Int×Int) :=
 (j8 xa ([58]:List UInt8)).bind fun (s33,s34,t35)=>cond (!t35) (some ((0,0,3))) ((dY s33 xb).bind fun (i42,i43)=>cond (!decide (i43=0)) (some ((0,0,i43))) ((dY s34 xb).bind fun (i50,i51)=>cond (!decide (i51=0)) (some ((0,0,i51))) (some ((i42,i50,0)))))
def D6:Hn Tryz.prog := .cl AK [] (.tw 19 .nil (.cl j3 [] (.tw 28 .nil (.cl j3 [] (.tw 38 .nil .nil)))))
def Ev:Spec:=⟨102,⟨[(0,.dat .str),kdI 1],[]⟩,[⟨[(0,.tup [.agg [.dat Yq2,.dat Yq2],.dat Yq2])],[]⟩],fun x=>kv x.1 x.2⟩
def Dv:OkSpec Tryz.prog:=⟨Ev,ah func102 D6 (by kernel_rfl) (by kernel_rfl),call102⟩

def np (xa:Tq5):Option (Int×Int×Int) :=
 (kv xa 1048576).bind fun (i17,i18,i19)=>some ((i17,i18,i19))
def ES:Hn Tryz.prog := .cl Dv [] .nil
def Dh:Spec:=⟨101,⟨[(0,.dat .str)],[]⟩,[⟨[(0,.tup [.agg [.dat Yq2,.dat Yq2],.dat Yq2])],[]⟩],fun x=>np x⟩
def BZ:OkSpec Tryz.prog:=⟨Dh,ah func101 ES (by kernel_rfl) (by kernel_rfl),call101⟩

def kj (qa0:(List Tq5)) (qa1:Int):Option ((Int×Int×(List Tq5)×Int)) :=
 cond (!decide (qa1=0)) (some ((0,0,qa0,qa1))) ((aa qa0 0).bind fun x38=>(np x38).bind fun (i49,i50,i51)=>(subL qa0 1 (qa0.length:Int)).bind fun y55=>some ((i49,i50,y55,i51)))
def Cc:Hn Tryz.prog := .tw 10 .nil (.cl BZ [] .nil)
def DY:Spec:=⟨100,⟨[(0,.ptr 0 0),(1,.fn 101 [])],[bkN 102 [.dat (.sl .str),.dat Yq2]]⟩,[⟨[(0,.agg [.dat Yq2,.dat Yq2])],[bkC 0 102 [.dat (.sl .str),.dat Yq2]]⟩],fun x=>kj x.1 x.2⟩
def Ch:OkSpec Tryz.prog:=⟨DY,ah func100 Cc (by kernel_rfl) (by kernel_rfl),call100⟩
def kp  : (Tq8×(List Tq5)×Int)→Option ((Tq8×(List Tq5)×Int)⊕(Tq8×(List Tq5)×Int)):=fun (l1,l2,i3)=>cond ((decide (0 < (l2.length:Int)))&&(decide (i3=0))) ((kj l2 i3).bind fun (i4,i5,l6,i7)=>(app l1 (([(i4,i5)]:List (Int×Int)))).bind fun z9=>some (.inl (z9,l6,i7))) (some (.inr (((l1,l2,i3)))))
def eM (qa0:(List Tq5)) (qa1:Int):Option ((Tq8×(List Tq5)×Int)) :=
 (loop (kp) ([],qa0,qa1)).bind fun (l2,l3,i4)=>some ((l2,l3,i4))
def Ee:Hn Tryz.prog := .jn [] ⟨[(3,.own 82 Yq7)],[bkC 0 102 [.dat (.sl .str),.dat Yq2]]⟩ [0] (.lp ⟨[(3,.own 82 Yq7)],[bkC 0 102 [.dat (.sl .str),.dat Yq2]]⟩ (.gp 5 (.tw 16 (.cl Ch [] .nil) .nil))) .nil
def BP:Spec:=⟨76,⟨[(0,.ptr 0 0)],[bkN 102 [.dat (.sl .str),.dat Yq2]]⟩,[⟨[(0,.own 82 Yq7)],[bkC 0 102 [.dat (.sl .str),.dat Yq2]]⟩],fun x=>eM x.1 x.2⟩
def vh:OkSpec Tryz.prog:=⟨BP,ah func76 Ee (by kernel_rfl) (by kernel_rfl),call76⟩

def nh (xa:Tq5) (xb:Tq5):Option Bool :=
 (cond (decide ((xb.length:Int)≤(xa.length:Int))) ((subL xa (IntKind.wrap .i64 ((xa.length:Int) - (xb.length:Int))) (xa.length:Int)).bind fun y14=>some (decide (y14=xb))) (some (false))).bind fun t12=>some (t12)
def Ct:Hn Tryz.prog := .gj 9 ⟨[kdB 20],[]⟩ [] (.two 10 .nil .nil) .nil
def Bw:Spec:=⟨122,⟨[(0,.dat .str),(1,.dat .str)],[]⟩,[⟨[kdB 0],[]⟩],fun x=>nh x.1 x.2⟩
def BC:OkSpec Tryz.prog:=⟨Bw,ah func122 Ct (by kernel_rfl) (by kernel_rfl),call122⟩

def ni (xa:Tq5) (xb:Tq5):Option (List UInt8×Bool) :=
 (nh xa xb).bind fun t14=>cond (!t14) (some ((xa,false))) ((subL xa 0 (IntKind.wrap .i64 ((xa.length:Int) - (xb.length:Int)))).bind fun y19=>some ((y19,true)))
def Em:Hn Tryz.prog := .cl BC [] (.tw 9 .nil .nil)
def Ds:Spec:=⟨121,⟨[(0,.dat .str),(1,.dat .str)],[]⟩,[⟨[(0,.tup [.dat .str,.dat .bool])],[]⟩],fun x=>ni x.1 x.2⟩
def Dz:OkSpec Tryz.prog:=⟨Ds,ah func121 Em (by kernel_rfl) (by kernel_rfl),call121⟩

def ku (xa:Tq5) (xb:Tq5):Option (List UInt8×Bool) :=
 (ni xa xb).bind fun (s12,t13)=>some ((s12,t13))
def DQ:Hn Tryz.prog := .cl Dz [] .nil
def EN:Spec:=⟨117,⟨[(0,.dat .str),(1,.dat .str)],[]⟩,[⟨[(0,.tup [.dat .str,.dat .bool])],[]⟩],fun x=>ku x.1 x.2⟩
def EE:OkSpec Tryz.prog:=⟨EN,ah func117 DQ (by kernel_rfl) (by kernel_rfl),call117⟩
def iv (l1:List Tq5):(Int×Tq4)→Option ((Int×Tq4)⊕(Tq4⊕(Tq4×Int))):=fun (i2,l3)=>cond (decide (i2 < (l1.length:Int))) ((aa l1 i2).bind fun x4=>(ku x4 ([33]:List UInt8)).bind fun (s5,t6)=>(dY s5 1048576).bind fun (i7,i9)=>cond (!decide (i9=0)) (some (.inr ((.inr (([],i9)))))) ((app l3 (([(i7,t6)]:List (Int×Bool)))).bind fun z10=>some (.inl ((IntKind.wrap .i64 (i2 + 1),z10))))) (some (.inr (.inl l3)))
def kB (xa:Tq5):Option ((Tq4×Int)) :=
 cond (decide (xa=([45]:List UInt8))) (some (([],0))) ((cJ xa ([47]:List UInt8)).bind fun l1=>(loop (iv l1) (0,[])).bind fun o=>match o with | .inr r=>some r | .inl l2=>some ((l2,0)))
def Cm:Hn Tryz.prog := .tw 12 .nil (.cl js [] (.jx [] ⟨[],[bkC 0 26 [.nils],bkC 2 26 [.own 49 Yq3]]⟩ [2,0] (.lp ⟨[kdI 17],[bkC 0 26 [.nils],bkC 2 26 [.own 49 Yq3]]⟩ (.tw 18 (.cl EE [] (.cl j3 [] (.tw 32 .nil .nil))) .nil)) .nil))
def EF:Spec:=⟨104,⟨[(0,.dat .str)],[]⟩,[⟨[(0,.tup [.agg [.own 49 Yq3],.dat Yq2])],[]⟩],fun x=>kB x⟩
def EH:OkSpec Tryz.prog:=⟨EF,ah func104 Cm (by kernel_rfl) (by kernel_rfl),call104⟩

def nd (qa0:(List Tq5)) (qa1:Int):Option ((Tq4×(List Tq5)×Int)) :=
 cond (!decide (qa1=0)) (some (([],qa0,qa1))) ((aa qa0 0).bind fun x45=>(kB x45).bind fun (l56,i57)=>(subL qa0 1 (qa0.length:Int)).bind fun y65=>some ((l56,y65,i57)))
def Dq:Hn Tryz.prog := .tw 10 .nil (.cl EH [] .nil)
def BF:Spec:=⟨103,⟨[(0,.ptr 0 0),(1,.fn 104 [])],[bkN 102 [.dat (.sl .str),.dat Yq2]]⟩,[⟨[(0,.agg [.own 49 Yq3])],[bkC 0 102 [.dat (.sl .str),.dat Yq2]]⟩],fun x=>nd x.1 x.2⟩
def BA:OkSpec Tryz.prog:=⟨BF,ah func103 Dq (by kernel_rfl) (by kernel_rfl),call103⟩

def cg (qa0:(List Tq5)) (qa1:Int):Option ((Tq4×(List Tq5)×Int)) :=
 (nd qa0 qa1).bind fun (l30,l31,i33)=>some ((l30,l31,i33))
def D0:Hn Tryz.prog := .cl BA [] .nil
def CE:Spec:=⟨77,⟨[(0,.ptr 0 0)],[bkN 102 [.dat (.sl .str),.dat Yq2]]⟩,[⟨[(0,.agg [.own 49 Yq3])],[bkC 0 102 [.dat (.sl .str),.dat Yq2]]⟩],fun x=>cg x.1 x.2⟩
def j9:OkSpec Tryz.prog:=⟨CE,ah func77 D0 (by kernel_rfl) (by kernel_rfl),call77⟩

def vJ (xb:Tq5) (qa0:Int) (qa1:Int) (qa2:Tq8) (qa4:Tq4) (qa5:(List Tq3)) (qa6:(List Tq2)) (qa7:Int) (qb0:(List Tq5)) (qb1:Int):Option mX :=
 cond (decide (xb=([114,101,103,105,111,110,115]:List UInt8))) ((bw qb0 qb1).bind fun (i3,l9,i10)=>(bw l9 i10).bind fun (i11,l12,i13)=>some ((i3,i11,qa2,[],qa4,qa5,qa6,1,l12,i13))) (cond (decide (xb=([98,111,117,110,100,115]:List UInt8))) ((eM qb0 qb1).bind fun (l14,l15,i16)=>some ((qa0,qa1,l14,[],qa4,qa5,qa6,2,l15,i16))) (cond (decide (xb=([108,111,99,97,108]:List UInt8))) ((cg qb0 qb1).bind fun (l17,l18,i19)=>(app (([]:List Tq4)) (([l17]:List Tq4))).bind fun z20=>some ((qa0,qa1,qa2,z20,qa4,qa5,qa6,qa7,l18,i19))) (cond (decide (xb=([103,105,118,101,115]:List UInt8))) ((cg qb0 qb1).bind fun (l21,l22,i23)=>some ((qa0,qa1,qa2,[],l21,qa5,qa6,3,l22,i23))) (cond (decide (xb=([115,105,103]:List UInt8))) ((bw qb0 qb1).bind fun (i24,l25,i26)=>(cg l25 i26).bind fun (l27,l28,i29)=>(app (qa5:List Tq3) (([(i24,[],[],l27)]:List Tq3):List Tq3)).bind fun z30=>some ((qa0,qa1,qa2,[],qa4,z30,qa6,4,l28,i29))) (cond (decide (xb=([110,101,101,100,115]:List UInt8))) ((eM qb0 qb1).bind fun (l31,l32,i33)=>(aa qa5 (IntKind.wrap .i64 ((qa5.length:Int) - 1))).bind fun _=>(aa qa5 (IntKind.wrap .i64 ((qa5.length:Int) - 1))).bind fun x34=>(aD (IntKind.wrap .i64 ((qa5.length:Int) - 1)) (IntKind.wrap .i64 ((qa5.length:Int) - 1))).bind fun _=>some ((qa0,qa1,qa2,[],qa4,qa5.set (IntKind.wrap .i64 ((qa5.length:Int) - 1)).toNat (x34.1,l31,x34.2.2.1,x34.2.2.2),qa6,5,l32,i33))) (cond (decide (xb=([97,114,103]:List UInt8))) ((aa qa5 (IntKind.wrap .i64 ((qa5.length:Int) - 1))).bind fun _=>(((aa qa5 (IntKind.wrap .i64 ((qa5.length:Int) - 1))).bind fun x35=>(aD (IntKind.wrap .i64 ((qa5.length:Int) - 1)) (IntKind.wrap .i64 ((qa5.length:Int) - 1))).bind fun _=>(cg qb0 qb1).bind fun (l36,l37,i38)=>(app x35.2.2.1 (([l36]:List Tq4))).bind fun z39=>(aD (IntKind.wrap .i64 ((qa5.length:Int) - 1)) (IntKind.wrap .i64 ((qa5.length:Int) - 1))).bind fun _=>some ((l37,i38,qa5.set (IntKind.wrap .i64 ((qa5.length:Int) - 1)).toNat (x35.1,x35.2.1,z39,x35.2.2.2)))).bind fun x40=>((cg qb0 qb1).bind fun (l41,l42,i43)=>((aa qa5 (IntKind.wrap .i64 ((qa5.length:Int) - 1))).bind fun x44=>(aD (IntKind.wrap .i64 ((qa5.length:Int) - 1)) (IntKind.wrap .i64 ((qa5.length:Int) - 1))).bind fun _=>(app x44.2.2.1 (([l41]:List Tq4))).bind fun z45=>(aD (IntKind.wrap .i64 ((qa5.length:Int) - 1)) (IntKind.wrap .i64 ((qa5.length:Int) - 1))).bind fun _=>some ((l42,i43,qa5.set (IntKind.wrap .i64 ((qa5.length:Int) - 1)).toNat (x44.1,x44.2.1,z45,x44.2.2.2)))).bind fun x46=>((aa qa5 (IntKind.wrap .i64 ((qa5.length:Int) - 1))).bind fun x47=>(aD (IntKind.wrap .i64 ((qa5.length:Int) - 1)) (IntKind.wrap .i64 ((qa5.length:Int) - 1))).bind fun _=>(app x47.2.2.1 (([l41]:List Tq4))).bind fun z48=>(aD (IntKind.wrap .i64 ((qa5.length:Int) - 1)) (IntKind.wrap .i64 ((qa5.length:Int) - 1))).bind fun _=>some ((l42,i43,qa5.set (IntKind.wrap .i64 ((qa5.length:Int) - 1)).toNat (x47.1,x47.2.1,z48,x47.2.2.2)))).bind fun y49=>agr x46 y49 (some x46)).bind fun y50=>agr x40 y50 (some x40):Option (((List Tq5)×Int×(List Tq3)))).bind fun (l51,i52,l53)=>some ((qa0,qa1,qa2,[],qa4,l53,qa6,qa7,l51,i52))) (cond (decide (xb=([98,108,111,99,107]:List UInt8))) ((app (qa6:List Tq2) (([([],(0,0,0,[],[],[]))]:List Tq2):List Tq2)).bind fun z54=>some ((qa0,qa1,qa2,[],qa4,qa5,z54,6,qb0,qb1))) (some ((qa0,qa1,qa2,[],qa4,qa5,qa6,qa7,qb0,qb1))))))))))
def fn_text_parser_line_p0k_iirnrododi (xb:(List Tq5)) (qa0:Int) (qa1:Int) (qa2:Tq8) (qa4:Tq4) (qa5:(List Tq3)) (qa6:(List Tq2)) (qa7:Int):Option ((Int×Int×Int×Tq8×(List Tq4)×Tq4×(List Tq3)×(List Tq2)×Int)) :=
 (aa xb 0).bind fun x3=>(gg x3).bind fun (i9,i10)=>(aa xb 0).bind fun x11=>(vK x11 qa0 qa1 qa2 qa4 qa5 qa6 qa7).bind fun (t12,l13,l14,l15,l16)=>cond (((!t12)||(decide ((xb.length:Int) < i9)))||(decide (i10 < (xb.length:Int)))) (some ((3,qa0,qa1,l13,[],l14,l15,l16,qa7))) ((subL xb 1 (xb.length:Int)).bind fun y17=>(cond (decide (qa7=6)) ((vI xb qa0 qa1 l13 l14 l15 l16 qa7 y17 0).bind fun (l18,l19,l20,l21,i22,l23,i24)=>some ((qa0,qa1,l18,[],l19,l20,l21,i22,l23,i24))) ((aa xb 0).bind fun x25=>(vJ x25 qa0 qa1 l13 l14 l15 l16 qa7 y17 0).bind fun (i26,i27,l28,l29,l30,l31,l32,i33,l34,i35)=>some ((i26,i27,l28,l29,l30,l31,l32,i33,l34,i35))):Option mX).bind fun (i36,i37,l38,l39,l40,l41,l42,i43,l44,i45)=>some ((i45,i36,i37,l38,l39,l40,l41,l42,i43)))
def km (xb:Tq5) (qa0:Int) (qa1:Int) (qa2:Tq8) (qa3:(List Tq4)) (qa4:Tq4) (qa5:(List Tq3)) (qa6:(List Tq2)) (qa7:Int):Option ((Bool×Tq8×(List Tq4)×Tq4×(List Tq3)×(List Tq2))) :=
 cond (decide (qa7=0)) ((aW (([([114,101,103,105,111,110,115]:List UInt8)]:List Tq5)) xb).bind fun t9=>some ((t9,qa2,qa3,qa4,qa5,qa6))) (cond (decide (qa7=1)) ((aW (([([98,111,117,110,100,115]:List UInt8)]:List Tq5)) xb).bind fun t10=>some ((t10,qa2,qa3,qa4,qa5,qa6))) (cond (decide (qa7=2)) ((aW (([([108,111,99,97,108]:List UInt8),([103,105,118,101,115]:List UInt8)]:List Tq5)) xb).bind fun t11=>some ((t11,qa2,qa3,qa4,qa5,qa6))) (cond (decide (qa7=3)) ((aW (([([115,105,103]:List UInt8),([98,108,111,99,107]:List UInt8)]:List Tq5)) xb).bind fun t12=>some ((t12,qa2,qa3,qa4,qa5,qa6))) (cond (decide (qa7=4)) ((aW (([([110,101,101,100,115]:List UInt8)]:List Tq5)) xb).bind fun t13=>some ((t13,qa2,qa3,qa4,qa5,qa6))) (cond (decide (qa7=5)) ((aW (([([97,114,103]:List UInt8),([115,105,103]:List UInt8),([98,108,111,99,107]:List UInt8)]:List Tq5)) xb).bind fun t14=>some ((t14,qa2,qa3,qa4,qa5,qa6))) (cond (decide (qa7=6)) ((aW (([([110,111,112]:List UInt8),([97,115,115,105,103,110]:List UInt8),([98,111,114,114,111,119]:List UInt8),([114,101,98,111,114,114,111,119]:List UInt8),([117,115,101]:List UInt8),([100,101,97,100]:List UInt8),([103,111,116,111]:List UInt8),([115,119,105,116,99,104]:List UInt8),([114,101,116,117,114,110]:List UInt8),([99,97,108,108]:List UInt8)]:List Tq5)) xb).bind fun t15=>some ((t15,qa2,qa3,qa4,qa5,qa6))) (cond (decide (qa7=7)) ((aW (([([98,108,111,99,107]:List UInt8)]:List Tq5)) xb).bind fun t16=>some ((t16,qa2,qa3,qa4,qa5,qa6))) ((aW ([]) xb).bind fun t17=>some ((t17,qa2,qa3,qa4,qa5,qa6))))))))))
def CD:Hn Tryz.prog := .tw 10 (.cl dO [15] .nil) (.tw 13 (.cl dO [15] .nil) (.tw 16 (.cl dO [15] .nil) (.tw 19 (.cl dO [15] .nil) (.tw 22 (.cl dO [15] .nil) (.tw 25 (.cl dO [15] .nil) (.tw 28 (.cl dO [15] .nil) (.tw 31 (.cl dO [15] .nil) (.cl dO [] .nil))))))))
def CM:Spec:=⟨54,⟨[(0,.ptr 0 0),(1,.dat .str)],[bkN 64 [.is 1 (.dat Yq2),.is 2 (.dat Yq2),.own 82 Yq7,.own 26 Yq6,.own 49 Yq3,.od (.row 41 (.cons (.dat Yq2) (.cons (.dat (.sl Yq7)) (.cons (.row 26 (.dat Yq6)) (.one (.dat Yq6)))))),.od (.row 47 (.cons (.row 53 (.dat Yq5)) (.one (.dat Yq4)))),.is 3 (.dat Yq2)],bkM,bkM,bkM]⟩,[⟨[kdB 0],[bkC 0 64 [.is 1 (.any),.is 2 (.any),.own 82 Yq7,.own 26 Yq6,.own 49 Yq3,.od (.row 41 (.cons (.dat Yq2) (.cons (.dat (.sl Yq7)) (.cons (.row 26 (.dat Yq6)) (.one (.dat Yq6)))))),.od (.row 47 (.cons (.row 53 (.dat Yq5)) (.one (.dat Yq4)))),.is 3 (.any)],bkU 1,bkU 2,bkU 3]⟩],fun x=>km x.1 x.2.1 x.2.2.1 x.2.2.2.1 x.2.2.2.2.1 x.2.2.2.2.2.1 x.2.2.2.2.2.2.1 x.2.2.2.2.2.2.2.1 x.2.2.2.2.2.2.2.2⟩
def Cw:OkSpec Tryz.prog:=⟨CM,ah func54 CD (by kernel_rfl) (by kernel_rfl),call54⟩

def eL (xb:(List Tq5)) (qa0:Int) (qa1:Int) (qa2:Tq8) (qa3:(List Tq4)) (qa4:Tq4) (qa5:(List Tq3)) (qa6:(List Tq2)) (qa7:Int) (qb0:(List Tq5)) (qb1:Int):Option ((Tq8×(List Tq4)×Tq4×(List Tq3)×(List Tq2)×Int×(List Tq5)×Int)) :=
 (aa qa6 (IntKind.wrap .i64 ((qa6.length:Int) - 1))).bind fun _=>(aa xb 0).bind fun x9=>(eN x9 qb0 qb1).bind fun (i10,i11,i12,l13,l14,l15,t16,l17,i18)=>cond (t16) ((aa qa6 (IntKind.wrap .i64 ((qa6.length:Int) - 1))).bind fun x19=>(aD (IntKind.wrap .i64 ((qa6.length:Int) - 1)) (IntKind.wrap .i64 ((qa6.length:Int) - 1))).bind fun _=>some ((qa2,qa3,qa4,qa5,qa6.set (IntKind.wrap .i64 ((qa6.length:Int) - 1)).toNat ((x19.1,(i10,i11,i12,l13,l14,l15))),7,l17,i18))) ((((aa qa6 (IntKind.wrap .i64 ((qa6.length:Int) - 1))).bind fun x20=>(aD (IntKind.wrap .i64 ((qa6.length:Int) - 1)) (IntKind.wrap .i64 ((qa6.length:Int) - 1))).bind fun _=>(eO xb l17 i18).bind fun (i21,i22,i23,i24,t25,l26,i27)=>(app x20.1 (([(i21,i22,i23,i24,t25)]:List Tq6))).bind fun z28=>(aD (IntKind.wrap .i64 ((qa6.length:Int) - 1)) (IntKind.wrap .i64 ((qa6.length:Int) - 1))).bind fun _=>some ((l26,i27,qa6.set (IntKind.wrap .i64 ((qa6.length:Int) - 1)).toNat ((z28,(x20.2.1,x20.2.2.1,x20.2.2.2.1,x20.2.2.2.2.1,x20.2.2.2.2.2.1,x20.2.2.2.2.2.2)))))).bind fun x29=>((eO xb l17 i18).bind fun (i30,i31,i32,i33,t34,l35,i36)=>((aa qa6 (IntKind.wrap .i64 ((qa6.length:Int) - 1))).bind fun x37=>(aD (IntKind.wrap .i64 ((qa6.length:Int) - 1)) (IntKind.wrap .i64 ((qa6.length:Int) - 1))).bind fun _=>(app x37.1 (([(i30,i31,i32,i33,t34)]:List Tq6))).bind fun z38=>(aD (IntKind.wrap .i64 ((qa6.length:Int) - 1)) (IntKind.wrap .i64 ((qa6.length:Int) - 1))).bind fun _=>some ((l35,i36,qa6.set (IntKind.wrap .i64 ((qa6.length:Int) - 1)).toNat ((z38,(x37.2.1,x37.2.2.1,x37.2.2.2.1,x37.2.2.2.2.1,x37.2.2.2.2.2.1,x37.2.2.2.2.2.2)))))).bind fun x39=>((aa qa6 (IntKind.wrap .i64 ((qa6.length:Int) - 1))).bind fun x40=>(aD (IntKind.wrap .i64 ((qa6.length:Int) - 1)) (IntKind.wrap .i64 ((qa6.length:Int) - 1))).bind fun _=>(app x40.1 (([(i30,i31,i32,i33,t34)]:List Tq6))).bind fun z41=>(aD (IntKind.wrap .i64 ((qa6.length:Int) - 1)) (IntKind.wrap .i64 ((qa6.length:Int) - 1))).bind fun _=>some ((l35,i36,qa6.set (IntKind.wrap .i64 ((qa6.length:Int) - 1)).toNat ((z41,(x40.2.1,x40.2.2.1,x40.2.2.2.1,x40.2.2.2.2.1,x40.2.2.2.2.2.1,x40.2.2.2.2.2.2)))))).bind fun y42=>agr x39 y42 (some x39)).bind fun y43=>agr x29 y43 (some x29):Option (((List Tq5)×Int×(List Tq2)))).bind fun (l44,i45,l46)=>some ((qa2,qa3,qa4,qa5,l46,qa7,l44,i45)))
def BI:Hn Tryz.prog := .mix [] [0,1,2,3,4,5,6,7,8,9,10,11,12,13] [] [] (.cl D9 [] (.tw 30 (.wt 34 (.opn 12 1000020 (.per 17 18 (.per 19 20 (.per 21 22 (.cls 12 30 .nil)))))) (.tr (.still [0,1,2,3,5,6] (.alt 4 (.alt 7 (.alt 8 (.alt 9 (.still [10,11] (.alt 12 (.leaf []) .done)) .done) .done) .done) (.alt 7 (.alt 4 (.alt 8 (.alt 9 (.still [10,11] (.alt 12 (.leaf []) .done)) .done) .done) (.alt 8 (.alt 4 (.alt 9 (.still [10,11] (.alt 12 (.leaf []) .done)) .done) .done) .done)) .done))) ⟨[],[bkC 1 102 [.dat (.sl .str),.dat Yq2],bkO 12 (.row 47 (.cons (.row 53 (.dat Yq5)) (.one (.dat Yq4))))]⟩ [1,12] (.two 0 (.wt 41 (.opn 12 1000020 (.cl vx [] (.cls 12 36 .nil)))) (.cl vx [] (.two 0 (.wt 41 (.opn 12 1000020 (.cls 12 36 .nil))) (.wt 41 (.opn 12 1000020 (.cls 12 36 .nil)))))) .nil)))
def C3:Spec:=⟨55,⟨[(0,.ptr 0 0),(1,.dat (.sl .str)),(2,.ptr 1 0)],[bkN 64 [.is 2 (.dat Yq2),.is 3 (.dat Yq2),.own 82 Yq7,.own 26 Yq6,.own 49 Yq3,.od (.row 41 (.cons (.dat Yq2) (.cons (.dat (.sl Yq7)) (.cons (.row 26 (.dat Yq6)) (.one (.dat Yq6)))))),.od (.row 47 (.cons (.row 53 (.dat Yq5)) (.one (.dat Yq4)))),.dat Yq2],bkN 102 [.dat (.sl .str),.dat Yq2],bkM,bkM]⟩,[⟨[],[bkC 0 64 [.is 2 (.any),.is 3 (.any),.own 82 Yq7,.own 26 Yq6,.own 49 Yq3,.od (.row 41 (.cons (.dat Yq2) (.cons (.dat (.sl Yq7)) (.cons (.row 26 (.dat Yq6)) (.one (.dat Yq6)))))),.od (.row 47 (.cons (.row 53 (.dat Yq5)) (.one (.dat Yq4)))),.dat Yq2],bkC 1 102 [.dat (.sl .str),.dat Yq2],bkU 2,bkU 3]⟩],fun x=>eL x.1 x.2.1 x.2.2.1 x.2.2.2.1 x.2.2.2.2.1 x.2.2.2.2.2.1 x.2.2.2.2.2.2.1 x.2.2.2.2.2.2.2.1 x.2.2.2.2.2.2.2.2.1 x.2.2.2.2.2.2.2.2.2.1 x.2.2.2.2.2.2.2.2.2.2⟩
def Do:OkSpec Tryz.prog:=⟨C3,ah func55 BI (by kernel_rfl) (by kernel_rfl),call55⟩

def bh (xb:Tq5) (qa0:Int) (qa1:Int) (qa2:Tq8) (qa3:(List Tq4)) (qa4:Tq4) (qa5:(List Tq3)) (qa6:(List Tq2)) (qa7:Int) (qb0:(List Tq5)) (qb1:Int):Option mX :=
 cond (decide (xb=([114,101,103,105,111,110,115]:List UInt8))) ((bw qb0 qb1).bind fun (i9,l10,i11)=>(bw l10 i11).bind fun (i12,l13,i14)=>some ((i9,i12,qa2,qa3,qa4,qa5,qa6,1,l13,i14))) (cond (decide (xb=([98,111,117,110,100,115]:List UInt8))) ((eM qb0 qb1).bind fun (l15,l16,i17)=>some ((qa0,qa1,l15,qa3,qa4,qa5,qa6,2,l16,i17))) (cond (decide (xb=([108,111,99,97,108]:List UInt8))) ((cg qb0 qb1).bind fun (l18,l19,i20)=>(app qa3 (([l18]:List Tq4))).bind fun z21=>some ((qa0,qa1,qa2,z21,qa4,qa5,qa6,qa7,l19,i20))) (cond (decide (xb=([103,105,118,101,115]:List UInt8))) ((cg qb0 qb1).bind fun (l22,l23,i24)=>some ((qa0,qa1,qa2,qa3,l22,qa5,qa6,3,l23,i24))) (cond (decide (xb=([115,105,103]:List UInt8))) ((bw qb0 qb1).bind fun (i25,l26,i27)=>(cg l26 i27).bind fun (l28,l29,i30)=>(app (qa5:List Tq3) (([(i25,[],[],l28)]:List Tq3):List Tq3)).bind fun z31=>some ((qa0,qa1,qa2,qa3,qa4,z31,qa6,4,l29,i30))) (cond (decide (xb=([110,101,101,100,115]:List UInt8))) ((eM qb0 qb1).bind fun (l32,l33,i34)=>(aa qa5 (IntKind.wrap .i64 ((qa5.length:Int) - 1))).bind fun _=>(aa qa5 (IntKind.wrap .i64 ((qa5.length:Int) - 1))).bind fun x35=>(aD (IntKind.wrap .i64 ((qa5.length:Int) - 1)) (IntKind.wrap .i64 ((qa5.length:Int) - 1))).bind fun _=>some ((qa0,qa1,qa2,qa3,qa4,qa5.set (IntKind.wrap .i64 ((qa5.length:Int) - 1)).toNat (x35.1,l32,x35.2.2.1,x35.2.2.2),qa6,5,l33,i34))) (cond (decide (xb=([97,114,103]:List UInt8))) ((aa qa5 (IntKind.wrap .i64 ((qa5.length:Int) - 1))).bind fun _=>(((aa qa5 (IntKind.wrap .i64 ((qa5.length:Int) - 1))).bind fun x36=>(aD (IntKind.wrap .i64 ((qa5.length:Int) - 1)) (IntKind.wrap .i64 ((qa5.length:Int) - 1))).bind fun _=>(cg qb0 qb1).bind fun (l37,l38,i39)=>(app x36.2.2.1 (([l37]:List Tq4))).bind fun z40=>(aD (IntKind.wrap .i64 ((qa5.length:Int) - 1)) (IntKind.wrap .i64 ((qa5.length:Int) - 1))).bind fun _=>some ((l38,i39,qa5.set (IntKind.wrap .i64 ((qa5.length:Int) - 1)).toNat (x36.1,x36.2.1,z40,x36.2.2.2)))).bind fun x41=>((cg qb0 qb1).bind fun (l42,l43,i44)=>((aa qa5 (IntKind.wrap .i64 ((qa5.length:Int) - 1))).bind fun x45=>(aD (IntKind.wrap .i64 ((qa5.length:Int) - 1)) (IntKind.wrap .i64 ((qa5.length:Int) - 1))).bind fun _=>(app x45.2.2.1 (([l42]:List Tq4))).bind fun z46=>(aD (IntKind.wrap .i64 ((qa5.length:Int) - 1)) (IntKind.wrap .i64 ((qa5.length:Int) - 1))).bind fun _=>some ((l43,i44,qa5.set (IntKind.wrap .i64 ((qa5.length:Int) - 1)).toNat (x45.1,x45.2.1,z46,x45.2.2.2)))).bind fun x47=>((aa qa5 (IntKind.wrap .i64 ((qa5.length:Int) - 1))).bind fun x48=>(aD (IntKind.wrap .i64 ((qa5.length:Int) - 1)) (IntKind.wrap .i64 ((qa5.length:Int) - 1))).bind fun _=>(app x48.2.2.1 (([l42]:List Tq4))).bind fun z49=>(aD (IntKind.wrap .i64 ((qa5.length:Int) - 1)) (IntKind.wrap .i64 ((qa5.length:Int) - 1))).bind fun _=>some ((l43,i44,qa5.set (IntKind.wrap .i64 ((qa5.length:Int) - 1)).toNat (x48.1,x48.2.1,z49,x48.2.2.2)))).bind fun y50=>agr x47 y50 (some x47)).bind fun y51=>agr x41 y51 (some x41):Option (((List Tq5)×Int×(List Tq3)))).bind fun (l52,i53,l54)=>some ((qa0,qa1,qa2,qa3,qa4,l54,qa6,qa7,l52,i53))) (cond (decide (xb=([98,108,111,99,107]:List UInt8))) ((app (qa6:List Tq2) (([([],(0,0,0,[],[],[]))]:List Tq2):List Tq2)).bind fun z55=>some ((qa0,qa1,qa2,qa3,qa4,qa5,z55,6,qb0,qb1))) (some ((qa0,qa1,qa2,qa3,qa4,qa5,qa6,qa7,qb0,qb1))))))))))
def DS:Hn Tryz.prog := .tw 13 (.cl cK [] (.cl cK [] .nil)) (.tw 28 (.cl vh [] .nil) (.tw 38 (.mix [([0,1,2,3,4,5],6),([],7),([],8)] [9,10] [11] [4,1] (.cl j9 [] (.per 15 16 .nil))) (.tw 51 (.cl j9 [] .nil) (.tw 61 (.cl cK [] (.cl j9 [] (.per 20 21 (.mix [([0,1,2,3,4,5],6),([],7)] [8,9] [10] [8] (.ot (.cons (.dat Yq2) (.cons (.dat (.sl Yq7)) (.cons (.row 26 (.dat Yq6)) (.one (.dat Yq6))))) (.ot (.cons (.dat Yq2) (.cons (.dat (.sl Yq7)) (.cons (.row 26 (.dat Yq6)) (.one (.dat Yq6))))) .nil)))))) (.tw 82 (.mix [([0,1,2,3,4,5,6,7,8,9,10],11)] [12,13] [14] [1] (.cl vh [] (.wt 97 (.opn 8 1000093 (.per 15 16 (.cls 8 21 .nil)))))) (.tw 101 (.mix [] [0,1,2,3,4,5,6,7,8,9,10,11] [] [] (.tr (.still [0,1,2,3,5] (.alt 4 (.alt 6 (.alt 7 (.alt 8 (.still [9,10] (.alt 11 (.leaf []) .done)) .done) .done) .done) (.alt 6 (.alt 4 (.alt 7 (.alt 8 (.still [9,10] (.alt 11 (.leaf []) .done)) .done) .done) (.alt 7 (.alt 4 (.alt 8 (.still [9,10] (.alt 11 (.leaf []) .done)) .done) .done) .done)) .done))) ⟨[],[bkC 1 102 [.dat (.sl .str),.dat Yq2],bkO 8 (.row 41 (.cons (.dat Yq2) (.cons (.dat (.sl Yq7)) (.cons (.row 26 (.dat Yq6)) (.one (.dat Yq6))))))]⟩ [1,8] (.two 0 (.wt 117 (.opn 8 1000112 (.cl j9 [] (.per 18 19 (.cls 8 25 .nil))))) (.cl j9 [] (.two 0 (.wt 117 (.opn 8 1000112 (.per 15 16 (.cls 8 25 .nil)))) (.per 15 16 (.wt 117 (.opn 8 1000112 (.cls 8 25 .nil))))))) .nil)) (.tw 125 (.ot (.cons (.row 53 (.dat Yq5)) (.one (.dat Yq4))) (.ot (.cons (.row 53 (.dat Yq5)) (.one (.dat Yq4))) .nil)) .nil)))))))
def Br:Spec:=⟨56,⟨[(0,.ptr 0 0),(1,.dat .str),(2,.ptr 1 0)],[bkN 64 [.dat Yq2,.dat Yq2,.own 82 Yq7,.own 26 Yq6,.own 49 Yq3,.od (.row 41 (.cons (.dat Yq2) (.cons (.dat (.sl Yq7)) (.cons (.row 26 (.dat Yq6)) (.one (.dat Yq6)))))),.od (.row 47 (.cons (.row 53 (.dat Yq5)) (.one (.dat Yq4)))),.dat Yq2],bkN 102 [.dat (.sl .str),.dat Yq2]]⟩,[⟨[],[bkC 0 64 [.dat Yq2,.dat Yq2,.own 82 Yq7,.own 26 Yq6,.own 49 Yq3,.od (.row 41 (.cons (.dat Yq2) (.cons (.dat (.sl Yq7)) (.cons (.row 26 (.dat Yq6)) (.one (.dat Yq6)))))),.od (.row 47 (.cons (.row 53 (.dat Yq5)) (.one (.dat Yq4)))),.dat Yq2],bkC 1 102 [.dat (.sl .str),.dat Yq2]]⟩],fun x=>bh x.1 x.2.1 x.2.2.1 x.2.2.2.1 x.2.2.2.2.1 x.2.2.2.2.2.1 x.2.2.2.2.2.2.1 x.2.2.2.2.2.2.2.1 x.2.2.2.2.2.2.2.2.1 x.2.2.2.2.2.2.2.2.2.1 x.2.2.2.2.2.2.2.2.2.2⟩
def CI:OkSpec Tryz.prog:=⟨Br,ah func56 DS (by kernel_rfl) (by kernel_rfl),call56⟩

def du (xb:(List Tq5)) (qa0:Int) (qa1:Int) (qa2:Tq8) (qa3:(List Tq4)) (qa4:Tq4) (qa5:(List Tq3)) (qa6:(List Tq2)) (qa7:Int):Option ((Int×Int×Int×Tq8×(List Tq4)×Tq4×(List Tq3)×(List Tq2)×Int)) :=
 (aa xb 0).bind fun x9=>(gg x9).bind fun (i10,i11)=>(aa xb 0).bind fun x12=>(km x12 qa0 qa1 qa2 qa3 qa4 qa5 qa6 qa7).bind fun (t13,l14,l15,l16,l17,l18)=>cond (((!t13)||(decide ((xb.length:Int) < i10)))||(decide (i11 < (xb.length:Int)))) (some ((3,qa0,qa1,l14,l15,l16,l17,l18,qa7))) ((subL xb 1 (xb.length:Int)).bind fun y19=>(cond (decide (qa7=6)) ((eL xb qa0 qa1 l14 l15 l16 l17 l18 qa7 y19 0).bind fun (l20,l21,l22,l23,l24,i25,l26,i27)=>some ((qa0,qa1,l20,l21,l22,l23,l24,i25,l26,i27))) ((aa xb 0).bind fun x28=>(bh x28 qa0 qa1 l14 l15 l16 l17 l18 qa7 y19 0).bind fun (i29,i30,l31,l32,l33,l34,l35,i36,l37,i38)=>some ((i29,i30,l31,l32,l33,l34,l35,i36,l37,i38))):Option mX).bind fun (i39,i40,l41,l42,l43,l44,l45,i46,l47,i48)=>some ((i48,i39,i40,l41,l42,l43,l44,l45,i46)))
def Ec:Hn Tryz.prog := .cl CQ [] (.mc 0 0 11 (.mc 0 1 11 (.mc 0 7 11 (.cl Cw [] (.gp 4 (.wt 27 (.gp 4 (.tw 32 .nil (.pl (.sq [] ⟨[],[bkC 0 64 [.dat Yq2,.dat Yq2,.own 82 Yq7,.own 26 Yq6,.own 49 Yq3,.od (.row 41 (.cons (.dat Yq2) (.cons (.dat (.sl Yq7)) (.cons (.row 26 (.dat Yq6)) (.one (.dat Yq6)))))),.od (.row 47 (.cons (.row 53 (.dat Yq5)) (.one (.dat Yq4)))),.dat Yq2],bkC 37 102 [.dat (.sl .str),.dat Yq2]]⟩ [37,30,28,26,0,32,34] (.tw 41 (.cl Do [] .nil) (.cl CI [] .nil)) .nil))))))))))
def CZ:Spec:=⟨31,⟨[(0,.ptr 0 0),(1,.dat (.sl .str))],[bkN 64 [.dat Yq2,.dat Yq2,.own 82 Yq7,.own 26 Yq6,.own 49 Yq3,.od (.row 41 (.cons (.dat Yq2) (.cons (.dat (.sl Yq7)) (.cons (.row 26 (.dat Yq6)) (.one (.dat Yq6)))))),.od (.row 47 (.cons (.row 53 (.dat Yq5)) (.one (.dat Yq4)))),.dat Yq2]]⟩,[⟨[kdI 0],[bkC 0 64 [.dat Yq2,.dat Yq2,.own 82 Yq7,.own 26 Yq6,.own 49 Yq3,.od (.row 41 (.cons (.dat Yq2) (.cons (.dat (.sl Yq7)) (.cons (.row 26 (.dat Yq6)) (.one (.dat Yq6)))))),.od (.row 47 (.cons (.row 53 (.dat Yq5)) (.one (.dat Yq4)))),.dat Yq2]]⟩],fun x=>du x.1 x.2.1 x.2.2.1 x.2.2.2.1 x.2.2.2.2.1 x.2.2.2.2.2.1 x.2.2.2.2.2.2.1 x.2.2.2.2.2.2.2.1 x.2.2.2.2.2.2.2.2⟩
def pW:OkSpec Tryz.prog:=⟨CZ,ah func31 Ec (by kernel_rfl) (by kernel_rfl),call31⟩

def f7 (qa0:Int) (qa1:Int) (qa2:Tq8) (qa3:(List Tq4)) (qa4:Tq4) (qa5:(List Tq3)) (qa6:(List Tq2)) (qa7:Int):Option ((Bool×Tq8×(List Tq4)×Tq4×(List Tq3)×(List Tq2))) :=
 some ((((decide (qa7=3))||(decide (qa7=5)))||(decide (qa7=7)),qa2,qa3,qa4,qa5,qa6))
def EO:Hn Tryz.prog := .gp 5 (.wt 15 (.gp 5 .nil))
def CT:Spec:=⟨32,⟨[(0,.ptr 0 0)],[bkN 64 [.is 1 (.dat Yq2),.is 2 (.dat Yq2),.own 82 Yq7,.own 26 Yq6,.own 49 Yq3,.od (.row 41 (.cons (.dat Yq2) (.cons (.dat (.sl Yq7)) (.cons (.row 26 (.dat Yq6)) (.one (.dat Yq6)))))),.od (.row 47 (.cons (.row 53 (.dat Yq5)) (.one (.dat Yq4)))),.is 3 (.dat Yq2)],bkM,bkM,bkM]⟩,[⟨[kdB 0],[bkC 0 64 [.is 1 (.any),.is 2 (.any),.own 82 Yq7,.own 26 Yq6,.own 49 Yq3,.od (.row 41 (.cons (.dat Yq2) (.cons (.dat (.sl Yq7)) (.cons (.row 26 (.dat Yq6)) (.one (.dat Yq6)))))),.od (.row 47 (.cons (.row 53 (.dat Yq5)) (.one (.dat Yq4)))),.is 3 (.any)],bkU 1,bkU 2,bkU 3]⟩],fun x=>f7 x.1 x.2.1 x.2.2.1 x.2.2.2.1 x.2.2.2.2.1 x.2.2.2.2.2.1 x.2.2.2.2.2.2.1 x.2.2.2.2.2.2.2⟩
def qu:OkSpec Tryz.prog:=⟨CT,ah func32 EO (by kernel_rfl) (by kernel_rfl),call32⟩
def vR  : Tq7→Option (Tq7⊕(Tq7⊕qq)):=fun (i1,i2,l3,l4,l5,l6,l7,i9,i10,s11)=>cond (decide (0 < (s11.length:Int))) ((vL s11).bind fun (v12,v13)=>(subL s11 0 v13).bind fun y14=>(cJ y14 ([32]:List UInt8)).bind fun l15=>(f6 l15).bind fun l16=>(cond (decide ((l16.length:Int)=0)) (some (true)) ((aa l16 0).bind fun x17=>(dX x17 ([35]:List UInt8)).bind fun t18=>some (t18))).bind fun t19=>cond (t19) ((subL s11 v13 (s11.length:Int)).bind fun y20=>some (.inl ((i1,i2,l3,l4,l5,l6,l7,i9,IntKind.wrap .i64 (i10 + 1),y20)))) ((du l16 i1 i2 l3 l4 l5 l6 l7 i9).bind fun (i21,i22,i23,l24,l25,l26,l27,l28,i29)=>cond (!decide (i21=0)) (some (.inr ((.inr ((0,0,[],[],[],[],[],IntKind.wrap .i64 (i10 + 1),i21)))))) ((subL s11 v13 (s11.length:Int)).bind fun y30=>some (.inl ((i22,i23,l24,l25,l26,l27,l28,i29,IntKind.wrap .i64 (i10 + 1),y30)))))) (some (.inr ((.inl (i1,i2,l3,l4,l5,l6,l7,i9,i10,s11)))))
def eQ (s1:List UInt8) (i2:Int):Tq7→Option (Tq7⊕(Tq7⊕qq)):=fun (i3,i4,l5,l6,l7,l9,l10,i11,i12,s13)=>(ib s13 s1).bind fun i14=>cond (decide (i14 < 0)) (some (.inr ((.inl (i3,i4,l5,l6,l7,l9,l10,i11,i12,s13))))) ((subL s13 0 (IntKind.wrap .i64 (i14 + i2))).bind fun y15=>(cJ y15 ([32]:List UInt8)).bind fun l16=>(f6 l16).bind fun l17=>(cond (decide ((l17.length:Int)=0)) (some (true)) ((aa l17 0).bind fun x18=>(dX x18 ([35]:List UInt8)).bind fun t19=>some (t19))).bind fun t20=>cond (t20) ((subL s13 (IntKind.wrap .i64 (i14 + (s1.length:Int))) (s13.length:Int)).bind fun y21=>some (.inl ((i3,i4,l5,l6,l7,l9,l10,i11,IntKind.wrap .i64 (i12 + 1),y21)))) ((du l17 i3 i4 l5 l6 l7 l9 l10 i11).bind fun (i22,i23,i24,l25,l26,l27,l28,l29,i30)=>cond (!decide (i22=0)) (some (.inr ((.inr ((0,0,[],[],[],[],[],IntKind.wrap .i64 (i12 + 1),i22)))))) ((subL s13 (IntKind.wrap .i64 (i14 + (s1.length:Int))) (s13.length:Int)).bind fun y31=>some (.inl ((i23,i24,l25,l26,l27,l28,l29,i30,IntKind.wrap .i64 (i12 + 1),y31))))))
def d5 (xa:Tq5):Option (qq) :=
 cond (decide (1048576 < (xa.length:Int))) (some ((0,0,[],[],[],[],[],0,5))) ((nt xa ([10]:List UInt8)).bind fun (s1,s2,i3)=>cond (decide ((s1.length:Int)=0)) ((loop (vR) (0,0,[],[],[],[],[],0,0,s2)).bind fun o=>match o with | .inr r=>some r | .inl (i4,i5,l6,l7,l9,l10,l11,i12,i13,s14)=>(f7 i4 i5 l6 l7 l9 l10 l11 i12).bind fun (t15,l16,l17,l18,l19,l20)=>cond (!t15) (some ((0,0,[],[],[],[],[],0,14))) (some ((i4,i5,l16,l17,l18,l19,l20,0,0)))) ((loop (eQ s1 i3) (0,0,[],[],[],[],[],0,0,s2)).bind fun o=>match o with | .inr r=>some r | .inl (i21,i22,l23,l24,l25,l26,l27,i28,i29,s30)=>(cJ s30 ([32]:List UInt8)).bind fun l31=>(f6 l31).bind fun l32=>(cond (decide ((l32.length:Int)=0)) (some (true)) ((aa l32 0).bind fun x33=>(dX x33 ([35]:List UInt8)).bind fun t34=>some (t34))).bind fun t35=>cond (t35) ((f7 i21 i22 l23 l24 l25 l26 l27 i28).bind fun (t36,l37,l38,l39,l40,l41)=>cond (!t36) (some ((0,0,[],[],[],[],[],0,14))) (some ((i21,i22,l37,l38,l39,l40,l41,0,0)))) ((du l32 i21 i22 l23 l24 l25 l26 l27 i28).bind fun (i42,i43,i44,l45,l46,l47,l48,l49,i50)=>cond (!decide (i42=0)) (some ((0,0,[],[],[],[],[],IntKind.wrap .i64 (i29 + 1),i42))) ((f7 i43 i44 l45 l46 l47 l48 l49 i50).bind fun (t51,l52,l53,l54,l55,l56)=>cond (!t51) (some ((0,0,[],[],[],[],[],0,14))) (some ((i43,i44,l52,l53,l54,l55,l56,0,0)))))))
def EM:Hn Tryz.prog := .tw 12 .nil (.cl oQ4 [] (.rg ⟨67,_,func67,call67⟩ (.tw 11 (.jx [] ⟨[],[bkC 0 30 [.lit (.int .i64 0),.lit (.int .i64 0),.nils,.nils,.nils,.nils,.nils],bkC 2 3 [.lit (.int .i64 0)],bkC 4 34 [.lit (.int .i64 0)],bkC 6 64 [.dat Yq2,.dat Yq2,.own 82 Yq7,.own 26 Yq6,.own 49 Yq3,.od (.row 41 (.cons (.dat Yq2) (.cons (.dat (.sl Yq7)) (.cons (.row 26 (.dat Yq6)) (.one (.dat Yq6)))))),.od (.row 47 (.cons (.row 53 (.dat Yq5)) (.one (.dat Yq4)))),.dat Yq2],bkC 9 3 [.dat Yq2],bkC 13 9 [.dat .str],⟨(some 18),0,[],false,false,none,true⟩]⟩ [18,13,9,6,4,2,0] (.lp ⟨[],[bkC 0 30 [.lit (.int .i64 0),.lit (.int .i64 0),.nils,.nils,.nils,.nils,.nils],bkC 2 3 [.lit (.int .i64 0)],bkC 4 34 [.lit (.int .i64 0)],bkC 6 64 [.dat Yq2,.dat Yq2,.own 82 Yq7,.own 26 Yq6,.own 49 Yq3,.od (.row 41 (.cons (.dat Yq2) (.cons (.dat (.sl Yq7)) (.cons (.row 26 (.dat Yq6)) (.one (.dat Yq6)))))),.od (.row 47 (.cons (.row 53 (.dat Yq5)) (.one (.dat Yq4)))),.dat Yq2],bkC 9 3 [.dat Yq2],bkC 13 9 [.dat .str],⟨(some 18),0,[],false,false,none,true⟩]⟩ (.tw 14 (.cl oQ5 [] (.yl 4 (.cl js [] (.cl oQ8 [] (.gj 4 ⟨[kdB 31],[]⟩ [] (.two 26 .nil (.cl qg [] .nil)) (.tw 31 .nil (.cl pW [] (.tw 35 (.mix [([0,1,2],3),([],4)] [] [5] [0,2] .nil) .nil)))))))) .nil)) (.wt 1000035 (.mc 6 0 32 (.mc 6 1 32 (.mc 6 7 32 (.cl qu [] (.tw 40 .nil .nil))))))) (.jx [] ⟨[],[bkC 0 30 [.lit (.int .i64 0),.lit (.int .i64 0),.nils,.nils,.nils,.nils,.nils],bkC 2 3 [.lit (.int .i64 0)],bkC 4 34 [.lit (.int .i64 0)],bkC 6 64 [.dat Yq2,.dat Yq2,.own 82 Yq7,.own 26 Yq6,.own 49 Yq3,.od (.row 41 (.cons (.dat Yq2) (.cons (.dat (.sl Yq7)) (.cons (.row 26 (.dat Yq6)) (.one (.dat Yq6)))))),.od (.row 47 (.cons (.row 53 (.dat Yq5)) (.one (.dat Yq4)))),.dat Yq2],bkC 9 3 [.dat Yq2],bkC 13 9 [.dat .str],⟨(some 18),0,[],false,false,none,true⟩]⟩ [18,13,9,6,4,2,0] (.lp ⟨[],[bkC 0 30 [.lit (.int .i64 0),.lit (.int .i64 0),.nils,.nils,.nils,.nils,.nils],bkC 2 3 [.lit (.int .i64 0)],bkC 4 34 [.lit (.int .i64 0)],bkC 6 64 [.dat Yq2,.dat Yq2,.own 82 Yq7,.own 26 Yq6,.own 49 Yq3,.od (.row 41 (.cons (.dat Yq2) (.cons (.dat (.sl Yq7)) (.cons (.row 26 (.dat Yq6)) (.one (.dat Yq6)))))),.od (.row 47 (.cons (.row 53 (.dat Yq5)) (.one (.dat Yq4)))),.dat Yq2],bkC 9 3 [.dat Yq2],bkC 13 9 [.dat .str],⟨(some 18),0,[],false,false,none,true⟩]⟩ (.cl yH [] (.tw 33 .nil (.wt 8 (.yl 2 (.cl js [] (.cl oQ8 [] (.gj 4 ⟨[kdB 31],[]⟩ [] (.two 26 .nil (.cl qg [] .nil)) (.tw 31 .nil (.cl pW [] (.tw 35 (.mix [([0,1,2],3),([],4)] [] [5] [0,2] .nil) .nil))))))))))) (.yl 2 (.cl js [] (.cl oQ8 [] (.gj 4 ⟨[kdB 31],[]⟩ [] (.two 26 .nil (.cl qg [] .nil)) (.tw 31 (.wt 1000040 (.mc 6 0 32 (.mc 6 1 32 (.mc 6 7 32 (.cl qu [] (.tw 40 .nil .nil)))))) (.cl pW [] (.tw 35 (.mix [([0,1,2],3),([],4)] [] [5] [0,2] .nil) (.mc 6 0 61 (.mc 6 1 61 (.mc 6 7 61 (.cl qu [] (.tw 40 .nil .nil))))))))))))))))
def B8:Spec:=⟨9,⟨[(0,.dat .str)],[]⟩,[⟨[(0,.tup [.agg [.dat Yq2,.dat Yq2,.own 82 Yq7,.own 26 Yq6,.own 49 Yq3,.od (.row 41 (.cons (.dat Yq2) (.cons (.dat (.sl Yq7)) (.cons (.row 26 (.dat Yq6)) (.one (.dat Yq6)))))),.od (.row 47 (.cons (.row 53 (.dat Yq5)) (.one (.dat Yq4))))],.dat Yq2,.dat Yq2])],[]⟩],fun x=>d5 x⟩
def qt:OkSpec Tryz.prog:=⟨B8,ah func9 EM (by kernel_rfl) (by kernel_rfl),call9⟩
def iL (xa:Tq4):bU→Option (bU⊕(List Tq5)):=fun (l1,i2)=>cond (decide (i2 < (xa.length:Int))) ((aa xa i2).bind fun x3=>(be x3.1).bind fun s4=>(cond (x3.2) ((app s4 ([33]:List UInt8)).bind fun z5=>some (z5)) (some (s4)):Option Tq5).bind fun s6=>(app l1 (([s6]:List Tq5))).bind fun z7=>some (.inl ((z7,IntKind.wrap .i64 (i2 + 1))))) (some (.inr (l1)))
def dz (xa:Tq4):Option Tq5 :=
 cond (decide ((xa.length:Int)=0)) (some (([45]:List UInt8))) ((loop (iL xa) ([],0)).bind fun l1=>(dM l1 ([47]:List UInt8)).bind fun s2=>some (s2))
def Cz:Hn Tryz.prog := .tw 10 .nil (.jn [] ⟨[(3,.own 9 .str)],[]⟩ [0] (.lp ⟨[(3,.own 9 .str),kdI 14],[]⟩ (.tw 15 (.cl bP [] (.sq [] ⟨[(6,.dat .str)],[]⟩ [] (.tw 22 .nil .nil) .nil)) .nil)) (.cl pn [2] .nil))
def BJ:Spec:=⟨13,⟨[(0,.dat Yq6)],[]⟩,[⟨[(0,.dat .str)],[]⟩],fun x=>dz x⟩
def kb:OkSpec Tryz.prog:=⟨BJ,ah func13 Cz (by kernel_rfl) (by kernel_rfl),call13⟩

def aN (xa:(List Tq5)):Option Tq5 :=
 (dM xa ([32]:List UInt8)).bind fun s10=>some (s10)
def BM:Hn Tryz.prog := .cl pn [] .nil
def Dn:Spec:=⟨15,⟨[(0,.dat (.sl .str))],[]⟩,[⟨[(0,.dat .str)],[]⟩],fun x=>aN x⟩
def cb:OkSpec Tryz.prog:=⟨Dn,ah func15 BM (by kernel_rfl) (by kernel_rfl),call15⟩

def fc (xa:Tq5) (xb:Tq6):Option Tq5 :=
 (be xb.2.1).bind fun s1=>(be xb.2.2.1).bind fun s2=>(be xb.2.2.2.1).bind fun s3=>cond (xb.2.2.2.2) ((app (([xa,s1,s2,s3]:List Tq5)) (([([109,117,116]:List UInt8)]:List Tq5))).bind fun z4=>(aN z4).bind fun s5=>some (s5)) ((aN (([xa,s1,s2,s3]:List Tq5))).bind fun s6=>some (s6))
def Bv:Hn Tryz.prog := .mix [([0,1,2,4,5,7,8],3),([],6),([],9),([],10)] [11] [] [] (.cl bP [] (.cl bP [] (.cl bP [] (.tw 18 (.cl cb [6] .nil) (.cl cb [2] .nil)))))
def C5:Spec:=⟨38,⟨[(0,.dat .str),(1,.dat Yq5)],[]⟩,[⟨[(0,.dat .str)],[]⟩],fun x=>fc x.1 x.2⟩
def vF:OkSpec Tryz.prog:=⟨C5,ah func38 Bv (by kernel_rfl) (by kernel_rfl),call38⟩

def fg (xa:Tq6):Option Tq5 :=
 (be xa.2.1).bind fun s1=>(be xa.2.2.1).bind fun s2=>cond (decide (xa.1=0)) (some (([110,111,112]:List UInt8))) (cond (decide (xa.1=1)) ((aN (([([97,115,115,105,103,110]:List UInt8),s1,s2]:List Tq5))).bind fun s3=>some (s3)) (cond (decide (xa.1=2)) ((fc ([98,111,114,114,111,119]:List UInt8) (xa.1,xa.2.1,xa.2.2.1,xa.2.2.2.1,xa.2.2.2.2)).bind fun s4=>some (s4)) (cond (decide (xa.1=3)) ((fc ([114,101,98,111,114,114,111,119]:List UInt8) (xa.1,xa.2.1,xa.2.2.1,xa.2.2.2.1,xa.2.2.2.2)).bind fun s5=>some (s5)) (cond (decide (xa.1=4)) ((aN (([([117,115,101]:List UInt8),s2]:List Tq5))).bind fun s6=>some (s6)) (cond (decide (xa.1=5)) ((aN (([([100,101,97,100]:List UInt8),s1]:List Tq5))).bind fun s7=>some (s7)) (some (([63]:List UInt8))))))))
def B4:Hn Tryz.prog := .mix [([0,1,3,4],2)] [] [5,6,7] [] (.cl bP [] (.cl bP [] (.tw 13 .nil (.tw 15 (.cl cb [2] .nil) (.tw 21 (.cl vF [] .nil) (.tw 25 (.cl vF [] .nil) (.tw 29 (.cl cb [2] .nil) (.tw 34 (.cl cb [2] .nil) .nil))))))))
def EV:Spec:=⟨14,⟨[(0,.dat Yq5)],[]⟩,[⟨[(0,.dat .str)],[]⟩],fun x=>fg x⟩
def vz:OkSpec Tryz.prog:=⟨EV,ah func14 B4 (by kernel_rfl) (by kernel_rfl),call14⟩

def eU  : Option Bool :=
 (d5 ([114,101,103,105,111,110,115,32,49,32,49,10,98,111,117,110,100,115,10,108,111,99,97,108,32,45,10,103,105,118,101,115,32,45,10,98,108,111,99,107,10,114,101,116,117,114,110,10]:List UInt8)).bind fun (i1,i2,l3,l4,l5,l6,l7,i9,i10)=>(dz (([(1,false),(2,true)]:List (Int×Bool)))).bind fun s11=>(cond (decide (s11=([49,47,50,33]:List UInt8))) ((fg (2,0,1,3,true)).bind fun s12=>some (decide (s12=([98,111,114,114,111,119,32,48,32,49,32,51,32,109,117,116]:List UInt8)))) (some (false))).bind fun t13=>some (((t13&&(decide (i9=0)))&&(decide (i10=0)))&&(decide ((l7.length:Int)=1)))
def wg:Hn Tryz.prog := .cl qt [] (.cl kb [0] (.gj 3 ⟨[kdB 21],[]⟩ [] (.two 17 (.cl vz [] .nil) .nil) (.wt 22 (.gp 2 (.wt 26 (.gp 2 (.wt 30 (.gp 4 .nil))))))))
def qM:Spec:=⟨5,⟨[],[]⟩,[⟨[kdB 0],[]⟩],fun x=>eU⟩
theorem wa:bI Tryz.prog qM:=ah func5 wg (by kernel_rfl) (by kernel_rfl)
def nT:OkSpec Tryz.prog:=⟨qM,wa,call5⟩

def iJ (xa:(Int×Int)):Option Tq5 :=
 cond ((decide (xa.1 < 0))||(decide (xa.2 < 0))) (some (([]:List UInt8))) ((be xa.1).bind fun s1=>(app s1 ([58]:List UInt8)).bind fun z2=>(be xa.2).bind fun s3=>(app z2 s3).bind fun z4=>some (z4))
def Et:Hn Tryz.prog := .gp 3 (.tw 10 .nil (.mix [([0,1,4,5],2),([3],6)] [7,8] [] [] (.cl bP [] (.cl bP [] .nil))))
def CF:Spec:=⟨39,⟨[(0,.dat Yq7)],[]⟩,[⟨[(0,.dat .str)],[]⟩],fun x=>iJ x⟩
def EG:OkSpec Tryz.prog:=⟨CF,ah func39 Et (by kernel_rfl) (by kernel_rfl),call39⟩
def nB (xb:Tq8):bU→Option (bU⊕(List Tq5)):=fun (l1,i2)=>cond (decide (i2 < (xb.length:Int))) ((aa xb i2).bind fun x3=>(iJ (x3.1,x3.2)).bind fun s4=>(app l1 (([s4]:List Tq5))).bind fun z5=>some (.inl ((z5,IntKind.wrap .i64 (i2 + 1))))) (some (.inr (l1)))
def iP (xa:Tq5) (xb:Tq8):Option Tq5 :=
 (loop (nB xb) ((([xa]:List Tq5),0))).bind fun l1=>(aN l1).bind fun s2=>some (s2)
def De:Hn Tryz.prog := .jn [] ⟨[(5,.own 9 .str),(9,.any)],[]⟩ [0] (.lp ⟨[(5,.own 9 .str),kdI 12],[]⟩ (.tw 13 (.cl EG [] .nil) .nil)) (.cl cb [2] .nil)
def CS:Spec:=⟨17,⟨[(0,.dat .str),(1,.dat (.sl Yq7))],[]⟩,[⟨[(0,.dat .str)],[]⟩],fun x=>iP x.1 x.2⟩
def vB:OkSpec Tryz.prog:=⟨CS,ah func17 De (by kernel_rfl) (by kernel_rfl),call17⟩
def ix (xa:(List Int)):(Int×List UInt8)→Option ((Int×List UInt8)⊕List UInt8):=fun (i1,s2)=>cond (decide (i1 < (xa.length:Int))) ((aa xa i1).bind fun x3=>cond (decide (0 < i1)) ((wrB s2 44).bind fun z4=>(be x3).bind fun s5=>(wrS z4 s5).bind fun z6=>some (.inl ((IntKind.wrap .i64 (i1 + 1),z6)))) ((be x3).bind fun s7=>(wrS s2 s7).bind fun z9=>some (.inl ((IntKind.wrap .i64 (i1 + 1),z9))))) (some (.inr (s2)))
def iK (xa:(List Int)):Option Tq5 :=
 (loop (ix xa) ((0,([]:List UInt8)))).bind fun s1=>(some s1).bind fun s2=>some (s2)
def B3:Hn Tryz.prog := .jn [] ⟨[],[⟨(some 0),0,[],true,false,none,false⟩]⟩ [0] (.lp ⟨[kdI 8],[⟨(some 0),0,[],true,false,none,false⟩]⟩ (.tw 9 (.tw 14 (.cl wz [] (.cl bP [] (.cl qN [] .nil))) (.cl bP [] (.cl qN [] .nil))) .nil)) (.cl w8 [] .nil)
def Bu:Spec:=⟨59,⟨[(0,.dat (.sl Yq2))],[]⟩,[⟨[(0,.dat .str)],[]⟩],fun x=>iK x⟩
def Cd:OkSpec Tryz.prog:=⟨Bu,ah func59 B3 (by kernel_rfl) (by kernel_rfl),call59⟩

def dA (xa:(List Int)):Option Tq5 :=
 cond (decide ((xa.length:Int)=0)) (some (([45]:List UInt8))) ((iK xa).bind fun s12=>some (s12))
def Ci:Hn Tryz.prog := .tw 5 .nil (.cl Cd [] .nil)
def DH:Spec:=⟨40,⟨[(0,.dat (.sl Yq2))],[]⟩,[⟨[(0,.dat .str)],[]⟩],fun x=>dA x⟩
def hO:OkSpec Tryz.prog:=⟨DH,ah func40 Ci (by kernel_rfl) (by kernel_rfl),call40⟩

def iZ (xa:fU):Option Tq5 :=
 cond (decide (xa.1=1)) ((dA xa.2.2.2.1).bind fun s1=>(aN (([([103,111,116,111]:List UInt8),s1]:List Tq5))).bind fun s2=>some (s2)) (cond (decide (xa.1=2)) ((dA xa.2.2.2.1).bind fun s3=>(dA xa.2.2.2.2.1).bind fun s4=>(aN (([([115,119,105,116,99,104]:List UInt8),s3,s4]:List Tq5))).bind fun s5=>some (s5)) (cond (decide (xa.1=3)) (some (([114,101,116,117,114,110]:List UInt8))) (cond (decide (xa.1=4)) ((be xa.2.1).bind fun s6=>(be xa.2.2.1).bind fun s7=>(dA xa.2.2.2.1).bind fun s9=>(dA xa.2.2.2.2.2).bind fun s10=>(dA xa.2.2.2.2.1).bind fun s11=>(aN (([([99,97,108,108]:List UInt8),s6,s7,s9,s10,s11]:List Tq5))).bind fun s12=>some (s12)) (some (([63]:List UInt8))))))
def DA:Hn Tryz.prog := .tw 5 (.cl hO [] (.cl cb [2] .nil)) (.tw 12 (.mix [([0,1,3,4],2)] [] [5,6,7,8] [] (.cl hO [] (.cl hO [] (.cl cb [2] .nil)))) (.tw 22 .nil (.tw 24 (.mix [([0,1,3,4,6,7,9,10,12,13],2),([],5),([],8),([],11)] [] [14,15,16,17] [] (.cl bP [] (.cl bP [] (.cl hO [] (.cl hO [] (.cl hO [] (.cl cb [2] .nil))))))) .nil)))
def CH:Spec:=⟨18,⟨[(0,.dat Yq4)],[]⟩,[⟨[(0,.dat .str)],[]⟩],fun x=>iZ x⟩
def BU:OkSpec Tryz.prog:=⟨CH,ah func18 DA (by kernel_rfl) (by kernel_rfl),call18⟩
def nN (xa:Tq1):bU→Option (bU⊕(List Tq5)):=fun (l1,i2)=>cond (decide (i2 < (xa.2.2.2.1.length:Int))) ((aa xa.2.2.2.1 i2).bind fun x3=>(dz x3).bind fun s4=>(aN (([([108,111,99,97,108]:List UInt8),s4]:List Tq5))).bind fun s5=>(app l1 (([s5]:List Tq5))).bind fun z6=>some (.inl ((z6,IntKind.wrap .i64 (i2 + 1))))) (some (.inr (l1)))
def kK (x1:Tq3):bU→Option (bU⊕(List Tq5)):=fun (l2,i3)=>cond (decide (i3 < (x1.2.2.1.length:Int))) ((aa x1.2.2.1 i3).bind fun x4=>(dz x4).bind fun s5=>(aN (([([97,114,103]:List UInt8),s5]:List Tq5))).bind fun s6=>(app l2 (([s6]:List Tq5))).bind fun z7=>some (.inl ((z7,IntKind.wrap .i64 (i3 + 1))))) (some (.inr (l2)))
def nM (xa:Tq1):bU→Option (bU⊕(List Tq5)):=fun (l1,i2)=>cond (decide (i2 < (xa.2.2.2.2.2.1.length:Int))) ((aa xa.2.2.2.2.2.1 i2).bind fun x3=>(be x3.1).bind fun s4=>(dz x3.2.2.2).bind fun s5=>(aN (([([115,105,103]:List UInt8),s4,s5]:List Tq5))).bind fun s6=>(iP ([110,101,101,100,115]:List UInt8) x3.2.1).bind fun s7=>(app l1 (([s6,s7]:List Tq5))).bind fun z9=>(loop (kK x3) (z9,0)).bind fun l10=>some (.inl ((l10,IntKind.wrap .i64 (i2 + 1))))) (some (.inr (l1)))
def nJ (x1:Tq2):bU→Option (bU⊕(List Tq5)):=fun (l2,i3)=>cond (decide (i3 < (x1.1.length:Int))) ((aa x1.1 i3).bind fun x4=>(fg (x4.1,x4.2.1,x4.2.2.1,x4.2.2.2.1,x4.2.2.2.2)).bind fun s5=>(app l2 (([s5]:List Tq5))).bind fun z6=>some (.inl ((z6,IntKind.wrap .i64 (i3 + 1))))) (some (.inr (l2)))
def nI (xa:Tq1):bU→Option (bU⊕(List Tq5)):=fun (l1,i2)=>cond (decide (i2 < (xa.2.2.2.2.2.2.length:Int))) ((aa xa.2.2.2.2.2.2 i2).bind fun x3=>(app l1 (([([98,108,111,99,107]:List UInt8)]:List Tq5))).bind fun z4=>(loop (nJ x3) (z4,0)).bind fun l5=>(iZ (x3.2.1,x3.2.2.1,x3.2.2.2.1,x3.2.2.2.2.1,x3.2.2.2.2.2.1,x3.2.2.2.2.2.2)).bind fun s6=>(app l5 (([s6]:List Tq5))).bind fun z7=>some (.inl ((z7,IntKind.wrap .i64 (i2 + 1))))) (some (.inr (l1)))
def iY (xa:Tq1):Option Tq5 :=
 (be xa.1).bind fun s1=>(be xa.2.1).bind fun s2=>(aN (([([114,101,103,105,111,110,115]:List UInt8),s1,s2]:List Tq5))).bind fun s3=>(iP ([98,111,117,110,100,115]:List UInt8) xa.2.2.1).bind fun s4=>(loop (nN xa) ((([s3,s4]:List Tq5),0))).bind fun l5=>(dz xa.2.2.2.2.1).bind fun s6=>(aN (([([103,105,118,101,115]:List UInt8),s6]:List Tq5))).bind fun s7=>(app l5 (([s7]:List Tq5))).bind fun z9=>(loop (nM xa) (z9,0)).bind fun l10=>(loop (nI xa) (l10,0)).bind fun l11=>(dM l11 ([10]:List UInt8)).bind fun s12=>(app s12 ([10]:List UInt8)).bind fun z13=>some (z13)
def Bt:Hn Tryz.prog := .mix [([0,1,3,4,8,9],2),([],5),([],6),([],7)] [] [10,11,12] [] (.cl bP [] (.cl bP [] (.cl cb [2] (.cl vB [] (.jn [] ⟨[(3,.own 9 .str),(20,.any),(25,.any)],[]⟩ [4,2] (.lp ⟨[(3,.own 9 .str),kdI 29],[]⟩ (.tw 30 (.cl kb [] (.cl cb [11] .nil)) .nil)) (.cl kb [] (.cl cb [8] (.jn [] ⟨[(3,.own 9 .str),(41,.any),(45,.any),(48,.any)],[]⟩ [12,8] (.lp ⟨[(3,.own 9 .str),kdI 52],[]⟩ (.tw 53 (.mix [([0,1,2,4,5,9,10],3),([],6),([],7),([],8),([],11),([],12)] [] [13,14] [] (.cl bP [] (.cl kb [] (.cl cb [19] (.cl vB [] (.jn [] ⟨[(3,.own 9 .str),(56,.any),(63,.any),(69,.any)],[]⟩ [23,19,16] (.lp ⟨[(3,.own 9 .str),kdI 73],[]⟩ (.tw 74 (.cl kb [] (.cl cb [30] .nil)) .nil)) .nil)))))) .nil)) (.jn [] ⟨[(3,.own 9 .str)],[]⟩ [0,14] (.lp ⟨[(3,.own 9 .str),kdI 89],[]⟩ (.tw 90 (.pl (.pl (.jn [] ⟨[(3,.own 9 .str),(93,.any),(95,.any)],[]⟩ [23] (.lp ⟨[(3,.own 9 .str),kdI 99],[]⟩ (.tw 100 (.cl vz [] .nil) .nil)) (.cl BU [] .nil)))) .nil)) (.cl pn [16] .nil))))))))))
def B7:Spec:=⟨6,⟨[(0,.dat Yq1)],[]⟩,[⟨[(0,.dat .str)],[]⟩],fun x=>iY x⟩
def D4:OkSpec Tryz.prog:=⟨B7,ah func6 Bt (by kernel_rfl) (by kernel_rfl),call6⟩

def iU (xa:(Int×Int)):Option Tq5 :=
 cond ((decide (xa.1 < 0))||(decide (xa.2 < 0))) (some (([]:List UInt8))) ((bL xa.1).bind fun s1=>(app s1 ([58]:List UInt8)).bind fun z2=>(bL xa.2).bind fun s3=>(app z2 s3).bind fun z4=>some (z4))
def DJ:Hn Tryz.prog := .gp 3 (.tw 10 .nil (.mix [([0,1,4,5],2),([3],6)] [7,8] [] [] (.cl cx [] (.cl cx [] .nil))))
def Dj:Spec:=⟨44,⟨[(0,.dat Yq7)],[]⟩,[⟨[(0,.dat .str)],[]⟩],fun x=>iU x⟩
def Dt:OkSpec Tryz.prog:=⟨Dj,ah func44 DJ (by kernel_rfl) (by kernel_rfl),call44⟩
def nw (xb:Tq8):Tq9→Option (Tq9⊕List UInt8):=fun (s1,i2)=>cond (decide (i2 < (xb.length:Int))) ((app s1 ([32]:List UInt8)).bind fun z3=>(aa xb i2).bind fun x4=>(iU (x4.1,x4.2)).bind fun s5=>(app z3 s5).bind fun z6=>some (.inl ((z6,IntKind.wrap .i64 (i2 + 1))))) (some (.inr (s1)))
def iG (xa:Tq5) (xb:Tq8):Option Tq5 :=
 (loop (nw xb) (xa,0)).bind fun s1=>some (s1)
def El:Hn Tryz.prog := .jn [] ⟨[(0,.dat .str)],[]⟩ [] (.lp ⟨[(0,.dat .str),kdI 5],[]⟩ (.tw 9 (.cl Dt [] .nil) .nil)) .nil
def Du:Spec:=⟨21,⟨[(0,.dat .str),(1,.dat (.sl Yq7))],[]⟩,[⟨[(0,.dat .str)],[]⟩],fun x=>iG x.1 x.2⟩
def vH:OkSpec Tryz.prog:=⟨Du,ah func21 El (by kernel_rfl) (by kernel_rfl),call21⟩
def iC (xa:Tq4):Tq9→Option (Tq9⊕List UInt8):=fun (s1,i2)=>cond (decide (i2 < (xa.length:Int))) ((cond (decide (0 < i2)) ((app s1 ([47]:List UInt8)).bind fun z3=>some (z3)) (some (s1)):Option Tq5).bind fun s4=>(aa xa i2).bind fun x5=>(bL x5.1).bind fun s6=>(app s4 s6).bind fun z7=>(aa xa i2).bind fun x9=>cond (x9.2) ((app z7 ([33]:List UInt8)).bind fun z10=>some (.inl ((z10,IntKind.wrap .i64 (i2 + 1))))) (some (.inl ((z7,IntKind.wrap .i64 (i2 + 1)))))) (some (.inr (s1)))
def eZ (xa:Tq4):Option Tq5 :=
 cond (decide ((xa.length:Int)=0)) (some (([45]:List UInt8))) ((loop (iC xa) ((([]:List UInt8),0))).bind fun s1=>some (s1))
def DP:Hn Tryz.prog := .tw 8 .nil (.jn [] ⟨[(3,.dat .str)],[]⟩ [] (.lp ⟨[(3,.dat .str),kdI 4],[]⟩ (.tw 13 (.pl (.sq [] ⟨[(3,.dat .str)],[]⟩ [] (.tw 17 .nil .nil) (.cl cx [] (.tw 34 .nil .nil)))) .nil)) .nil)
def BD:Spec:=⟨22,⟨[(0,.dat Yq6)],[]⟩,[⟨[(0,.dat .str)],[]⟩],fun x=>eZ x⟩
def mW:OkSpec Tryz.prog:=⟨BD,ah func22 DP (by kernel_rfl) (by kernel_rfl),call22⟩

def iS (xa:Tq6):Option Tq5 :=
 (bL xa.2.1).bind fun s1=>(bL xa.2.2.1).bind fun s2=>(bL xa.2.2.2.1).bind fun s3=>(cond (xa.2.2.2.2) (some (([32,109,117,116]:List UInt8))) (some (([]:List UInt8))):Option Tq5).bind fun s4=>cond (decide (xa.1=0)) (some (([110,111,112]:List UInt8))) (cond (decide (xa.1=1)) ((app ([97,115,115,105,103,110,32]:List UInt8) s1).bind fun z5=>(app z5 ([32]:List UInt8)).bind fun z6=>(app z6 s2).bind fun z7=>some (z7)) (cond (decide (xa.1=2)) ((app ([98,111,114,114,111,119,32]:List UInt8) s1).bind fun z9=>(app z9 ([32]:List UInt8)).bind fun z10=>(app z10 s2).bind fun z11=>(app z11 ([32]:List UInt8)).bind fun z12=>(app z12 s3).bind fun z13=>(app z13 s4).bind fun z14=>some (z14)) (cond (decide (xa.1=3)) ((app ([114,101,98,111,114,114,111,119,32]:List UInt8) s1).bind fun z15=>(app z15 ([32]:List UInt8)).bind fun z16=>(app z16 s2).bind fun z17=>(app z17 ([32]:List UInt8)).bind fun z18=>(app z18 s3).bind fun z19=>(app z19 s4).bind fun z20=>some (z20)) (cond (decide (xa.1=4)) ((app ([117,115,101,32]:List UInt8) s2).bind fun z21=>some (z21)) (cond (decide (xa.1=5)) ((app ([100,101,97,100,32]:List UInt8) s1).bind fun z22=>some (z22)) (some (([63]:List UInt8))))))))
def BV:Hn Tryz.prog := .mix [([0,1,3,4,6,7],2),([],5)] [] [8,9,10,11] [] (.cl cx [] (.cl cx [] (.cl cx [] (.pl (.sq [] ⟨[(6,.dat .str)],[]⟩ [] (.tw 17 .nil .nil) (.tw 20 .nil (.tw 22 .nil (.tw 29 .nil (.tw 41 .nil (.tw 53 .nil (.tw 57 .nil .nil)))))))))))
def C4:Spec:=⟨23,⟨[(0,.dat Yq5)],[]⟩,[⟨[(0,.dat .str)],[]⟩],fun x=>iS x⟩
def C1:OkSpec Tryz.prog:=⟨C4,ah func23 BV (by kernel_rfl) (by kernel_rfl),call23⟩
def iB (xa:(List Int)):Tq9→Option (Tq9⊕List UInt8):=fun (s1,i2)=>cond (decide (i2 < (xa.length:Int))) ((cond (decide (0 < i2)) ((app s1 ([44]:List UInt8)).bind fun z3=>some (z3)) (some (s1)):Option Tq5).bind fun s4=>(aa xa i2).bind fun x5=>(bL x5).bind fun s6=>(app s4 s6).bind fun z7=>some (.inl ((z7,IntKind.wrap .i64 (i2 + 1))))) (some (.inr (s1)))
def kO (xa:(List Int)):Option Tq5 :=
 (loop (iB xa) ((([]:List UInt8),0))).bind fun s1=>some (s1)
def BG:Hn Tryz.prog := .jn [] ⟨[(3,.dat .str)],[]⟩ [] (.lp ⟨[(3,.dat .str),kdI 4],[]⟩ (.tw 8 (.pl (.sq [] ⟨[(3,.dat .str)],[]⟩ [] (.tw 12 .nil .nil) (.cl cx [] .nil))) .nil)) .nil
def CN:Spec:=⟨62,⟨[(0,.dat (.sl Yq2))],[]⟩,[⟨[(0,.dat .str)],[]⟩],fun x=>kO x⟩
def DF:OkSpec Tryz.prog:=⟨CN,ah func62 BG (by kernel_rfl) (by kernel_rfl),call62⟩

def dy (xa:(List Int)):Option Tq5 :=
 cond (decide ((xa.length:Int)=0)) (some (([45]:List UInt8))) ((kO xa).bind fun s12=>some (s12))
def DM:Hn Tryz.prog := .tw 5 .nil (.cl DF [] .nil)
def Er:Spec:=⟨45,⟨[(0,.dat (.sl Yq2))],[]⟩,[⟨[(0,.dat .str)],[]⟩],fun x=>dy x⟩
def ia:OkSpec Tryz.prog:=⟨Er,ah func45 DM (by kernel_rfl) (by kernel_rfl),call45⟩

def iX (xa:fU):Option Tq5 :=
 cond (decide (xa.1=1)) ((dy xa.2.2.2.1).bind fun s1=>(app ([103,111,116,111,32]:List UInt8) s1).bind fun z2=>some (z2)) (cond (decide (xa.1=2)) ((dy xa.2.2.2.1).bind fun s3=>(app ([115,119,105,116,99,104,32]:List UInt8) s3).bind fun z4=>(app z4 ([32]:List UInt8)).bind fun z5=>(dy xa.2.2.2.2.1).bind fun s6=>(app z5 s6).bind fun z7=>some (z7)) (cond (decide (xa.1=3)) (some (([114,101,116,117,114,110]:List UInt8))) (cond (decide (xa.1=4)) ((bL xa.2.1).bind fun s9=>(app ([99,97,108,108,32]:List UInt8) s9).bind fun z10=>(app z10 ([32]:List UInt8)).bind fun z11=>(bL xa.2.2.1).bind fun s12=>(app z11 s12).bind fun z13=>(app z13 ([32]:List UInt8)).bind fun z14=>(dy xa.2.2.2.1).bind fun s15=>(app z14 s15).bind fun z16=>(app z16 ([32]:List UInt8)).bind fun z17=>(dy xa.2.2.2.2.2).bind fun s18=>(app z17 s18).bind fun z19=>(app z19 ([32]:List UInt8)).bind fun z20=>(dy xa.2.2.2.2.1).bind fun s21=>(app z20 s21).bind fun z22=>some (z22)) (some (([63]:List UInt8))))))
def B9:Hn Tryz.prog := .tw 5 (.cl ia [] .nil) (.tw 11 (.mix [([0,1,5,6],2),([3,4],7)] [8,9] [] [] (.cl ia [] (.cl ia [] .nil))) (.tw 22 .nil (.tw 24 (.mix [([0,1,5,6,10,11,15,16,20,21],2),([3,4],7),([8,9],12),([13,14],17),([18,19],22)] [23,24] [] [] (.cl cx [] (.cl cx [] (.cl ia [] (.cl ia [] (.cl ia [] .nil)))))) .nil)))
def Dx:Spec:=⟨24,⟨[(0,.dat Yq4)],[]⟩,[⟨[(0,.dat .str)],[]⟩],fun x=>iX x⟩
def EC:OkSpec Tryz.prog:=⟨Dx,ah func24 B9 (by kernel_rfl) (by kernel_rfl),call24⟩
def nH (xa:Tq1):Tq9→Option (Tq9⊕List UInt8):=fun (s1,i2)=>cond (decide (i2 < (xa.2.2.2.1.length:Int))) ((app s1 ([108,111,99,97,108,32]:List UInt8)).bind fun z3=>(aa xa.2.2.2.1 i2).bind fun x4=>(eZ x4).bind fun s5=>(app z3 s5).bind fun z6=>(app z6 ([10]:List UInt8)).bind fun z7=>some (.inl ((z7,IntKind.wrap .i64 (i2 + 1))))) (some (.inr (s1)))
def kG (x1:Tq3):Tq9→Option (Tq9⊕List UInt8):=fun (s2,i3)=>cond (decide (i3 < (x1.2.2.1.length:Int))) ((app s2 ([97,114,103,32]:List UInt8)).bind fun z4=>(aa x1.2.2.1 i3).bind fun x5=>(eZ x5).bind fun s6=>(app z4 s6).bind fun z7=>(app z7 ([10]:List UInt8)).bind fun z9=>some (.inl ((z9,IntKind.wrap .i64 (i3 + 1))))) (some (.inr (s2)))
def nF (xa:Tq1):Tq9→Option (Tq9⊕List UInt8):=fun (s1,i2)=>cond (decide (i2 < (xa.2.2.2.2.2.1.length:Int))) ((aa xa.2.2.2.2.2.1 i2).bind fun x3=>(app s1 ([115,105,103,32]:List UInt8)).bind fun z4=>(bL x3.1).bind fun s5=>(app z4 s5).bind fun z6=>(app z6 ([32]:List UInt8)).bind fun z7=>(eZ x3.2.2.2).bind fun s9=>(app z7 s9).bind fun z10=>(app z10 ([10]:List UInt8)).bind fun z11=>(iG ([110,101,101,100,115]:List UInt8) x3.2.1).bind fun s12=>(app z11 s12).bind fun z13=>(app z13 ([10]:List UInt8)).bind fun z14=>(loop (kG x3) (z14,0)).bind fun s15=>some (.inl ((s15,IntKind.wrap .i64 (i2 + 1))))) (some (.inr (s1)))
def nE (xa:Tq1) (i1:Int):Tq9→Option (Tq9⊕List UInt8):=fun (s2,i3)=>(aa xa.2.2.2.2.2.2 i1).bind fun x4=>cond (decide (i3 < (x4.1.length:Int))) ((aa xa.2.2.2.2.2.2 i1).bind fun x5=>(aa x5.1 i3).bind fun x6=>(iS (x6.1,x6.2.1,x6.2.2.1,x6.2.2.2.1,x6.2.2.2.2)).bind fun s7=>(app s2 s7).bind fun z9=>(app z9 ([10]:List UInt8)).bind fun z10=>some (.inl ((z10,IntKind.wrap .i64 (i3 + 1))))) (some (.inr (s2)))
def nA (xa:Tq1):Tq9→Option (Tq9⊕List UInt8):=fun (s1,i2)=>cond (decide (i2 < (xa.2.2.2.2.2.2.length:Int))) ((app s1 ([98,108,111,99,107,10]:List UInt8)).bind fun z3=>(loop (nE xa i2) (z3,0)).bind fun s4=>(aa xa.2.2.2.2.2.2 i2).bind fun x5=>(iX (x5.2.1,x5.2.2.1,x5.2.2.2.1,x5.2.2.2.2.1,x5.2.2.2.2.2.1,x5.2.2.2.2.2.2)).bind fun s6=>(app s4 s6).bind fun z7=>(app z7 ([10]:List UInt8)).bind fun z9=>some (.inl ((z9,IntKind.wrap .i64 (i2 + 1))))) (some (.inr (s1)))
def iM (xa:Tq1):Option Tq5 :=
 (bL xa.1).bind fun s1=>(app ([114,101,103,105,111,110,115,32]:List UInt8) s1).bind fun z2=>(app z2 ([32]:List UInt8)).bind fun z3=>(bL xa.2.1).bind fun s4=>(app z3 s4).bind fun z5=>(app z5 ([10]:List UInt8)).bind fun z6=>(iG ([98,111,117,110,100,115]:List UInt8) xa.2.2.1).bind fun s7=>(app z6 s7).bind fun z9=>(app z9 ([10]:List UInt8)).bind fun z10=>(loop (nH xa) (z10,0)).bind fun s11=>(app s11 ([103,105,118,101,115,32]:List UInt8)).bind fun z12=>(eZ xa.2.2.2.2.1).bind fun s13=>(app z12 s13).bind fun z14=>(app z14 ([10]:List UInt8)).bind fun z15=>(loop (nF xa) (z15,0)).bind fun s16=>(loop (nA xa) (s16,0)).bind fun s17=>some (s17)
def Eg:Hn Tryz.prog := .mix [([0,1,5,6,10,11],2),([3,4],7),([8,9],12)] [13,14,15] [] [] (.cl cx [] (.cl cx [] (.cl vH [] (.jn [] ⟨[(3,.dat .str)],[]⟩ [] (.lp ⟨[(3,.dat .str),kdI 4],[]⟩ (.tw 29 (.cl mW [] .nil) .nil)) (.cl mW [] (.jn [] ⟨[(3,.dat .str)],[]⟩ [] (.lp ⟨[(3,.dat .str),kdI 5],[]⟩ (.tw 53 (.mix [([0,1,2,3,7,8,12,13],4),([5,6],9),([10,11],14)] [15,16,17] [] [] (.cl cx [] (.cl mW [] (.cl vH [] (.jn [] ⟨[(3,.dat .str)],[]⟩ [] (.lp ⟨[(3,.dat .str),kdI 7],[]⟩ (.tw 82 (.cl mW [] .nil) .nil)) .nil))))) .nil)) (.jn [] ⟨[(3,.dat .str)],[]⟩ [] (.lp ⟨[(3,.dat .str),kdI 8],[]⟩ (.tw 99 (.pl (.pl (.jn [] ⟨[(3,.dat .str)],[]⟩ [] (.lp ⟨[(3,.dat .str),kdI 9],[]⟩ (.tw 112 (.cl C1 [] .nil) .nil)) (.cl EC [] .nil)))) .nil)) .nil)))))))
def Bz:Spec:=⟨7,⟨[(0,.dat Yq1)],[]⟩,[⟨[(0,.dat .str)],[]⟩],fun x=>iM x⟩
def C0:OkSpec Tryz.prog:=⟨Bz,ah func7 Eg (by kernel_rfl) (by kernel_rfl),call7⟩
def kI (xa:Tq1):Int→Option (Int⊕(Unit⊕dn)):=fun i1=>cond (decide (i1 < (xa.2.2.1.length:Int))) ((aa xa.2.2.1 i1).bind fun x2=>cond ((((decide (x2.1 < 0))||(decide (xa.1≤x2.1)))||(decide (x2.2 < 0)))||(decide (xa.1≤x2.2))) (some (.inr ((.inr ((7,1,i1,0)))))) (some (.inl (IntKind.wrap .i64 (i1 + 1))))) (some (.inr ((.inl ()))))
def iV (xa:Tq1):Option dn :=
 cond ((decide (xa.1 < 1))||(decide (xa.2.1 < xa.1))) (some ((7,0,0,0))) (cond (decide (65536 < xa.2.1)) (some ((6,0,0,0))) (cond (decide (65536 < (xa.2.2.1.length:Int))) (some ((6,1,0,0))) ((loop (kI xa) 0).bind fun o=>match o with | .inr r=>some r | .inl ()=>some ((0,0,0,0)))))
def BB:Hn Tryz.prog := .gp 5 (.tw 14 .nil (.tw 18 .nil (.tw 23 .nil (.jx [] ⟨[],[bkC 2 61 [.lit (.int .i64 0),.lit (.int .i64 0),.lit (.int .i64 0),.lit (.int .i64 0)]]⟩ [2] (.lp ⟨[kdI 3],[bkC 2 61 [.lit (.int .i64 0),.lit (.int .i64 0),.lit (.int .i64 0),.lit (.int .i64 0)]]⟩ (.tw 29 (.gp 5 (.wt 47 (.gp 3 (.wt 52 (.gp 5 (.tw 58 .nil .nil)))))) .nil)) .nil))))
def Cp:Spec:=⟨46,⟨[(0,.dat Yq1)],[]⟩,[⟨[(0,.agg [.dat Yq2,.dat Yq2,.dat Yq2,.dat Yq2])],[]⟩],fun x=>iV x⟩
def C8:OkSpec Tryz.prog:=⟨Cp,ah func46 BB (by kernel_rfl) (by kernel_rfl),call46⟩
def kF (xa:Tq4) (xb:Int):Int→Option (Int⊕(Unit⊕Int)):=fun i1=>cond (decide (i1 < (xa.length:Int))) ((aa xa i1).bind fun x2=>(cond (decide (x2.1 < 0)) (some (true)) ((aa xa i1).bind fun x3=>some (decide (xb≤x3.1)))).bind fun t4=>cond (t4) (some (.inr ((.inr (7))))) (some (.inl (IntKind.wrap .i64 (i1 + 1))))) (some (.inr ((.inl ()))))
def eW (xa:Tq4) (xb:Int):Option Int :=
 cond (decide (16 < (xa.length:Int))) (some (6)) ((loop (kF xa xb) 0).bind fun o=>match o with | .inr r=>some r | .inl ()=>some (0))
def ED:Hn Tryz.prog := .tw 9 .nil (.jx [] ⟨[],[]⟩ [] (.lp ⟨[kdI 5],[]⟩ (.tw 14 (.gj 8 ⟨[kdB 33],[]⟩ [] (.two 24 .nil .nil) (.tw 33 .nil .nil)) .nil)) .nil)
def CB:Spec:=⟨63,⟨[(0,.dat Yq6),kdI 1],[]⟩,[⟨[kdI 0],[]⟩],fun x=>eW x.1 x.2⟩
def mZ:OkSpec Tryz.prog:=⟨CB,ah func63 ED (by kernel_rfl) (by kernel_rfl),call63⟩
def nD (xa:Tq4) (xb:Tq4):Int→Option (Int⊕(Unit⊕Bool)):=fun i1=>cond (decide (i1 < (xa.length:Int))) ((aa xa i1).bind fun x2=>(aa xb i1).bind fun x3=>cond (!(x2.2 == x3.2)) (some (.inr ((.inr (false))))) (some (.inl (IntKind.wrap .i64 (i1 + 1))))) (some (.inr ((.inl ()))))
def dZ (xa:Tq4) (xb:Tq4):Option Bool :=
 cond (!decide ((xa.length:Int)=(xb.length:Int))) (some (false)) ((loop (nD xa xb) 0).bind fun o=>match o with | .inr r=>some r | .inl ()=>some (true))
def EK:Hn Tryz.prog := .tw 12 .nil (.jx [] ⟨[],[]⟩ [] (.lp ⟨[kdI 5],[]⟩ (.tw 17 (.mix [] [0,1,2,3,4,5,6,7,8,9,10,11,12] [] [] (.tw 32 .nil .nil)) .nil)) .nil)
def B2:Spec:=⟨57,⟨[(0,.dat Yq6),(1,.dat Yq6)],[]⟩,[⟨[kdB 0],[]⟩],fun x=>dZ x.1 x.2⟩
def kh:OkSpec Tryz.prog:=⟨B2,ah func57 EK (by kernel_rfl) (by kernel_rfl),call57⟩
def kD (xa:Tq3):Int→Option (Int⊕(Unit⊕Int)):=fun i1=>cond (decide (i1 < (xa.2.1.length:Int))) ((aa xa.2.1 i1).bind fun x2=>cond ((((decide (x2.1 < 0))||(decide (xa.1≤x2.1)))||(decide (x2.2 < 0)))||(decide (xa.1≤x2.2))) (some (.inr ((.inr (7))))) (some (.inl (IntKind.wrap .i64 (i1 + 1))))) (some (.inr ((.inl ()))))
def kC (xa:Tq3):Int→Option (Int⊕(Unit⊕Int)):=fun i1=>cond (decide (i1 < (xa.2.2.1.length:Int))) ((aa xa.2.2.1 i1).bind fun x2=>(eW x2 xa.1).bind fun i3=>cond (!decide (i3=0)) (some (.inr ((.inr (i3))))) (some (.inl (IntKind.wrap .i64 (i1 + 1))))) (some (.inr ((.inl ()))))
def eT (xa:Tq3):Option Int :=
 cond (decide (xa.1 < 0)) (some (7)) (cond (((decide (16 < xa.1))||(decide (16 < (xa.2.1.length:Int))))||(decide (16 < (xa.2.2.1.length:Int)))) (some (6)) ((loop (kD xa) 0).bind fun o=>match o with | .inr r=>some r | .inl ()=>(loop (kC xa) 0).bind fun o=>match o with | .inr r=>some r | .inl ()=>(eW xa.2.2.2 xa.1).bind fun i1=>some (i1)))
def D2:Hn Tryz.prog := .tw 9 .nil (.gp 4 (.wt 19 (.gp 4 (.tw 24 .nil (.jx [] ⟨[],[]⟩ [] (.lp ⟨[kdI 3],[]⟩ (.tw 29 (.gp 5 (.wt 47 (.gp 3 (.wt 52 (.gp 5 (.tw 58 .nil .nil)))))) .nil)) (.jx [] ⟨[],[]⟩ [] (.lp ⟨[kdI 5],[]⟩ (.tw 63 (.mix [] [0,1,2,3,4,5,6] [7,8] [] (.cl mZ [] (.tw 75 .nil .nil))) .nil)) (.cl mZ [] .nil)))))))
def Da:Spec:=⟨64,⟨[(0,.dat Yq8)],[]⟩,[⟨[kdI 0],[]⟩],fun x=>eT x⟩
def vC:OkSpec Tryz.prog:=⟨Da,ah func64 D2 (by kernel_rfl) (by kernel_rfl),call64⟩
def kA (xa:Tq1):Int→Option (Int⊕(Unit⊕dn)):=fun i1=>cond (decide (i1 < (xa.2.2.2.1.length:Int))) ((aa xa.2.2.2.1 i1).bind fun x2=>(eW x2 xa.2.1).bind fun i3=>cond (!decide (i3=0)) (some (.inr ((.inr ((i3,2,i1,0)))))) (some (.inl (IntKind.wrap .i64 (i1 + 1))))) (some (.inr ((.inl ()))))
def kE (xa:Tq1):Int→Option (Int⊕(Unit⊕dn)):=fun i1=>cond (decide (i1 < (xa.2.2.2.2.2.1.length:Int))) ((aa xa.2.2.2.2.2.1 i1).bind fun x2=>(eT (x2.1,x2.2.1,x2.2.2.1,x2.2.2.2)).bind fun i3=>cond (!decide (i3=0)) (some (.inr ((.inr ((i3,4,i1,0)))))) (some (.inl (IntKind.wrap .i64 (i1 + 1))))) (some (.inr ((.inl ()))))
def iO (xa:Tq1):Option dn :=
 cond (decide ((xa.2.2.2.1.length:Int)=0)) (some ((14,2,0,0))) (cond (decide (65536 < (xa.2.2.2.1.length:Int))) (some ((6,2,0,0))) ((loop (kA xa) 0).bind fun o=>match o with | .inr r=>some r | .inl ()=>(eW xa.2.2.2.2.1 xa.1).bind fun i1=>cond (!decide (i1=0)) (some ((i1,3,0,0))) ((aa xa.2.2.2.1 0).bind fun x2=>(dZ x2 xa.2.2.2.2.1).bind fun t3=>cond (!t3) (some ((8,3,0,0))) (cond (decide (65536 < (xa.2.2.2.2.2.1.length:Int))) (some ((6,4,0,0))) ((loop (kE xa) 0).bind fun o=>match o with | .inr r=>some r | .inl ()=>some ((0,0,0,0)))))))
def DI:Hn Tryz.prog := .tw 11 .nil (.tw 16 .nil (.jx [] ⟨[],[bkC 2 61 [.lit (.int .i64 0),.lit (.int .i64 0),.lit (.int .i64 0),.lit (.int .i64 0)]]⟩ [2] (.lp ⟨[kdI 3],[bkC 2 61 [.lit (.int .i64 0),.lit (.int .i64 0),.lit (.int .i64 0),.lit (.int .i64 0)]]⟩ (.tw 22 (.mix [] [0,1,2,3,4,5,6] [7,8] [] (.cl mZ [] (.tw 34 .nil .nil))) .nil)) (.cl mZ [] (.tw 44 .nil (.mix [] [0,1,2,3,4,5] [6,7] [] (.cl kh [] (.tw 54 .nil (.tw 59 .nil (.jx [] ⟨[],[bkC 2 61 [.lit (.int .i64 0),.lit (.int .i64 0),.lit (.int .i64 0),.lit (.int .i64 0)]]⟩ [2] (.lp ⟨[kdI 6],[bkC 2 61 [.lit (.int .i64 0),.lit (.int .i64 0),.lit (.int .i64 0),.lit (.int .i64 0)]]⟩ (.tw 65 (.cl vC [] (.tw 75 .nil .nil)) .nil)) .nil)))))))))
def DD:Spec:=⟨47,⟨[(0,.dat Yq1)],[]⟩,[⟨[(0,.agg [.dat Yq2,.dat Yq2,.dat Yq2,.dat Yq2])],[]⟩],fun x=>iO x⟩
def Ej:OkSpec Tryz.prog:=⟨DD,ah func47 DI (by kernel_rfl) (by kernel_rfl),call47⟩

def jc (xa:Int):Option Bool :=
 some ((((decide (xa=1))||(decide (xa=2)))||(decide (xa=3)))||(decide (xa=5)))
def DO:Hn Tryz.prog := .gp 2 (.wt 9 (.gp 2 (.wt 13 (.gp 2 .nil))))
def Ea:Spec:=⟨82,⟨[kdI 0],[]⟩,[⟨[kdB 0],[]⟩],fun x=>jc x⟩
def vy:OkSpec Tryz.prog:=⟨Ea,ah func82 DO (by kernel_rfl) (by kernel_rfl),call82⟩

def jb (xa:Int):Option Bool :=
 some ((decide (1≤xa))&&(decide (xa≤4)))
def Dy:Hn Tryz.prog := .gp 2 .nil
def By:Spec:=⟨83,⟨[kdI 0],[]⟩,[⟨[kdB 0],[]⟩],fun x=>jb x⟩
def vE:OkSpec Tryz.prog:=⟨By,ah func83 Dy (by kernel_rfl) (by kernel_rfl),call83⟩

def iI (xa:Int):Option Bool :=
 some ((decide (xa=2))||(decide (xa=3)))
def BW:Hn Tryz.prog := .gp 2 .nil
def Cn:Spec:=⟨84,⟨[kdI 0],[]⟩,[⟨[kdB 0],[]⟩],fun x=>iI x⟩
def vj:OkSpec Tryz.prog:=⟨Cn,ah func84 BW (by kernel_rfl) (by kernel_rfl),call84⟩

def kN (xa:Tq6):Option Bool :=
 (cond ((decide (0≤xa.1))&&(decide (xa.1≤5))) ((jc xa.1).bind fun t97=>some (t97||(decide (xa.2.1=0)))) (some (false))).bind fun t93=>(cond (t93) ((jb xa.1).bind fun t1=>some (t1||(decide (xa.2.2.1=0)))) (some (false))).bind fun t2=>(cond (t2) ((iI xa.1).bind fun t3=>some (t3||((decide (xa.2.2.2.1=0))&&(!xa.2.2.2.2)))) (some (false))).bind fun t4=>some (t4)
def DZ:Hn Tryz.prog := .gp 3 (.wt 11 (.gj 8 ⟨[kdB 20],[]⟩ [] (.two 11 (.cl vy [] (.wt 15 (.gp 3 .nil))) .nil) (.wt 21 (.gj 8 ⟨[kdB 30],[]⟩ [] (.two 21 (.cl vE [] (.wt 25 (.gp 3 .nil))) .nil) (.wt 31 (.gj 13 ⟨[kdB 45],[]⟩ [] (.two 31 (.cl vj [] (.wt 35 (.gp 8 .nil))) .nil) .nil))))))
def D7:Spec:=⟨81,⟨[(0,.dat Yq5)],[]⟩,[⟨[kdB 0],[]⟩],fun x=>kN x⟩
def C7:OkSpec Tryz.prog:=⟨D7,ah func81 DZ (by kernel_rfl) (by kernel_rfl),call81⟩
def kr (xb:Tq4) (xc:Tq4) (xd:Int) (xe:Int):ce→Option (ce⊕(List Tq6)):=fun (l1,i2)=>cond (decide (i2 < (xb.length:Int))) ((aa xb i2).bind fun x3=>(aa xc i2).bind fun x4=>(app l1 (([(x3.1,x4.1,xd,IntKind.wrap .i64 (xe + i2),false)]:List Tq6))).bind fun z5=>(aa xc i2).bind fun x6=>cond (x6.2) ((aa xc i2).bind fun x7=>(aa xb i2).bind fun x8=>(app z5 (([(x7.1,x8.1,xd,IntKind.wrap .i64 (xe + i2),true)]:List Tq6))).bind fun z9=>some (.inl ((z9,IntKind.wrap .i64 (i2 + 1))))) (some (.inl ((z5,IntKind.wrap .i64 (i2 + 1)))))) (some (.inr (l1)))
def f8 (xb:Tq4) (xc:Tq4) (xd:Int) (xe:Int) (qxa:(List Tq6)):Option ((List Tq6)) :=
 (loop (kr xb xc xd xe) (qxa,0)).bind fun l1=>some (l1)
def EU:Hn Tryz.prog := .jn [] ⟨[(0,.own 157 Yq5)],[]⟩ [0] (.lp ⟨[(0,.own 157 Yq5),kdI 11],[]⟩ (.tw 15 (.mix [([0,1,2,3,4,5,6,7,8,9,10,11,12,13,14,15],16)] [] [17,18] [] (.tw 40 (.mix [([0,1,2,3,4,5,6,7,8,9,10,11,12,13,14,15],16)] [] [17,18] [] .nil) .nil)) .nil)) .nil
def BS:Spec:=⟨105,⟨[(0,.own 157 Yq5),(1,.dat (.sl Yq3)),(2,.dat (.sl Yq3)),kdI 3,kdI 4],[]⟩,[⟨[(0,.own 157 Yq5)],[]⟩],fun x=>f8 x.2.1 x.2.2.1 x.2.2.2.1 x.2.2.2.2 x.1⟩
def p6:OkSpec Tryz.prog:=⟨BS,ah func105 EU (by kernel_rfl) (by kernel_rfl),call105⟩

def eX (xa:Tq4) (xb:Tq4) (xc:Int) (xd:Int):Option (ce) :=
 (dZ xa xb).bind fun t34=>cond (!t34) (some (([],8))) ((f8 xa xb xc xd (([]:List Tq6))).bind fun l45=>some ((l45,0)))
def Dg:Hn Tryz.prog := .cl kh [] (.tw 13 .nil (.cl p6 [] .nil))
def Co:Spec:=⟨85,⟨[(0,.dat Yq6),(1,.dat Yq6),kdI 2,kdI 3],[]⟩,[⟨[(0,.tup [.own 157 Yq5,.dat Yq2])],[]⟩],fun x=>eX x.1 x.2.1 x.2.2.1 x.2.2.2⟩
def mT:OkSpec Tryz.prog:=⟨Co,ah func85 Dg (by kernel_rfl) (by kernel_rfl),call85⟩
def nP (xa:Tq4) (xc:Bool):(Tq4×Int)→Option ((Tq4×Int)⊕Tq4):=fun (l1,i2)=>cond (decide (i2 < (xa.length:Int))) ((aa xa i2).bind fun x3=>(aa xa i2).bind fun x4=>cond (x4.2) ((app l1 (([(x3.1,true)]:List (Int×Bool)))).bind fun z5=>some (.inl ((z5,IntKind.wrap .i64 (i2 + 1))))) ((app l1 (([(x3.1,xc)]:List (Int×Bool)))).bind fun z6=>some (.inl ((z6,IntKind.wrap .i64 (i2 + 1)))))) (some (.inr (l1)))
def kR (xa:Tq4) (xb:Int) (xc:Bool):Option (Tq4) :=
 (loop (nP xa xc) ((([(xb,false)]:List (Int×Bool)),0))).bind fun l1=>some (l1)
def DC:Hn Tryz.prog := .jn [] ⟨[(7,.own 49 Yq3),(11,.any)],[]⟩ [4] (.lp ⟨[(7,.own 49 Yq3),kdI 8],[]⟩ (.tw 16 (.mix [([0,1,2,3,4,5,6,7,8,9,10,11,12,13,14,15,16],17)] [] [18,19] [] (.two 32 .nil .nil)) .nil)) .nil
def Ei:Spec:=⟨106,⟨[(0,.dat Yq6),kdI 1,kdB 2],[]⟩,[⟨[(0,.agg [.own 49 Yq3])],[]⟩],fun x=>kR x.1 x.2.1 x.2.2⟩
def EP:OkSpec Tryz.prog:=⟨Ei,ah func106 DC (by kernel_rfl) (by kernel_rfl),call106⟩

def kP (xa:Tq4) (xb:Tq4) (xc:Int) (xd:Bool):Option (ce) :=
 (kR xa xc xd).bind fun l1=>(dZ l1 xb).bind fun t2=>cond (!t2) (some (([],8))) ((aa xb 0).bind fun x3=>(subL xb 1 (xb.length:Int)).bind fun y4=>(f8 xa y4 1 1 (([(xc,x3.1,2,0,false)]:List Tq6))).bind fun l5=>some ((l5,0)))
def DU:Hn Tryz.prog := .mix [([0,1,2,4],3)] [] [5,6] [] (.cl EP [] (.cl kh [4] (.tw 17 .nil (.mix [] [0,1,2,3,4,5] [6,7,8] [] (.cl p6 [] .nil)))))
def CC:Spec:=⟨86,⟨[(0,.dat Yq6),(1,.dat Yq6),kdI 2,kdB 3],[]⟩,[⟨[(0,.tup [.own 157 Yq5,.dat Yq2])],[]⟩],fun x=>kP x.1 x.2.1 x.2.2.1 x.2.2.2⟩
def Cb:OkSpec Tryz.prog:=⟨CC,ah func86 DU (by kernel_rfl) (by kernel_rfl),call86⟩
def ga (xa:Tq4) (xd:Bool):Int→Option (Int⊕(Unit⊕ce)):=fun i1=>cond (decide (i1 < (xa.length:Int))) ((cond (xd) ((aa xa i1).bind fun x2=>some (!x2.2)) (some (false))).bind fun t3=>cond (t3) (some (.inr ((.inr (([],8)))))) (some (.inl (IntKind.wrap .i64 (i1 + 1))))) (some (.inr ((.inl ()))))
def kM (xa:Tq4) (xb:Tq4) (xc:Int) (xd:Bool):Option (ce) :=
 (cond (decide ((xa.length:Int)=0)) (some (true)) ((dZ xa xb).bind fun t1=>some (!t1))).bind fun t2=>(cond (t2) (some (true)) ((aa xa 0).bind fun x3=>some (x3.2))).bind fun t4=>cond (t4) (some (([],8))) ((loop (ga xa xd) 1).bind fun o=>match o with | .inr r=>some r | .inl ()=>(aa xa 0).bind fun x5=>(aa xb 0).bind fun x6=>(subL xa 1 (xa.length:Int)).bind fun y7=>(subL xb 1 (xb.length:Int)).bind fun y8=>(f8 y7 y8 1 1 (([(x5.1,xc,3,0,false),(xc,x6.1,2,0,false)]:List Tq6))).bind fun l9=>some ((l9,0)))
def Cx:Hn Tryz.prog := .gj 4 ⟨[kdB 21],[]⟩ [] (.two 16 .nil (.cl kh [] .nil)) (.wt 22 (.gj 5 ⟨[kdB 28],[]⟩ [] (.two 22 .nil .nil) (.tw 28 .nil (.jx [] ⟨[],[]⟩ [] (.lp ⟨[kdI 10],[]⟩ (.tw 33 (.gj 7 ⟨[kdB 45],[]⟩ [] (.two 37 .nil .nil) (.tw 45 .nil .nil)) .nil)) (.mix [([0,1,2,3,4,5,6,7,8,9,10,11,12,13],14)] [15] [] [] (.mix [] [0,1,2,3,4,5,6] [7,8,9] [] (.cl p6 [] .nil)))))))
def Ef:Spec:=⟨87,⟨[(0,.dat Yq6),(1,.dat Yq6),kdI 2,kdB 3],[]⟩,[⟨[(0,.tup [.own 157 Yq5,.dat Yq2])],[]⟩],fun x=>kM x.1 x.2.1 x.2.2.1 x.2.2.2⟩
def BE:OkSpec Tryz.prog:=⟨Ef,ah func87 Cx (by kernel_rfl) (by kernel_rfl),call87⟩

def eS (xa:Tq6) (xb:(List Tq4)) (xc:Int):Option (ce) :=
 (kN (xa.1,xa.2.1,xa.2.2.1,xa.2.2.2.1,xa.2.2.2.2)).bind fun t1=>cond (!t1) (some (([],3))) ((jc xa.1).bind fun t2=>(cond (t2&&((decide (xa.2.1 < 0))||(decide ((xb.length:Int)≤xa.2.1)))) (some (true)) ((jb xa.1).bind fun t3=>some (t3&&((decide (xa.2.2.1 < 0))||(decide ((xb.length:Int)≤xa.2.2.1)))))).bind fun t4=>(cond (t4) (some (true)) ((iI xa.1).bind fun t5=>some (t5&&((decide (xa.2.2.2.1 < 0))||(decide (xc≤xa.2.2.2.1)))))).bind fun t6=>cond (t6) (some (([],7))) (cond (decide (xa.1=1)) ((aa xb xa.2.2.1).bind fun x7=>(aa xb xa.2.1).bind fun x8=>(eX x7 x8 1 0).bind fun (l9,i10)=>some ((l9,i10))) (cond (decide (xa.1=2)) ((aa xb xa.2.2.1).bind fun x11=>(aa xb xa.2.1).bind fun x12=>(kP x11 x12 xa.2.2.2.1 xa.2.2.2.2).bind fun (l13,i14)=>some ((l13,i14))) (cond (decide (xa.1=3)) ((aa xb xa.2.2.1).bind fun x15=>(aa xb xa.2.1).bind fun x16=>(kM x15 x16 xa.2.2.2.1 xa.2.2.2.2).bind fun (l17,i18)=>some ((l17,i18))) (some (([],0)))))))
def EJ:Hn Tryz.prog := .cl C7 [] (.tw 10 .nil (.cl vy [] (.gp 10 (.wt 26 (.gj 15 ⟨[kdB 42],[]⟩ [] (.two 26 .nil (.cl vE [] (.wt 30 (.gp 10 .nil)))) (.wt 43 (.gj 14 ⟨[kdB 58],[]⟩ [] (.two 43 .nil (.cl vj [] (.wt 47 (.gp 9 .nil)))) (.tw 58 .nil (.tw 61 (.mix [([0,1,2,3,4,5,6,7,8,9],10)] [11,12,13,14] [] [] (.cl mT [] .nil)) (.tw 77 (.mix [([0,1,2,3,4,5,6,7,8,9,10,11,12,13],14)] [15,16,17,18] [] [] (.cl Cb [] .nil)) (.tw 97 (.mix [([0,1,2,3,4,5,6,7,8,9,10,11,12,13],14)] [15,16,17,18] [] [] (.cl BE [] .nil)) .nil)))))))))))
def Dr:Spec:=⟨65,⟨[(0,.dat Yq5),(1,.dat (.sl Yq6)),kdI 2],[]⟩,[⟨[(0,.tup [.own 157 Yq5,.dat Yq2])],[]⟩],fun x=>eS x.1 x.2.1 x.2.2⟩
def Cf:OkSpec Tryz.prog:=⟨Dr,ah func65 EJ (by kernel_rfl) (by kernel_rfl),call65⟩

def iT (xa:fU):Option Int :=
 cond ((decide (xa.1 < 1))||(decide (4 < xa.1))) (some (3)) (cond (((((decide (xa.1=1))||(decide (xa.1=4)))&&(!decide ((xa.2.2.2.1.length:Int)=1)))||((decide (xa.1=2))&&(decide ((xa.2.2.2.1.length:Int)=0))))||((decide (xa.1=3))&&(!decide ((xa.2.2.2.1.length:Int)=0)))) (some (3)) (cond ((!decide (xa.1=4))&&(((!decide (xa.2.1=0))||(!decide (xa.2.2.1=0)))||(!decide ((xa.2.2.2.2.2.length:Int)=0)))) (some (3)) (cond (((decide (xa.1=1))||(decide (xa.1=3)))&&(!decide ((xa.2.2.2.2.1.length:Int)=0))) (some (3)) (cond (((decide (16 < (xa.2.2.2.1.length:Int)))||(decide (16 < (xa.2.2.2.2.1.length:Int))))||(decide (16 < (xa.2.2.2.2.2.length:Int)))) (some (6)) (some (0))))))
def EL:Hn Tryz.prog := .gp 3 (.tw 10 .nil (.gp 3 (.wt 19 (.gp 4 (.wt 25 (.gp 9 (.wt 36 (.gp 9 (.tw 46 .nil (.gp 14 (.tw 65 .nil (.gp 3 (.wt 74 (.gp 4 (.tw 79 .nil (.gp 4 (.wt 90 (.gp 4 (.tw 95 .nil .nil)))))))))))))))))))
def Cg:Spec:=⟨88,⟨[(0,.dat Yq4)],[]⟩,[⟨[kdI 0],[]⟩],fun x=>iT x⟩
def Ep:OkSpec Tryz.prog:=⟨Cg,ah func88 EL (by kernel_rfl) (by kernel_rfl),call88⟩
def kz (xa:(List Int)) (xb:Int):Int→Option (Int⊕(Unit⊕Bool)):=fun i1=>cond (decide (i1 < (xa.length:Int))) ((aa xa i1).bind fun x2=>(cond (decide (x2 < 0)) (some (true)) ((aa xa i1).bind fun x3=>some (decide (xb≤x3)))).bind fun t4=>cond (t4) (some (.inr ((.inr (false))))) (some (.inl (IntKind.wrap .i64 (i1 + 1))))) (some (.inr ((.inl ()))))
def cU (xa:(List Int)) (xb:Int):Option Bool :=
 (loop (kz xa xb) 0).bind fun o=>match o with | .inr r=>some r | .inl ()=>some (true)
def Ce:Hn Tryz.prog := .jx [] ⟨[],[]⟩ [] (.lp ⟨[kdI 5],[]⟩ (.tw 9 (.gj 6 ⟨[kdB 24],[]⟩ [] (.two 17 .nil .nil) (.tw 24 .nil .nil)) .nil)) .nil
def ER:Spec:=⟨89,⟨[(0,.dat (.sl Yq2)),kdI 1],[]⟩,[⟨[kdB 0],[]⟩],fun x=>cU x.1 x.2⟩
def ke:OkSpec Tryz.prog:=⟨ER,ah func89 Ce (by kernel_rfl) (by kernel_rfl),call89⟩
def iz (xa:Tq4) (xb:(List Int)):(Tq4×Int)→Option ((Tq4×Int)⊕(Tq4⊕(Tq4×Int))):=fun (l1,i2)=>cond (decide (i2 < (xa.length:Int))) ((aa xa i2).bind fun x3=>cond ((decide (x3.1 < 0))||(decide ((xb.length:Int)≤x3.1))) (some (.inr ((.inr (([],7)))))) ((aa xb x3.1).bind fun x4=>(aa xa i2).bind fun x5=>(app l1 (([(x4,x5.2)]:List (Int×Bool)))).bind fun z6=>some (.inl ((z6,IntKind.wrap .i64 (i2 + 1)))))) (some (.inr (.inl l1)))
def iN (xa:Tq4) (xb:(List Int)):Option ((Tq4×Int)) :=
 (loop (iz xa xb) ((([]:List (Int×Bool)),0))).bind fun o=>match o with | .inr r=>some r | .inl l1=>some ((l1,0))
def BR:Hn Tryz.prog := .jx [] ⟨[(6,.own 49 Yq3),(9,.any)],[bkC 2 26 [.nils]]⟩ [4,2] (.lp ⟨[(6,.own 49 Yq3),kdI 7],[bkC 2 26 [.nils]]⟩ (.tw 14 (.gp 4 (.tw 30 .nil (.mix [([0,1,2,3,4,5,6,7,8,9,10,11],12)] [] [13,14] [] .nil))) .nil)) .nil
def DR:Spec:=⟨107,⟨[(0,.dat Yq6),(1,.dat (.sl Yq2))],[]⟩,[⟨[(0,.tup [.agg [.own 49 Yq3],.dat Yq2])],[]⟩],fun x=>iN x.1 x.2⟩
def vp:OkSpec Tryz.prog:=⟨DR,ah func107 BR (by kernel_rfl) (by kernel_rfl),call107⟩
def kL (xa:Tq3) (xb:(List Int)):ce→Option (ce⊕(List Tq6)):=fun (l1,i2)=>cond (decide (i2 < (xa.2.1.length:Int))) ((aa xa.2.1 i2).bind fun x3=>(aa xb x3.1).bind fun x4=>(aa xa.2.1 i2).bind fun x5=>(aa xb x5.2).bind fun x6=>(app l1 (([(x4,x6,4,i2,false)]:List Tq6))).bind fun z7=>some (.inl ((z7,IntKind.wrap .i64 (i2 + 1))))) (some (.inr (l1)))
def iD (xa:Tq3) (xb:(List Int)) (xc:(List Tq4)):ce→Option (ce⊕((List Tq6)⊕ce)):=fun (l1,i2)=>cond (decide (i2 < (xa.2.2.1.length:Int))) ((aa xa.2.2.1 i2).bind fun x3=>(iN x3 xb).bind fun (l4,i5)=>(aa xc i2).bind fun x6=>(eX x6 l4 5 (IntKind.wrap .i64 (16 * i2))).bind fun (l7,i8)=>cond (!decide (i8=0)) (some (.inr ((.inr (([],i8)))))) ((app l1 l7).bind fun z9=>some (.inl ((z9,IntKind.wrap .i64 (i2 + 1)))))) (some (.inr (.inl l1)))
def iW (xa:Tq3) (xb:(List Int)) (xc:(List Tq4)) (xd:Tq4):Option (ce) :=
 (eT (xa.1,xa.2.1,xa.2.2.1,xa.2.2.2)).bind fun i1=>cond (!decide (i1=0)) (some (([],i1))) (cond ((!decide ((xb.length:Int)=xa.1))||(!decide ((xc.length:Int)=(xa.2.2.1.length:Int)))) (some (([],2))) ((loop (kL xa xb) ((([]:List Tq6),0))).bind fun l2=>(loop (iD xa xb xc) (l2,0)).bind fun o=>match o with | .inr r=>some r | .inl l3=>(iN xa.2.2.2 xb).bind fun (l4,i5)=>(eX l4 xd 6 0).bind fun (l6,i7)=>cond (!decide (i7=0)) (some (([],i7))) ((app l3 l6).bind fun z8=>some ((z8,0)))))
def BT:Hn Tryz.prog := .cl vC [] (.tw 25 .nil (.gp 6 (.tw 39 .nil (.jn [] ⟨[(11,.own 157 Yq5),(40,.any)],[]⟩ [4] (.lp ⟨[(11,.own 157 Yq5),kdI 12],[]⟩ (.tw 45 (.mix [([0,1,2,3,4,5,6,7,8,9,10,11,12,13,14,15,16,17,18,19,20],21)] [] [22,23] [] .nil) .nil)) (.jx [] ⟨[(11,.own 157 Yq5)],[]⟩ [6] (.lp ⟨[(11,.own 157 Yq5),kdI 13],[]⟩ (.tw 75 (.cl vp [] (.per 10 11 (.mix [([0,1,2,3,4,5,6],7)] [8,9,10,11,12] [] [] (.cl mT [] (.tw 100 .nil .nil))))) .nil)) (.cl vp [] (.per 10 11 (.cl mT [] (.tw 119 .nil .nil)))))))))
def Ck:Spec:=⟨90,⟨[(0,.dat Yq8),(1,.dat (.sl Yq2)),(2,.dat (.sl Yq6)),(3,.dat Yq6)],[]⟩,[⟨[(0,.tup [.own 157 Yq5,.dat Yq2])],[]⟩],fun x=>iW x.1 x.2.1 x.2.2.1 x.2.2.2⟩
def BO:OkSpec Tryz.prog:=⟨Ck,ah func90 BT (by kernel_rfl) (by kernel_rfl),call90⟩
def iA (xa:fU) (xb:(Int×Int×(List Tq4)×Tq4×(List Tq3))):((List Tq4)×Int)→Option (((List Tq4)×Int)⊕(List Tq4)):=fun (l1,i2)=>cond (decide (i2 < (xa.2.2.2.2.1.length:Int))) ((aa xa.2.2.2.2.1 i2).bind fun x3=>(aa xb.2.2.1 x3).bind fun x4=>(app l1 (([x4]:List Tq4))).bind fun z5=>some (.inl ((z5,IntKind.wrap .i64 (i2 + 1))))) (some (.inr (l1)))
def eR (xa:fU) (xb:(Int×Int×(List Tq4)×Tq4×(List Tq3))):Option (ce) :=
 (iT (xa.1,xa.2.1,xa.2.2.1,xa.2.2.2.1,xa.2.2.2.2.1,xa.2.2.2.2.2)).bind fun i1=>cond (!decide (i1=0)) (some (([],i1))) ((cU xa.2.2.2.1 xb.1).bind fun t2=>(cond (!t2) (some (true)) ((cU xa.2.2.2.2.1 (xb.2.2.1.length:Int)).bind fun t3=>some (!t3))).bind fun t4=>(cond (t4) (some (true)) ((cU xa.2.2.2.2.2 xb.2.1).bind fun t5=>some (!t5))).bind fun t6=>cond (t6) (some (([],7))) ((cond (decide (xa.1=4)) ((cU ([xa.2.2.1]:List Int) (xb.2.2.1.length:Int)).bind fun t7=>(cond (!t7) (some (true)) ((cU ([xa.2.1]:List Int) (xb.2.2.2.2.length:Int)).bind fun t8=>some (!t8))).bind fun t9=>some (t9)) (some (false))).bind fun t10=>cond (t10) (some (([],7))) (cond ((decide (xa.1=3))&&(decide ((xb.2.2.1.length:Int)=0))) (some (([],14))) (cond (decide (xa.1=3)) ((aa xb.2.2.1 0).bind fun x11=>(eX x11 xb.2.2.2.1 7 0).bind fun (l12,i13)=>some ((l12,i13))) (cond (decide (xa.1=4)) ((loop (iA xa xb) ((([]:List Tq4),0))).bind fun l14=>(aa xb.2.2.2.2 xa.2.1).bind fun x15=>(aa xb.2.2.1 xa.2.2.1).bind fun x16=>(iW (x15.1,x15.2.1,x15.2.2.1,x15.2.2.2) xa.2.2.2.2.2 l14 x16).bind fun (l17,i18)=>some ((l17,i18))) (some (([],0))))))))
def Cv:Hn Tryz.prog := .cl Ep [] (.tw 12 .nil (.cl ke [] (.gj 7 ⟨[kdB 28],[]⟩ [] (.two 20 .nil (.cl ke [] .nil)) (.wt 29 (.gj 6 ⟨[kdB 36],[]⟩ [] (.two 29 .nil (.cl ke [] .nil)) (.tw 36 .nil (.gj 18 ⟨[kdB 59],[]⟩ [] (.two 40 (.cl ke [4] (.wt 49 (.gj 8 ⟨[kdB 58],[]⟩ [] (.two 49 .nil (.cl ke [6] .nil)) .nil))) .nil) (.tw 59 .nil (.gp 4 (.tw 68 .nil (.tw 71 (.mix [([0,1,2,3,4,5],6)] [7,8,9,10] [] [] (.cl mT [] .nil)) (.tw 83 (.jn [] ⟨[(7,.own 26 Yq6),(84,.any)],[]⟩ [4] (.lp ⟨[(7,.own 26 Yq6),kdI 8],[]⟩ (.tw 89 (.mix [([0,1,2,3,4,5,6,7,8,9],10)] [] [11,12] [] .nil) .nil)) (.mix [([0,1,2,3,4,5,6,7,8,9,10,11,12,13,14],15)] [16,17,18,19] [] [6] (.per 6 7 (.cl BO [] .nil)))) .nil))))))))))))
def Dp:Spec:=⟨66,⟨[(0,.dat Yq4),(1,.dat (.cons Yq2 (.cons Yq2 (.cons (.sl Yq6) (.cons Yq6 (.one (.sl Yq8)))))))],[]⟩,[⟨[(0,.tup [.own 157 Yq5,.dat Yq2])],[]⟩],fun x=>eR x.1 x.2⟩
def Es:OkSpec Tryz.prog:=⟨Dp,ah func66 Cv (by kernel_rfl) (by kernel_rfl),call66⟩
def iw (xa:Tq1):(Int×Int)→Option ((Int×Int)⊕(Unit⊕dn)):=fun (i1,i2)=>cond (decide (i2 < (xa.2.2.2.2.2.2.length:Int))) ((aa xa.2.2.2.2.2.2 i2).bind fun x3=>cond (decide (65536 < (IntKind.wrap .i64 (i1 + (x3.1.length:Int))))) (some (.inr ((.inr ((6,5,i2,0)))))) (some (.inl ((IntKind.wrap .i64 (i1 + (x3.1.length:Int)),IntKind.wrap .i64 (i2 + 1)))))) (some (.inr ((.inl ()))))
def ky (xa:Tq1) (i1:Int) (x2:Tq2):Int→Option (Int⊕(Unit⊕(Int⊕(Unit⊕dn)))):=fun i3=>cond (decide (i3 < (x2.1.length:Int))) ((aa x2.1 i3).bind fun x4=>(eS (x4.1,x4.2.1,x4.2.2.1,x4.2.2.2.1,x4.2.2.2.2) xa.2.2.2.1 xa.2.1).bind fun (l5,i6)=>cond (!decide (i6=0)) (some (.inr ((.inr (.inr ((.inr ((i6,6,i1,i3))))))))) (some (.inl (IntKind.wrap .i64 (i3 + 1))))) (some (.inr ((.inl ()))))
def kx (xa:Tq1):Int→Option (Int⊕(Unit⊕dn)):=fun i1=>cond (decide (i1 < (xa.2.2.2.2.2.2.length:Int))) ((aa xa.2.2.2.2.2.2 i1).bind fun x2=>(loop (ky xa i1 x2) 0).bind fun o=>match o with | .inr r=>some r | .inl ()=>(aa xa.2.2.2.2.2.2 i1).bind fun x3=>(eR (x3.2.1,x3.2.2.1,x3.2.2.2.1,x3.2.2.2.2.1,x3.2.2.2.2.2.1,x3.2.2.2.2.2.2) (((xa.2.2.2.2.2.2.length:Int),xa.2.1,xa.2.2.2.1,xa.2.2.2.2.1,xa.2.2.2.2.2.1))).bind fun (l4,i5)=>cond (!decide (i5=0)) (some (.inr ((.inr ((i5,7,i1,0)))))) (some (.inl (IntKind.wrap .i64 (i1 + 1))))) (some (.inr ((.inl ()))))
def iH (xa:Tq1):Option dn :=
 cond (decide ((xa.2.2.2.2.2.2.length:Int)=0)) (some ((14,5,0,0))) (cond (decide (65536 < (xa.2.2.2.2.2.2.length:Int))) (some ((6,5,0,0))) ((loop (iw xa) (0,0)).bind fun o=>match o with | .inr r=>some r | .inl ()=>(loop (kx xa) 0).bind fun o=>match o with | .inr r=>some r | .inl ()=>some ((0,0,0,0))))
def Dk:Hn Tryz.prog := .tw 16 .nil (.tw 21 .nil (.jx [] ⟨[],[bkC 2 61 [.lit (.int .i64 0),.lit (.int .i64 0),.lit (.int .i64 0),.lit (.int .i64 0)]]⟩ [2] (.lp ⟨[kdI 3,kdI 4],[bkC 2 61 [.lit (.int .i64 0),.lit (.int .i64 0),.lit (.int .i64 0),.lit (.int .i64 0)]]⟩ (.tw 27 (.tw 40 .nil .nil) .nil)) (.jx [] ⟨[],[bkC 2 61 [.lit (.int .i64 0),.lit (.int .i64 0),.lit (.int .i64 0),.lit (.int .i64 0)]]⟩ [2] (.lp ⟨[kdI 6],[bkC 2 61 [.lit (.int .i64 0),.lit (.int .i64 0),.lit (.int .i64 0),.lit (.int .i64 0)]]⟩ (.tw 59 (.pl (.pl (.jx [] ⟨[],[bkC 2 61 [.lit (.int .i64 0),.lit (.int .i64 0),.lit (.int .i64 0),.lit (.int .i64 0)]]⟩ [2] (.lp ⟨[kdI 8],[bkC 2 61 [.lit (.int .i64 0),.lit (.int .i64 0),.lit (.int .i64 0),.lit (.int .i64 0)]]⟩ (.tw 71 (.mix [([0,1,2,3,4,5,6,7],8)] [9,10,11,12,13] [] [] (.cl Cf [] (.tw 87 .nil .nil))) .nil)) (.mix [([0,1,2,3,4,5,6],7)] [8,9,10,11,12] [] [] (.cl Es [] (.tw 104 .nil .nil)))))) .nil)) .nil)))
def D5:Spec:=⟨48,⟨[(0,.dat Yq1)],[]⟩,[⟨[(0,.agg [.dat Yq2,.dat Yq2,.dat Yq2,.dat Yq2])],[]⟩],fun x=>iH x⟩
def CX:OkSpec Tryz.prog:=⟨D5,ah func48 Dk (by kernel_rfl) (by kernel_rfl),call48⟩

def iR (xa:Tq1):Option dn :=
 (iV xa).bind fun (i42,i43,i44,i45)=>cond (!decide (i42=0)) (some ((i42,i43,i44,i45))) ((iO xa).bind fun (i53,i54,i55,i56)=>cond (!decide (i53=0)) (some ((i53,i54,i55,i56))) ((iH xa).bind fun (i63,i65,i66,i67)=>some ((i63,i65,i66,i67))))
def EI:Hn Tryz.prog := .cl C8 [] (.tw 8 .nil (.cl Ej [] (.tw 14 .nil (.cl CX [] .nil))))
def EB:Spec:=⟨25,⟨[(0,.dat Yq1)],[]⟩,[⟨[(0,.agg [.dat Yq2,.dat Yq2,.dat Yq2,.dat Yq2])],[]⟩],fun x=>iR x⟩
def D3:OkSpec Tryz.prog:=⟨EB,ah func25 EI (by kernel_rfl) (by kernel_rfl),call25⟩

def je (xa:Tq1):Option Bool :=
 (iR xa).bind fun (i15,i17,i18,i19)=>some (decide (i15=0))
def B0:Hn Tryz.prog := .cl D3 [] .nil
def Df:Spec:=⟨8,⟨[(0,.dat Yq1)],[]⟩,[⟨[kdB 0],[]⟩],fun x=>je x⟩
def Db:OkSpec Tryz.prog:=⟨Df,ah func8 B0 (by kernel_rfl) (by kernel_rfl),call8⟩
def nv (xa:Tq8) (xb:Tq8):Int→Option (Int⊕(Unit⊕Bool)):=fun i1=>cond (decide (i1 < (xa.length:Int))) ((aa xa i1).bind fun x2=>(aa xb i1).bind fun x3=>cond (!((decide (x2.1=x3.1))&&((decide (x2.2=x3.2))))) (some (.inr ((.inr (false))))) (some (.inl (IntKind.wrap .i64 (i1 + 1))))) (some (.inr ((.inl ()))))
def iE (xa:Tq8) (xb:Tq8):Option Bool :=
 cond (!decide ((xa.length:Int)=(xb.length:Int))) (some (false)) ((loop (nv xa xb) 0).bind fun o=>match o with | .inr r=>some r | .inl ()=>some (true))
def Ed:Hn Tryz.prog := .tw 10 .nil (.jx [] ⟨[],[]⟩ [] (.lp ⟨[kdI 5],[]⟩ (.tw 14 (.mix [] [0,1,2,3,4,5,6,7,8] [] [] (.tw 25 .nil .nil)) .nil)) .nil)
def B5:Spec:=⟨33,⟨[(0,.dat (.sl Yq7)),(1,.dat (.sl Yq7))],[]⟩,[⟨[kdB 0],[]⟩],fun x=>iE x.1 x.2⟩
def vA:OkSpec Tryz.prog:=⟨B5,ah func33 Ed (by kernel_rfl) (by kernel_rfl),call33⟩
def kJ (xa:Tq4) (xb:Tq4):Int→Option (Int⊕(Unit⊕Bool)):=fun i1=>cond (decide (i1 < (xa.length:Int))) ((aa xa i1).bind fun x2=>(aa xb i1).bind fun x3=>cond (!decide (x2.1=x3.1)) (some (.inr ((.inr (false))))) (some (.inl (IntKind.wrap .i64 (i1 + 1))))) (some (.inr ((.inl ()))))
def gf (xa:Tq4) (xb:Tq4):Option Bool :=
 (dZ xa xb).bind fun t1=>cond (!t1) (some (false)) ((loop (kJ xa xb) 0).bind fun o=>match o with | .inr r=>some r | .inl ()=>some (true))
def DL:Hn Tryz.prog := .cl kh [] (.tw 9 .nil (.jx [] ⟨[],[]⟩ [] (.lp ⟨[kdI 5],[]⟩ (.tw 14 (.mix [] [0,1,2,3,4,5,6,7,8,9,10,11,12] [] [] (.tw 29 .nil .nil)) .nil)) .nil))
def C2:Spec:=⟨35,⟨[(0,.dat Yq6),(1,.dat Yq6)],[]⟩,[⟨[kdB 0],[]⟩],fun x=>gf x.1 x.2⟩
def qi:OkSpec Tryz.prog:=⟨C2,ah func35 DL (by kernel_rfl) (by kernel_rfl),call35⟩
def nC (xa:(List Tq4)) (xb:(List Tq4)):Int→Option (Int⊕(Unit⊕Bool)):=fun i1=>cond (decide (i1 < (xa.length:Int))) ((aa xa i1).bind fun x2=>(aa xb i1).bind fun x3=>(gf x2 x3).bind fun t4=>cond (!t4) (some (.inr ((.inr (false))))) (some (.inl (IntKind.wrap .i64 (i1 + 1))))) (some (.inr ((.inl ()))))
def iQ (xa:(List Tq4)) (xb:(List Tq4)):Option Bool :=
 cond (!decide ((xa.length:Int)=(xb.length:Int))) (some (false)) ((loop (nC xa xb) 0).bind fun o=>match o with | .inr r=>some r | .inl ()=>some (true))
def CK:Hn Tryz.prog := .tw 10 .nil (.jx [] ⟨[],[]⟩ [] (.lp ⟨[kdI 5],[]⟩ (.tw 14 (.mix [] [0,1,2,3,4,5,6,7] [8,9] [] (.cl qi [] (.tw 26 .nil .nil))) .nil)) .nil)
def C6:Spec:=⟨34,⟨[(0,.dat (.sl Yq6)),(1,.dat (.sl Yq6))],[]⟩,[⟨[kdB 0],[]⟩],fun x=>iQ x.1 x.2⟩
def vo:OkSpec Tryz.prog:=⟨C6,ah func34 CK (by kernel_rfl) (by kernel_rfl),call34⟩

def nU (xa:Tq3) (xb:Tq3):Option Bool :=
 (cond (decide (xa.1=xb.1)) ((iE xa.2.1 xb.2.1).bind fun t62=>some (t62)) (some (false))).bind fun t58=>(cond (t58) ((iQ xa.2.2.1 xb.2.2.1).bind fun t77=>some (t77)) (some (false))).bind fun t73=>(cond (t73) ((gf xa.2.2.2 xb.2.2.2).bind fun t92=>some (t92)) (some (false))).bind fun t88=>some (t88)
def BY:Hn Tryz.prog := .gj 5 ⟨[kdB 16],[]⟩ [] (.two 10 (.cl vA [] .nil) .nil) (.wt 17 (.gj 5 ⟨[kdB 23],[]⟩ [] (.two 17 (.cl vo [] .nil) .nil) (.wt 24 (.gj 5 ⟨[kdB 30],[]⟩ [] (.two 24 (.cl qi [] .nil) .nil) .nil))))
def Dw:Spec:=⟨36,⟨[(0,.dat Yq8),(1,.dat Yq8)],[]⟩,[⟨[kdB 0],[]⟩],fun x=>nU x.1 x.2⟩
def D1:OkSpec Tryz.prog:=⟨Dw,ah func36 BY (by kernel_rfl) (by kernel_rfl),call36⟩
def kH (xa:(List Int)) (xb:(List Int)):Int→Option (Int⊕(Unit⊕Bool)):=fun i1=>cond (decide (i1 < (xa.length:Int))) ((aa xa i1).bind fun x2=>(aa xb i1).bind fun x3=>cond (!decide (x2=x3)) (some (.inr ((.inr (false))))) (some (.inl (IntKind.wrap .i64 (i1 + 1))))) (some (.inr ((.inl ()))))
def eY (xa:(List Int)) (xb:(List Int)):Option Bool :=
 cond (!decide ((xa.length:Int)=(xb.length:Int))) (some (false)) ((loop (kH xa xb) 0).bind fun o=>match o with | .inr r=>some r | .inl ()=>some (true))
def Ez:Hn Tryz.prog := .tw 10 .nil (.jx [] ⟨[],[]⟩ [] (.lp ⟨[kdI 5],[]⟩ (.tw 14 (.mix [] [0,1,2,3,4,5,6,7,8] [] [] (.tw 25 .nil .nil)) .nil)) .nil)
def DK:Spec:=⟨58,⟨[(0,.dat (.sl Yq2)),(1,.dat (.sl Yq2))],[]⟩,[⟨[kdB 0],[]⟩],fun x=>eY x.1 x.2⟩
def p9:OkSpec Tryz.prog:=⟨DK,ah func58 Ez (by kernel_rfl) (by kernel_rfl),call58⟩

def nV (xa:fU) (xb:fU):Option Bool :=
 (cond (((decide (xa.1=xb.1))&&(decide (xa.2.1=xb.2.1)))&&(decide (xa.2.2.1=xb.2.2.1))) ((eY xa.2.2.2.1 xb.2.2.2.1).bind fun t70=>some (t70)) (some (false))).bind fun t66=>(cond (t66) ((eY xa.2.2.2.2.1 xb.2.2.2.2.1).bind fun t85=>some (t85)) (some (false))).bind fun t81=>(cond (t81) ((eY xa.2.2.2.2.2 xb.2.2.2.2.2).bind fun t1=>some (t1)) (some (false))).bind fun t96=>some (t96)
def Dd:Hn Tryz.prog := .gp 5 (.wt 17 (.gp 5 (.wt 24 (.gj 5 ⟨[kdB 30],[]⟩ [] (.two 24 (.cl p9 [] .nil) .nil) (.wt 31 (.gj 5 ⟨[kdB 37],[]⟩ [] (.two 31 (.cl p9 [] .nil) .nil) (.wt 38 (.gj 5 ⟨[kdB 44],[]⟩ [] (.two 38 (.cl p9 [] .nil) .nil) .nil))))))))
def Bp:Spec:=⟨37,⟨[(0,.dat Yq4),(1,.dat Yq4)],[]⟩,[⟨[kdB 0],[]⟩],fun x=>nV x.1 x.2⟩
def Ca:OkSpec Tryz.prog:=⟨Bp,ah func37 Dd (by kernel_rfl) (by kernel_rfl),call37⟩
def nK (xa:Tq1) (xb:Tq1):Int→Option (Int⊕(Unit⊕Bool)):=fun i1=>cond (decide (i1 < (xa.2.2.2.2.2.1.length:Int))) ((aa xa.2.2.2.2.2.1 i1).bind fun x2=>(aa xb.2.2.2.2.2.1 i1).bind fun x3=>(nU (x2.1,x2.2.1,x2.2.2.1,x2.2.2.2) (x3.1,x3.2.1,x3.2.2.1,x3.2.2.2)).bind fun t4=>cond (!t4) (some (.inr ((.inr (false))))) (some (.inl (IntKind.wrap .i64 (i1 + 1))))) (some (.inr ((.inl ()))))
def nL (x1:Tq2) (x2:Tq2):Int→Option (Int⊕(Unit⊕(Int⊕(Unit⊕Bool)))):=fun i3=>cond (decide (i3 < (x1.1.length:Int))) ((aa x1.1 i3).bind fun x4=>(aa x2.1 i3).bind fun x5=>cond (!((decide (x4.1=x5.1))&&((decide (x4.2.1=x5.2.1))&&((decide (x4.2.2.1=x5.2.2.1))&&((decide (x4.2.2.2.1=x5.2.2.2.1))&&(x4.2.2.2.2 == x5.2.2.2.2)))))) (some (.inr ((.inr (.inr ((.inr (false)))))))) (some (.inl (IntKind.wrap .i64 (i3 + 1))))) (some (.inr ((.inl ()))))
def nO (xa:Tq1) (xb:Tq1):Int→Option (Int⊕(Unit⊕Bool)):=fun i1=>cond (decide (i1 < (xa.2.2.2.2.2.2.length:Int))) ((aa xa.2.2.2.2.2.2 i1).bind fun x2=>(aa xb.2.2.2.2.2.2 i1).bind fun x3=>cond (!decide ((x2.1.length:Int)=(x3.1.length:Int))) (some (.inr ((.inr (false))))) ((aa xa.2.2.2.2.2.2 i1).bind fun x4=>(aa xb.2.2.2.2.2.2 i1).bind fun x5=>(nV (x4.2.1,x4.2.2.1,x4.2.2.2.1,x4.2.2.2.2.1,x4.2.2.2.2.2.1,x4.2.2.2.2.2.2) (x5.2.1,x5.2.2.1,x5.2.2.2.1,x5.2.2.2.2.1,x5.2.2.2.2.2.1,x5.2.2.2.2.2.2)).bind fun t6=>cond (!t6) (some (.inr ((.inr (false))))) ((loop (nL x2 x3) 0).bind fun o=>match o with | .inr r=>some r | .inl ()=>some (.inl (IntKind.wrap .i64 (i1 + 1)))))) (some (.inr ((.inl ()))))
def ge (xa:Tq1) (xb:Tq1):Option Bool :=
 (cond ((!decide (xa.1=xb.1))||(!decide (xa.2.1=xb.2.1))) (some (true)) ((iE xa.2.2.1 xb.2.2.1).bind fun t1=>some (!t1))).bind fun t2=>(cond (t2) (some (true)) ((iQ xa.2.2.2.1 xb.2.2.2.1).bind fun t3=>some (!t3))).bind fun t4=>(cond (t4) (some (true)) ((gf xa.2.2.2.2.1 xb.2.2.2.2.1).bind fun t5=>some (!t5))).bind fun t6=>cond ((t6||(!decide ((xa.2.2.2.2.2.1.length:Int)=(xb.2.2.2.2.2.1.length:Int))))||(!decide ((xa.2.2.2.2.2.2.length:Int)=(xb.2.2.2.2.2.2.length:Int)))) (some (false)) ((loop (nK xa xb) 0).bind fun o=>match o with | .inr r=>some r | .inl ()=>(loop (nO xa xb) 0).bind fun o=>match o with | .inr r=>some r | .inl ()=>some (true))
def C9:Hn Tryz.prog := .gp 5 (.wt 22 (.gj 6 ⟨[kdB 29],[]⟩ [] (.two 22 .nil (.cl vA [] .nil)) (.wt 30 (.gj 6 ⟨[kdB 37],[]⟩ [] (.two 30 .nil (.cl vo [] .nil)) (.wt 38 (.gj 6 ⟨[kdB 45],[]⟩ [] (.two 38 .nil (.cl qi [] .nil)) (.wt 46 (.gp 7 (.wt 55 (.gp 7 (.tw 63 .nil (.jx [] ⟨[],[]⟩ [] (.lp ⟨[kdI 5],[]⟩ (.tw 68 (.mix [] [0,1,2,3,4,5,6,7,8,9] [10,11] [] (.cl D1 [] (.tw 82 .nil .nil))) .nil)) (.jx [] ⟨[],[]⟩ [] (.lp ⟨[kdI 6],[]⟩ (.tw 87 (.mix [] [0,1,2,3,4,5,6,7,8,9,10,11,12,13] [] [] (.mix [] [0,1,2,3,4,5,6,7,8,9,10,11,12,13,14,15,16,17] [18,19,20] [] (.two 107 .nil (.cl Ca [] (.tw 122 .nil (.jx [] ⟨[],[]⟩ [] (.lp ⟨[kdI 9],[]⟩ (.tw 126 (.mix [] [0,1,2,3,4,5,6,7,8] [] [] (.tw 137 .nil .nil)) .nil)) .nil)))))) .nil)) .nil)))))))))))))
def Eu:Spec:=⟨10,⟨[(0,.dat Yq1),(1,.dat Yq1)],[]⟩,[⟨[kdB 0],[]⟩],fun x=>ge x.1 x.2⟩
def vD:OkSpec Tryz.prog:=⟨Eu,ah func10 C9 (by kernel_rfl) (by kernel_rfl),call10⟩

def nG (xa:Tq1):Option Bool :=
 (eV xa).bind fun t1=>cond (!t1) ((eU).bind fun t2=>some (t2)) ((iY xa).bind fun s3=>(iM xa).bind fun s4=>cond (!decide (s3=s4)) (some (false)) ((je xa).bind fun t5=>cond (!t5) ((eU).bind fun t6=>some (t6)) ((d5 s3).bind fun (i7,i9,l10,l11,l12,l13,l14,i15,i16)=>(app ([35,32,115,111,10,10]:List UInt8) s3).bind fun z17=>(app z17 ([32,32,35,32,116,104,101,32,101,110,100]:List UInt8)).bind fun z18=>(d5 z18).bind fun (i19,i20,l21,l22,l23,l24,l25,i26,i27)=>(ge xa (i7,i9,l10,l11,l12,l13,l14)).bind fun t28=>cond ((t28&&(decide (i15=0)))&&(decide (i16=0))) ((ge xa (i19,i20,l21,l22,l23,l24,l25)).bind fun t29=>(cond ((t29&&(decide (i26=0)))&&(decide (i27=0))) ((eU).bind fun t30=>some (t30)) (some (false))).bind fun t31=>some (t31)) (some (false)))))
def vS:Hn Tryz.prog := .cl oQ2 [] (.tw 12 (.cl nT [] .nil) (.cl D4 [] (.cl C0 [] (.tw 19 .nil (.cl Db [] (.tw 22 (.cl nT [] .nil) (.cl qt [] (.cl qt [] (.per 8 9 (.per 10 11 (.cl vD [2,4,6] (.gp 2 (.wt 45 (.gp 2 (.two 49 (.per 21 22 (.per 23 24 (.cl vD [15,17,19] (.wt 54 (.gp 2 (.wt 58 (.gp 2 (.wt 62 (.gj 1 ⟨[kdB 64],[]⟩ [] (.two 62 (.cl nT [] .nil) .nil) .nil))))))))) .nil)))))))))))))))
def qI:Spec:=⟨3,⟨[(0,.dat Yq1)],[]⟩,[⟨[kdB 0],[]⟩],fun x=>nG x⟩
theorem vO:bI Tryz.prog qI:=ah func3 vS (by kernel_rfl) (by kernel_rfl)
end
end
end Go.Proofs.YteciehjlefldmaaGreatDoor
