/- A part of the proof: what lies ahead of the law. Nothing is claimed here. -/
import Derived.Test.YtbheedkpbbmlcaaDoorZ3
import Derived.Shelf.Strings.Builder1
import Derived.Shelf.Strings.Builder2
import Derived.Shelf.Strings.OnBuilder
import Derived.Shelf.Small.Wraps
import Derived.Shelf.Strings.BuilderF
import Derived.Shelf.Strings.BuilderK
import Derived.Shelf.Utf8.RuneCount
import Derived.Shelf.Strings.Builder2Cap
import Derived.Shelf.Strings.Search1
import Derived.Shelf.Strings.Search2
import Derived.Shelf.Strings.Search3
import Derived.Shelf.Strings.Cut
import Derived.Shelf.Strings.Count
import Derived.Shelf.LaysM
import Derived.Shelf.Strings.Shaped
import Derived.Shelf.Strings.Prefix
import Derived.Shelf.Strings.Split
import Derived.Shelf.Strings.SplitShaped
import Derived.Shelf.Unicode.Decode
import Derived.Shelf.Strings.RuneCount
import Derived.Shelf.Strings.Explode
import Derived.Shelf.Unicode.DecodeSlow
import Derived.Shelf.Unicode.DecodeAny
import Derived.Shelf.Strings.BuilderCap
import Derived.Shelf.Slices.Turned
import Derived.Shelf.Slices.Equal
import Derived.Shelf.Slices.Empties2
import Derived.Test.YtbheedkpbbmlcaaDoorProg
import Derived.Shelf.Vars
import Derived.Test.YtbheedkpbbmlcaaDoorRows
import Derived.Lib.SplitLaws
import Derived.Lib.IndexMore
import Derived.Lib.Join
namespace Go.Proofs.YtbheedkpbbmlcaaDoor
noncomputable section
set_option linter.unusedVariables false
set_option linter.unusedSimpArgs false
set_option linter.unnecessarySimpa false
set_option linter.unusedSectionVars false
open Go.RowKit
section
variable [BldA]
section
variable {R:Type} {P:Program} {E:En} {n:Nat} {m m':List M} {K K':Hp} {fr:Frz} {σ σ':Zt} {ρ ρ':Sl1} {w w':World}
theorem o5 {c:Code} {f:Hn P→Zt→(R:Type)→(Exit→Hn P→Zt→Option R)→Option R} (hf:Fok P n c f) (hrd:gx E fr) {s:Sh} {act W:List Nat} {a b:Hn P} {k:Hn P→Zt→Option R} {r:R} {Q:Exit→Act→World→Prop} (h:f6 f s act W a b σ k=some r) (hr:Rel E fr σ m K ρ w)
   (hQ:∀ h' σ' m' K' ρ' w',Rel E fr σ' m' K' ρ' w'→Same σ σ'→k h' σ'=some r→Q .normal (Go.Proofs.YtbheedkpbbmlcaaDoor.act1 n ρ') w'):c.wpIn (av E.rd) 0 P Q (Go.Proofs.YtbheedkpbbmlcaaDoor.act1 n ρ) w:=by
 unfold f6 at h
 obtain ⟨x,hx,h⟩:=ob h
 refine hf _ E ⟨m,K,ρ,fun _=>false,fr.F,fr.k0⟩ hrd a (σ.frz act) _ x m K ρ w Q hx (hr.frz act) (fun e h' σ' m' K' ρ' w' h1 h2 h3=>?_)
 cases e with
 | normal =>
   obtain ⟨h'',σ2,m2,K2,g1,g2,g3⟩:=aD h' h3 h1
   have hi:Inn σ fr ⟨m,K,ρ,fun _=>false,fr.F,fr.k0⟩ m K ρ (bz σ.H act) σ2 W:=⟨rfl,rfl,rfl,rfl,rfl,(g2.2.trans h2.2),eR,fun _ _=>rfl⟩
   obtain ⟨σ3,m3,q1,q2,q3⟩:=jX hr hi g3 g1 h
   exact hQ b σ3 m3 K2 ρ' w' q3 q2 q1
 | _=>cases h3
theorem pn {c:Code} {f:Hn P→Zt→(R:Type)→(Exit→Hn P→Zt→Option R)→Option R} (hf:Fok P n c f) (hrd:gx E fr) {s:Sh} {act W:List Nat} {a b:Hn P} {k:Exit→Hn P→Zt→Option R} {r:R} {Q:Exit→Act→World→Prop} (h:fZ f s act W a b σ k=some r) (hr:Rel E fr σ m K ρ w)
   (hQ:∀ e h' σ' m' K' ρ' w',Rel E fr σ' m' K' ρ' w'→Same σ σ'→k e h' σ'=some r→Q e (Go.Proofs.YtbheedkpbbmlcaaDoor.act1 n ρ') w'):c.wpIn (av E.rd) 0 P Q (Go.Proofs.YtbheedkpbbmlcaaDoor.act1 n ρ) w:=by
 unfold fZ at h
 obtain ⟨o,ho,h⟩:=ob h
 refine hf _ E ⟨m,K,ρ,fun _=>false,fr.F,fr.k0⟩ hrd a (σ.frz act) _ o m K ρ w Q ho (hr.frz act) (fun e h' σ' m' K' ρ' w' h1 h2 h3=>?_)
 have other:(k e h' (σ.thaw σ' (bz σ.H act) [])).map Sum.inr=some o→Q e (Go.Proofs.YtbheedkpbbmlcaaDoor.act1 n ρ') w':=fun h3=>by
   rw [Option.map_eq_some_iff] at h3
   obtain ⟨r',h4,rfl⟩:=h3
   cases h
   have hi:Inn σ fr ⟨m,K,ρ,fun _=>false,fr.F,fr.k0⟩ m K ρ (bz σ.H act) σ' []:=⟨rfl,rfl,rfl,rfl,rfl,h2.2,eR,fun _ _=>rfl⟩
   obtain ⟨q1,q2⟩:=mb hr hi h1
   exact hQ e h' _ m' K' ρ' w' q2 q1 h4
 cases e with
 | normal =>
   obtain ⟨h'',σ2,m2,K2,g1,g2,g3⟩:=aD h' h3 h1
   rw [Option.map_eq_some_iff] at g1
   obtain ⟨x,g1,rfl⟩:=g1
   have hi:Inn σ fr ⟨m,K,ρ,fun _=>false,fr.F,fr.k0⟩ m K ρ (bz σ.H act) σ2 W:=⟨rfl,rfl,rfl,rfl,rfl,(g2.2.trans h2.2),eR,fun _ _=>rfl⟩
   obtain ⟨σ3,m3,q1,q2,q3⟩:=jX hr hi g3 g1 h
   exact hQ .normal b σ3 m3 K2 ρ' w' q3 q2 q1
 | _=>exact other h3
theorem vi {s:Sh} {W:List Nat} {rest:List HA} {x:TL s.ts} (hr:Rel E fr σ m K ρ w) {g:Gt} {f:Nat→SV} {H:List HA} {us:List aa}
   (hg:s.get f H=some g) (hx:TL.of s.ts g.ds=some x) (hok:∀ a∈H,HA.ok m' K' a) (hf:∀ i,SV.rel m' K' (f i) (ρ' i)) (hmm:m <+: m') (hKK:K.le K') (hrest:∀ a∈rest,a∈σ.H) (hs:Sep E K' (H.map (HA.conc m')++(us++(rest.map (HA.conc m)++σ.fz fr))) w')
   (hds:MOk fr.k0 K' ρ'.ds) (hold:∀ i,i∉W→ρ' i=ρ i) {vs:List (Nat×SV)} {u:Un} (hu:s.un (TL.list s.ts x) σ.nx=some (vs,u)) :
   ∃ m'',Rel E ⟨m,K,ρ,fun i=>W.contains i,fr.F,fr.k0⟩ ⟨fun i=>bif W.contains i then .any else σ.get i,aU (br σ) vs,u.H.map (HA.sub (br σ)),rest++σ.Hf,u.nx,false⟩ m'' K' ρ' w':=by
 rw [TL.of_list hx] at hu
 have hoo:bf s.bl m.length=true:=by
   unfold Sh.un at hu
   rw [hr.nx]
   cases ho:bf s.bl σ.nx with
   | true=>rfl
   | false=>rw [ho] at hu; cases hu
 obtain ⟨vs',u',ms,e1,e2,e3,e4,e5,e6,e7,e8⟩:=Sh.get_un hg hok hmm hoo
 rw [hr.nx,hu] at e1
 cases e1
 have hp':=ar m ms
 refine ⟨m++ms,Rel.subs (σ:=⟨fun i=>bif W.contains i then .any else σ.get i,vs,u.H,rest++σ.Hf,u.nx,false⟩) (ju hr.toPur (m':=m++ms) (fun _ _ k=>ag hp' k) hKK) ⟨⟨ar m ms,hKK,e2,fun e=>(by cases e),fun i=>?_,fun i hi=>?_,fun i hi=>?_,fun i sv hi=>jy e3 hi _ (hf i),e4,fun a ha=>?_,hds⟩,?_⟩⟩
 . show SV.rel m K (bif W.contains i then .any else σ.get i) (ρ i)
   cases W.contains i with
   | true=>exact trivial
   | false=>exact hr.toPur.get i
 . show (bif W.contains i then SV.any else σ.get i) = .any
   have hi:W.contains i=true:=hi
   rw [hi]; rfl
 . by_cases hW:i∈W
   . exact .inl (by simpa using hW)
   . exact .inr (hold i hW)
 . refine hr.toPur.all a ?_
   rcases List.mem_append.1 ha with ha | ha
   . exact List.mem_append_left _ (hrest a ha)
   . exact List.mem_append_right _ ha
 . have s1:=e6 E _ w' hs
   have s2:Sep E K' ((g.H.map (HA.conc m')++us)++(u.H.map (HA.conc (m++ms))++(rest.map (HA.conc m)++σ.fz fr))) w':=Sep.perm (by
     rw [List.append_assoc]
     refine (f9 _ _ _).trans (List.Perm.append_left _ (f9 _ _ _)) ) s1
   show Sep E K' (u.H.map (HA.conc (m++ms))++((rest++σ.Hf).map (HA.conc m)++fr.F)) w'
   rw [List.map_append,hr.toPur.fz',List.append_assoc]
   exact Sep.drops s2
theorem oH {s:Sh} {ds:List Dat} {nx:Nat} {o:List (Nat×SV)×Un} (h:s.un ds nx=some o):bf s.bl nx=true:=by
 unfold Sh.un at h
 cases ho:bf s.bl nx with
 | true=>rfl
 | false=>rw [ho] at h; cases h
theorem um {c:Code} {f:Hn P→Zt→(R:Type)→(Exit→Hn P→Zt→Option R)→Option R} (hf:Fok P n c f) (hrd:gx E fr) {s:Sh} {W:List Nat} {a:Hn P} {k:Exit→Hn P→Zt→Option R} {r:R} {Q:Exit→Act→World→Prop} (h:kv f s W a σ k=some r) (hr:Rel E fr σ m K ρ w)
   (hQ:∀ e h' σ' m' K' ρ' w',Rel E fr σ' m' K' ρ' w'→Same σ σ'→k e h' σ'=some r→Q e (Go.Proofs.YtbheedkpbbmlcaaDoor.act1 n ρ') w'):(Code.loop c).wpIn (av E.rd) 0 P Q (Go.Proofs.YtbheedkpbbmlcaaDoor.act1 n ρ) w:=by
 unfold kv at h
 split at h
 . rename_i g hg
   split at h
   . rename_i x0 hx0
     obtain ⟨N,hN⟩:=jq h
     refine wpIn_loop_rounds N ?_
     -- a round's head
     have round:∀ (N:Nat) (x:TL s.ts) (m1:List M) (K1:Hp) (ρ1:Sl1) (w1:World) (vs:List (Nat×SV)) (u:Un),bT (hZ f s W g a σ k) N x=some r→s.un (TL.list s.ts x) σ.nx=some (vs,u) →
         Rel E ⟨m,K,ρ,fun i=>W.contains i,fr.F,fr.k0⟩ ⟨fun i=>bif W.contains i then .any else σ.get i,aU (br σ) vs,u.H.map (HA.sub (br σ)),g.H++σ.Hf,u.nx,false⟩ m1 K1 ρ1 w1→Code.roundsIn (av E.rd) 0 P c Q N (Go.Proofs.YtbheedkpbbmlcaaDoor.act1 n ρ1) w1:=by
       intro N
       induction N with
       | zero=>intro x m1 K1 ρ1 w1 vs u hi; cases hi
       | succ N ih =>
         intro x m1 K1 ρ1 w1 vs u hi hu hrel
         unfold bT at hi
         obtain ⟨o,ho,hi⟩:=ob hi
         rw [roundsIn_succ]
         unfold hZ at ho
         rw [hu] at ho
         simp only at ho
         have hgsub:∀ a∈g.H,a∈σ.H:=by
           obtain ⟨_,_,_,_,_,_,_,e5,_⟩:=Sh.get_un (m:=m) (K:=K) hg hr.okH (List.prefix_refl m) (by rw [hr.nx]; exact oH hu)
           exact e5
         refine hf _ E ⟨m,K,ρ,fun i=>W.contains i,fr.F,fr.k0⟩ hrd a _ _ o m1 K1 ρ1 w1 _ ho hrel (fun e h' σ' m' K' ρ' w' h1 h2 h3=>?_)
         have other:e ≠ .normal→(k e h' (σ.thaw σ' g.H W)).map Sum.inr=some o→Q e (Go.Proofs.YtbheedkpbbmlcaaDoor.act1 n ρ') w':=fun _ h3=>by
           rw [Option.map_eq_some_iff] at h3
           obtain ⟨r',h4,rfl⟩:=h3
           cases hi
           have hii:Inn σ fr ⟨m,K,ρ,fun i=>W.contains i,fr.F,fr.k0⟩ m K ρ g.H σ' W:=⟨rfl,rfl,rfl,rfl,rfl,h2.2,hgsub,fun i hi=>by simpa using hi⟩
           obtain ⟨q1,q2⟩:=mb hr hii h1
           exact hQ e h' _ m' K' ρ' w' q2 q1 h4
         cases e with
         | normal =>
           obtain ⟨h'',σ2,m2,K2,g1,g2,g3⟩:=aD h' h3 h1
           rw [Option.map_eq_some_iff] at g1
           obtain ⟨x',g1,rfl⟩:=g1
           have hsame:=h2.trans g2
           unfold Zt.pack at g1
           replace g1:=ae g1; obtain ⟨hk,g1⟩:=g1
           split at g1
           . rename_i g' hg'
             cases hu':s.un (TL.list s.ts x') σ.nx with
             | none =>
               -- the next round would not run
               cases N with
               | zero=>cases hi
               | succ N =>
                 unfold bT at hi
                 obtain ⟨o2,ho2,_⟩:=ob hi
                 unfold hZ at ho2
                 rw [hu'] at ho2
                 cases ho2
             | some q =>
               obtain ⟨vs',u'⟩:=q
               have hii:Inn σ fr ⟨m,K,ρ,fun i=>W.contains i,fr.F,fr.k0⟩ m K ρ g.H σ2 W:=⟨rfl,rfl,rfl,rfl,rfl,hsame.2,hgsub,fun i hi=>by simpa using hi⟩
               obtain ⟨m'',hrel'⟩:=vi (W:=W) (rest:=g.H) (us:=[]) hr hg' g1 g3.okH g3.toPur.get g3.hm g3.hK hgsub (by rw [List.nil_append]; exact hii.sep hr g3) g3.mks (fun i hi=>by
                 have:=g3.old i (ji hk hi)
                 rcases this with h4 | h4
                 . exact absurd (by simpa using h4) hi
                 . exact h4) hu'
               exact ih x' m'' K2 ρ' w' vs' u' hi hu' hrel'
           . cases g1
         | exit i=>exact other nofun h3
         | goto l=>exact other nofun h3
         | ret=>exact other nofun h3
         | panic c=>exact other nofun h3
         | outgrown=>exact other nofun h3
     cases hu:s.un (TL.list s.ts x0) σ.nx with
     | none =>
       cases N with
       | zero=>cases hN
       | succ N =>
         unfold bT at hN
         obtain ⟨o2,ho2,_⟩:=ob hN
         unfold hZ at ho2
         rw [hu] at ho2
         cases ho2
     | some q =>
       obtain ⟨vs,u⟩:=q
       have hu2:=hu
       rw [TL.of_list hx0] at hu2
       obtain ⟨vs',u',ms,e1,e2,e3,e4,e5,e6,e7,e8⟩:=Sh.get_un (m:=m) (K:=K) hg hr.okH (List.prefix_refl m) (by rw [hr.nx]; exact oH hu2)
       rw [hr.nx,hu2] at e1
       cases e1
       have hp':=ar m ms
       refine round N x0 (m++ms) K ρ w vs u hN hu (Rel.subs (σ:=⟨fun i=>bif W.contains i then .any else σ.get i,vs,u.H,g.H++σ.Hf,u.nx,false⟩) (ju hr.toPur (m':=m++ms) (fun _ _ k=>ag hp' k) (Hp.le_refl K)) ⟨⟨ar m ms,Hp.le_refl K,e2,fun e=>(by cases e),fun i=>?_,fun i hi=>?_,fun i hi => .inr rfl,fun i sv hi=>jy e3 hi _ (hr.toPur.get i),e4,fun a ha=>?_,hr.mks⟩,?_⟩)
       . show SV.rel m K (bif W.contains i then .any else σ.get i) (ρ i)
         cases W.contains i with
         | true=>exact trivial
         | false=>exact hr.toPur.get i
       . show (bif W.contains i then SV.any else σ.get i) = .any
         have hi:W.contains i=true:=hi
         rw [hi]; rfl
       . refine hr.toPur.all a ?_
         rcases List.mem_append.1 ha with ha | ha
         . exact List.mem_append_left _ (e5 a ha)
         . exact List.mem_append_right _ ha
       . have s1:=e6 E _ w hr.toSep
         show Sep E K (u.H.map (HA.conc (m++ms))++((g.H++σ.Hf).map (HA.conc m)++fr.F)) w
         rw [List.map_append,hr.toPur.fz',List.append_assoc]
         exact s1
   . cases h
 . cases h
theorem oD {c:Code} {f:Hn P→Zt→(R:Type)→(Exit→Hn P→Zt→Option R)→Option R} (hf:Fok P n c f) (hrd:gx E fr) {k:Exit→Hn P→Zt→Option R} {r:R} {Q:Exit→Act→World→Prop}
   (hQ:∀ e h' σ' m' K' ρ' w',Rel E fr σ' m' K' ρ' w'→Same σ σ'→k e h' σ'=some r→Q e (Go.Proofs.YtbheedkpbbmlcaaDoor.act1 n ρ') w'):∀ (N:Nat) {h:Hn P} {σ1:Zt} {m:List M} {K:Hp} {ρ:Sl1} {w:World},im (fun h σ k=>f h σ _ k) k N h σ1=some r→Rel E fr σ1 m K ρ w→Same σ σ1→Code.roundsIn (av E.rd) 0 P c Q N (Go.Proofs.YtbheedkpbbmlcaaDoor.act1 n ρ) w
 | 0,h,σ1,m,K,ρ,w,hh,hr,hs=>by cases hh
 | N + 1,h,σ1,m,K,ρ,w,hh,hr,hs=>by
   rw [roundsIn_succ]
   unfold im at hh
   refine hf _ E fr hrd h σ1 _ r m K ρ w _ hh hr (fun e h' σ' m' K' ρ' w' h1 h2 h3=>?_)
   cases e with
   | normal=>exact oD hf hrd hQ N h3 h1 (hs.trans h2)
   | exit i=>exact hQ _ h' σ' m' K' ρ' w' h1 (hs.trans h2) h3
   | goto i=>exact hQ _ h' σ' m' K' ρ' w' h1 (hs.trans h2) h3
   | ret=>exact hQ _ h' σ' m' K' ρ' w' h1 (hs.trans h2) h3
   | panic i=>exact hQ _ h' σ' m' K' ρ' w' h1 (hs.trans h2) h3
   | outgrown=>exact hQ _ h' σ' m' K' ρ' w' h1 (hs.trans h2) h3
theorem oF {y:Code} {k:Exit→Hn P→Zt→Option R} {f:Hn P→Zt→Option R} {r:R} {Q:Exit→Act→World→Prop} {σ0:Zt} (hf:∀ h' σ' m' K' ρ' w',Rel E fr σ' m' K' ρ' w'→Same σ0 σ'→f h' σ'=some r→y.wpIn (av E.rd) 0 P Q (Go.Proofs.YtbheedkpbbmlcaaDoor.act1 n ρ') w')
   (hQ:∀ e h' σ' m' K' ρ' w',Rel E fr σ' m' K' ρ' w'→Same σ0 σ'→k e h' σ'=some r→Q e (Go.Proofs.YtbheedkpbbmlcaaDoor.act1 n ρ') w'):∀ e h' σ' m' K' ρ' w',Rel E fr σ' m' K' ρ' w'→Same σ0 σ'→fY k f e h' σ'=some r→Exit.then (y.wpIn (av E.rd) 0 P Q) Q e (Go.Proofs.YtbheedkpbbmlcaaDoor.act1 n ρ') w':=by
 intro e h' σ' m' K' ρ' w' h1 h2 h3
 cases e with
 | normal=>exact hf h' σ' m' K' ρ' w' h1 h2 h3
 | exit i=>exact hQ _ h' σ' m' K' ρ' w' h1 h2 h3
 | goto i=>exact hQ _ h' σ' m' K' ρ' w' h1 h2 h3
 | ret=>exact hQ _ h' σ' m' K' ρ' w' h1 h2 h3
 | panic i=>exact hQ _ h' σ' m' K' ρ' w' h1 h2 h3
 | outgrown=>exact hQ _ h' σ' m' K' ρ' w' h1 h2 h3
theorem bY {J:Rn P} (hJ:JOk J):∀ (c:Code),Fok P n c (fun h σ R k=>exec J n c h σ k)
 | .skip=>fun R E fr hrd h σ k r m K ρ w Q hh hr hQ=>wpIn_skip (hQ _ h σ m K ρ w hr Same.rfl' hh)
 | .ret=>fun R E fr hrd h σ k r m K ρ w Q hh hr hQ=>wpIn_ret (hQ _ h σ m K ρ w hr Same.rfl' hh)
 | .exit id=>fun R E fr hrd h σ k r m K ρ w Q hh hr hQ=>wpIn_exit (hQ _ h σ m K ρ w hr Same.rfl' hh)
 | .label l=>fun R E fr hrd h σ k r m K ρ w Q hh hr hQ=>wpIn_label (hQ _ h σ m K ρ w hr Same.rfl' hh)
 | .scope b=>fun R E fr hrd h σ k r m K ρ w Q hh hr hQ=>by
   refine rD (bY hJ b R E fr hrd h σ _ r m K ρ w _ (show exec J n b h σ (p8 k)=some r from hh) hr (fun e h' σ' m' K' ρ' w' h1 h2 h3=>?_))
   cases e with
   | goto l=>cases h3
   | normal=>exact hQ _ h' σ' m' K' ρ' w' h1 h2 h3
   | exit i=>exact hQ _ h' σ' m' K' ρ' w' h1 h2 h3
   | ret=>exact hQ _ h' σ' m' K' ρ' w' h1 h2 h3
   | panic i=>exact hQ _ h' σ' m' K' ρ' w' h1 h2 h3
   | outgrown=>exact hQ _ h' σ' m' K' ρ' w' h1 h2 h3
 | .region id ops draw=>fun R E fr hrd h σ k r m K ρ w Q hh hr hQ=>by
   change (bif !ops.toList.all bI then none else bif draw then au h σ fun h σ=>gB n ops.toList h σ fun h σ=>(match h with | .mix plan fin tail act r=>mW n ops plan fin tail act r σ (k .normal) | .tr t s act a b=>trS n ops t s act a b σ (k .normal) | _=>none) else au h σ fun h σ=>m7 J n ops h σ (k .normal))=some r at hh
   replace hh:=de hh; obtain ⟨hn,hh⟩:=hh
   have hn:ops.toList.all bI=true:=by simpa using hn
   cases draw with
   | false =>
     simp only [cond_false] at hh
     obtain ⟨h1,σ1,m1,K1,hh,g1,hr⟩:=aD h hh hr
     replace hQ:∀ e h' σ' m' K' ρ' w',Rel E fr σ' m' K' ρ' w'→Same σ1 σ'→k e h' σ'=some r→Q e (act1 n ρ') w':=fun e h' σ' m' K' ρ' w' q1 q2 q3=>hQ e h' σ' m' K' ρ' w' q1 (g1.trans q2) q3
     clear g1
     unfold m7 at hh
     split at hh
     . rename_i q h2
       have key:wpListIn (av E.rd) 0 P ops Q (ops.toList.take q++ops.toList.drop q) (act1 n ρ) w:=by
         have hn1:(ops.toList.take q).all bI=true:=List.all_eq_true.2 (fun x hx=>List.all_eq_true.1 hn x (List.mem_of_mem_take hx))
         have hn2:(ops.toList.drop q).all bI=true:=List.all_eq_true.2 (fun x hx=>List.all_eq_true.1 hn x (List.mem_of_mem_drop hx))
         refine la hn1 ?_
         have:=fS (ops:=ops) (Q:=fun e a w=>e = .normal∧wpListIn (av E.rd) 0 P ops Q (ops.toList.drop q) a w) (ops.toList.take q) 0 hh hr (fun h' σ' m' K' ρ' w' h1 h2 h3=>?_)
         . simpa using this
         . refine ⟨rfl,?_⟩
           split at h3
           . rename_i o rest hd
             rw [hd] at hn2 ⊢
             simp only [List.all_cons,Bool.and_eq_true] at hn2
             obtain ⟨dst,op,t,pos,af,gu⟩:=o
             obtain ⟨h4,σ4,s4,hr4,hg⟩:=fQ h3 h1
             rcases hg with ⟨hw,hg⟩ | ⟨hw,hg⟩
             . refine vH hJ hg hr4 hw (fun h'' σ'' m'' K'' ρ'' w'' g1 g2 g3=>?_)
               have:=fS (ops:=ops) (Q:=Q) rest 0 g3 g1 (fun h3 σ3 m3 K3 ρ3 w3 b1 b2 b3=>hQ _ h3 σ3 m3 K3 ρ3 w3 b1 (((h2.trans s4).trans g2).trans b2) b3)
               exact eO hn2.2 (by simpa using this)
             . unfold wpListIn
               rw [if_neg (by rw [hw]; exact Bool.false_ne_true)]
               refine ⟨fun _ _=>trivial,?_⟩
               cases dst with
               | none =>
                 have:=fS (ops:=ops) (Q:=Q) rest 0 hg hr4 (fun h3 σ3 m3 K3 ρ3 w3 b1 b2 b3=>hQ _ h3 σ3 m3 K3 ρ3 w3 b1 ((h2.trans s4).trans b2) b3)
                 exact eO hn2.2 (by rw [List.drop_zero] at this; exact this)
               | some d =>
                 show wpListIn _ _ _ _ _ _ ((act1 n ρ').put (some d) undef) _
                 rw [bB]
                 have:=fS (ops:=ops) (Q:=Q) rest 0 hg (hr4.set (d:=d) (sv := .raw undef) (v:=undef) rfl) (fun h3 σ3 m3 K3 ρ3 w3 b1 b2 b3=>hQ _ h3 σ3 m3 K3 ρ3 w3 b1 (((h2.trans s4).trans ⟨rfl,rfl⟩).trans b2) b3)
                 exact eO hn2.2 (by simpa using this)
           . cases h3
       rw [List.take_append_drop] at key
       have:=wpIn_region_lit (id:=id) (l:=ops.toList) (by simpa using key)
       simpa using this
     . have:=wpIn_region_lit (id:=id) (eO (r:=E.rd) (n:=0) hn (fS (Q:=Q) (ops:=ops.toList.toArray) ops.toList 0 (by simpa using hh) hr (fun h' σ' m' K' ρ' w' h1 h2 h3=>hQ _ h' σ' m' K' ρ' w' h1 h2 h3)))
       simpa using this
   | true =>
     simp only [cond_true] at hh
     obtain ⟨h1,σ1,m1,K1,hh,g1,hr⟩:=aD h hh hr
     obtain ⟨h2,σ2,m2,hh,g2,hr⟩:=p9 h1 hh hr
     replace hQ:∀ e h' σ' m' K' ρ' w',Rel E fr σ' m' K' ρ' w'→Same σ2 σ'→k e h' σ'=some r→Q e (act1 n ρ') w':=fun e h' σ' m' K' ρ' w' q1 q2 q3=>hQ e h' σ' m' K' ρ' w' q1 ((g1.trans g2).trans q2) q3
     clear g1 g2
     generalize K1=K at hr
     generalize m2=m at hr
     generalize σ2=σ at hr hh hQ
     split at hh
     . rename_i plan fin tail act' h0
       unfold mW at hh
       replace hh:=bC hh; obtain ⟨hm,hB,hh⟩:=hh
       have hB':iI .any ops.toList.toArray plan fin tail=true:=by simpa using hB
       have hfr:=(hr.frz act').drew
       have hplan:∀ s i,(s,i)∈plan→i < ops.toList.length:=by
         intro s i hi
         have h0:=hB
         unfold iI at h0
         simp only [Bool.and_eq_true] at h0
         obtain ⟨_,h1⟩:=h0
         split at h1
         . rename_i l1 hl1
           simpa using n4 plan _ _ hl1 s i hi
         . cases h1
       have key:=jH (l:=ops.toList) (Q:=Q) plan hh hfr rfl hplan (fun h' σ' m' K' ρ' w' h1 h2 h3=>by
         have hi:Inn σ fr ⟨m,K,ρ,fun _=>false,fr.F,fr.k0⟩ m K ρ (bz σ.H act') σ' []:=⟨rfl,rfl,rfl,rfl,rfl,h2.2,eR,fun _ _=>rfl⟩
         obtain ⟨z1,z2⟩:=mb hr hi h1
         have:=fS (ops:=ops.toList.toArray) (Q:=Q) (aQ ops.toList tail) 0 (by simpa using h3) z2 (fun h'' σ'' m'' K'' ρ'' w'' b1 b2 b3=>hQ .normal h'' σ'' m'' K'' ρ'' w'' b1 (z1.trans b2) b3)
         rwa [List.drop_zero] at this)
       have:=rX (id:=id) (Q:=Q) plan fin tail hm hB' _ hfr.cfz rfl rfl rfl key hn (r:=E.rd) (n:=0)
       simpa using this
     . rename_i t s act' a b
       unfold trS at hh
       replace hh:=bC hh; obtain ⟨hm,hB,hh⟩:=hh
       obtain ⟨x,hx,hh⟩:=ob hh
       have hfr:=(hr.frz act').drew
       have key:=jN (l:=ops.toList) (F:=fun a' w'=>ah P ops.toList.toArray Q (aQ ops.toList []) a' w') t hx hfr rfl (fun h' σ' m' K' ρ' w' h1 h2 h3=>by
         obtain ⟨h'',σ2,m2,K2,g1,g2,g3⟩:=aD h' h3 h1
         have hi:Inn σ fr ⟨m,K,ρ,fun _=>false,fr.F,fr.k0⟩ m K ρ (bz σ.H act') σ2 (s.sl.map (·.1)++ap ops.toList):=⟨rfl,rfl,rfl,rfl,rfl,(g2.2.trans h2.2),eR,fun _ _=>rfl⟩
         obtain ⟨σ3,m3,q1,q2,q3⟩:=jX hr hi g3 g1 hh
         exact hQ .normal b σ3 m3 K2 ρ' w' q3 q2 q1)
       have:=rQ (id:=id) (Q:=Q) t [] hm hB _ hfr.cfz rfl key hn (r:=E.rd) (n:=0)
       simpa using this
     . cases hh
 | .seq a b=>fun R E fr hrd h σ k r m K ρ w Q hh hr hQ=>by
   have plain:∀ h0,exec J n a h0 σ (fY k (fun h σ=>exec J n b h σ k))=some r→(Code.seq a b).wpIn (av E.rd) 0 P Q (act1 n ρ) w:=fun h0 hh =>
     wpIn_seq (bY hJ a R E fr hrd h0 σ _ r m K ρ w _ hh hr (oF (σ0:=σ) (fun h' σ' m' K' ρ' w' h1 h2 h3=>bY hJ b R E fr hrd h' σ' k r m' K' ρ' w' Q h3 h1 (fun e h'' σ'' m'' K'' ρ'' w'' q1 q2 q3=>hQ e h'' σ'' m'' K'' ρ'' w'' q1 (h2.trans q2) q3)) hQ))
   cases h with
   | sq mk s act ha hb =>
     have hh:(match Zt.mcs mk σ with | some σ=>f6 (fun h σ R k=>exec J n a h σ k) s act (s.sl.map (·.1)++bD a) ha hb σ (fun h σ=>exec J n b h σ k) | none=>none)=some r:=hh
     split at hh
     . rename_i σ1 hm
       obtain ⟨m1,k1,k2⟩:=ia hm hr
       refine wpIn_seq (o5 (bY hJ a) hrd hh k2 (fun h' σ' m' K' ρ' w' h1 h2 h3=>?_))
       exact bY hJ b R E fr hrd h' σ' k r m' K' ρ' w' Q h3 h1 (fun e h'' σ'' m'' K'' ρ'' w'' q1 q2 q3=>hQ e h'' σ'' m'' K'' ρ'' w'' q1 ((k1.trans h2).trans q2) q3)
     . cases hh
   | sx mk s act ha hb =>
     have hh:(match Zt.mcs mk σ with | some σ=>fZ (fun h σ R k=>exec J n a h σ k) s act (s.sl.map (·.1)++bD a) ha hb σ (fY k (fun h σ=>exec J n b h σ k)) | none=>none)=some r:=hh
     split at hh
     . rename_i σ1 hm
       obtain ⟨m1,k1,k2⟩:=ia hm hr
       refine wpIn_seq (pn (bY hJ a) hrd hh k2 ?_)
       exact oF (σ0:=σ1) (fun h' σ' m' K' ρ' w' h1 h2 h3=>bY hJ b R E fr hrd h' σ' k r m' K' ρ' w' Q h3 h1 (fun e h'' σ'' m'' K'' ρ'' w'' q1 q2 q3=>hQ e h'' σ'' m'' K'' ρ'' w'' q1 ((k1.trans h2).trans q2) q3)) (fun e h' σ' m' K' ρ' w' q1 q2 q3=>hQ e h' σ' m' K' ρ' w' q1 (k1.trans q2) q3)
     . cases hh
   | pl h=>exact plain h hh
   | nil=>exact plain _ hh
   | two _ _ _=>exact plain _ hh
   | tw _ _ _=>exact plain _ hh
   | jn _ _ _ _ _=>exact plain _ hh
   | jx _ _ _ _ _=>exact plain _ hh
   | lp _ _=>exact plain _ hh
   | un _ _=>exact plain _ hh
   | per _ _ _=>exact plain _ hh
   | perb _ _ _ _=>exact plain _ hh
   | mc _ _ _ _=>exact plain _ hh
   | ms _ _=>exact plain _ hh
   | wt _ _=>exact plain _ hh
   | cl _ _ _=>exact plain _ hh
   | c2 _ _ _ _=>exact plain _ hh
   | gp _ _=>exact plain _ hh
   | gj _ _ _ _ _=>exact plain _ hh
   | mix _ _ _ _ _=>exact plain _ hh
   | opn _ _ _=>exact plain _ hh
   | opb _ _ _=>exact plain _ hh
   | cls _ _ _=>exact plain _ hh
   | opp _ _ _ _=>exact plain _ hh
   | ot _ _=>exact plain _ hh
   | cm _ _ _ _=>exact plain _ hh
   | cm2 _ _ _ _ _=>exact plain _ hh
   | tr _ _ _ _ _=>exact plain _ hh
   | tru _=>exact plain _ hh
   | yl _ _=>exact plain _ hh
   | rg _ _=>exact plain _ hh
 | .cond c x y=>fun R E fr hrd h σ k r m K ρ w Q hh hr hQ=>by
   obtain ⟨h1,σ1,m1,K1,g1,g2,g3⟩:=aD h (show au h σ (fun h σ=>mJ c (σ.evr n c) h σ (fun h σ=>exec J n x h σ k) (fun h σ=>exec J n y h σ k))=some r from hh) hr
   have hv:=g3.toPur.evr n c
   have goX:∀ h2 σ2,Rel E fr σ2 m1 K1 ρ w→Same σ σ2→exec J n x h2 σ2 k=some r→x.wpIn (av E.rd) 0 P Q (act1 n ρ) w:=fun h2 σ2 q1 q2 q3 =>
     bY hJ x R E fr hrd h2 σ2 k r m1 K1 ρ w Q q3 q1 (fun e h'' σ'' m'' K'' ρ'' w'' p1 p2 p3=>hQ e h'' σ'' m'' K'' ρ'' w'' p1 (q2.trans p2) p3)
   have goY:∀ h2 σ2,Rel E fr σ2 m1 K1 ρ w→Same σ σ2→exec J n y h2 σ2 k=some r→y.wpIn (av E.rd) 0 P Q (act1 n ρ) w:=fun h2 σ2 q1 q2 q3 =>
     bY hJ y R E fr hrd h2 σ2 k r m1 K1 ρ w Q q3 q1 (fun e h'' σ'' m'' K'' ρ'' w'' p1 p2 p3=>hQ e h'' σ'' m'' K'' ρ'' w'' p1 (q2.trans p2) p3)
   have slot:∀ (d:Nat) (sv:SV),c = .tmp d→σ1.evr n c=sv→sv ≠ .any→σ1.get d=sv:=fun d sv hc he hne=>by
     subst hc
     cases hh:Nat.blt d n with
     | false =>
       have:σ1.evr n (.tmp d) = .any:=by show (bif Nat.blt d n then σ1.get d else .any)=_; rw [hh]; rfl
       rw [this] at he; exact absurd he.symm hne
     | true =>
       have:σ1.evr n (.tmp d)=σ1.get d:=by show (bif Nat.blt d n then σ1.get d else .any)=_; rw [hh]; rfl
       rw [← this]; exact he
   unfold mJ at g1
   split at g1
   . rename_i jm w0 e
     rw [e] at hv
     obtain ⟨hj,hv⟩:=hv
     split at g1
     . rename_i t
       have hb:ev n ρ c = .bool t:=hv
       rw [hb] at hj
       refine wpIn_cond_split (t:=t) (by rw [bM]; exact hb) (fun ht=>?_) (fun ht=>?_)
       . subst ht
         split at g1
         . exact goX _ _ (g3.fix (v := .bool true) hj rfl) (g2.trans ⟨rfl,rfl⟩) g1
         . exact goX _ σ1 g3 g2 g1
         . exact goX _ σ1 g3 g2 g1
       . subst ht
         split at g1
         . exact goY _ _ (g3.fix (v := .bool false) hj rfl) (g2.trans ⟨rfl,rfl⟩) g1
         . exact goY _ σ1 g3 g2 g1
         . exact goY _ σ1 g3 g2 g1
     . cases g1
   . rename_i t e
     rw [e] at hv
     have hb:ev n ρ c = .bool t:=hv
     refine wpIn_cond_split (t:=t) (by rw [bM]; exact hb) (fun ht=>?_) (fun ht=>?_)
     . subst ht
       split at g1
       . rename_i ha hbn d _
         have hg:=slot d _ rfl e nofun
         exact goX ha _ (g3.ref (fun _ _ u hu=>by rw [hg] at hu; exact hu) (by rw [hg]; nofun)) (g2.trans ⟨rfl,fj.2⟩) g1
       . exact goX _ σ1 g3 g2 g1
       . exact goX _ σ1 g3 g2 g1
     . subst ht
       split at g1
       . rename_i ha hbn d _
         have hg:=slot d _ rfl e nofun
         exact goY hbn _ (g3.ref (fun _ _ u hu=>by rw [hg] at hu; exact hu) (by rw [hg]; nofun)) (g2.trans ⟨rfl,fj.2⟩) g1
       . exact goY _ σ1 g3 g2 g1
       . exact goY _ σ1 g3 g2 g1
   . rename_i tp l ng e
     rw [e] at hv
     obtain ⟨q,hb,hl⟩:=hv
     refine wpIn_cond_split (t:=q ^^ ng) (by rw [bM]; exact hb) (fun ht=>?_) (fun ht=>?_)
     . split at g1
       . rename_i ha hbn _
         cases ng with
         | true =>
           rw [Bool.xor_true] at ht
           simp only [cond_true] at g1
           exact goX ha _ g3 g2 (oE g1)
         | false =>
           rw [Bool.xor_false] at ht
           simp only [cond_false] at g1
           exact goX ha _ g3 g2 (pF (hl ht) g1)
       . cases g1
     . split at g1
       . rename_i ha hbn _
         cases ng with
         | true =>
           rw [Bool.xor_true] at ht
           simp only [cond_true] at g1
           exact goY hbn _ g3 g2 (pF (hl (by simpa using ht)) g1)
         | false =>
           rw [Bool.xor_false] at ht
           simp only [cond_false] at g1
           exact goY hbn _ g3 g2 (oE g1)
       . cases g1
   . cases g1
 | .block id b=>fun R E fr hrd h σ k r m K ρ w Q hh hr hQ=>by
   have blk:∀ {R:Type} {k:Exit→Hn P→Zt→Option R} {r:R} {Q:Exit→Act→World→Prop} {fr:Frz} {σ:Zt},(∀ e h' σ' m' K' ρ' w',Rel E fr σ' m' K' ρ' w'→Same σ σ'→k e h' σ'=some r→Q e (act1 n ρ') w') →
       ∀ e h' σ' m' K' ρ' w',Rel E fr σ' m' K' ρ' w'→Same σ σ'→d9 id k e h' σ'=some r→Exit.inBlock id Q e (act1 n ρ') w':=by
     intro R k r Q fr σ hQ e h' σ' m' K' ρ' w' h1 h2 h3
     cases e with
     | exit i =>
       change (bif Nat.beq i id then k .normal h' σ' else k (.exit i) h' σ')=some r at h3
       show if i=id then _ else _
       cases hb:Nat.beq i id with
       | true =>
         rw [hb] at h3
         rw [if_pos (Nat.eq_of_beq_eq_true hb)]
         exact hQ _ h' σ' m' K' ρ' w' h1 h2 h3
       | false =>
         rw [hb] at h3
         rw [if_neg (fun e=>by rw [e,Nat.beq_refl] at hb; cases hb)]
         exact hQ _ h' σ' m' K' ρ' w' h1 h2 h3
     | normal=>exact hQ _ h' σ' m' K' ρ' w' h1 h2 h3
     | goto l=>exact hQ _ h' σ' m' K' ρ' w' h1 h2 h3
     | ret=>exact hQ _ h' σ' m' K' ρ' w' h1 h2 h3
     | panic i=>exact hQ _ h' σ' m' K' ρ' w' h1 h2 h3
     | outgrown=>exact hQ _ h' σ' m' K' ρ' w' h1 h2 h3
   have fb:Fok P n (.block id b) (fun h σ R k=>exec J n b h σ (d9 id k)):=fun R E fr hrd h σ k r m K ρ w Q hh hr hQ=>by
     refine wpIn_block (bY hJ b R E fr hrd h σ _ r m K ρ w _ hh hr ?_)
     intro e h' σ' m' K' ρ' w' h1 h2 h3
     cases e with
     | exit i =>
       change (bif Nat.beq i id then k .normal h' σ' else k (.exit i) h' σ')=some r at h3
       show if i=id then _ else _
       cases hb:Nat.beq i id with
       | true =>
         rw [hb] at h3
         rw [if_pos (Nat.eq_of_beq_eq_true hb)]
         exact hQ _ h' σ' m' K' ρ' w' h1 h2 h3
       | false =>
         rw [hb] at h3
         rw [if_neg (fun e=>by rw [e,Nat.beq_refl] at hb; cases hb)]
         exact hQ _ h' σ' m' K' ρ' w' h1 h2 h3
     | normal=>exact hQ _ h' σ' m' K' ρ' w' h1 h2 h3
     | goto l=>exact hQ _ h' σ' m' K' ρ' w' h1 h2 h3
     | ret=>exact hQ _ h' σ' m' K' ρ' w' h1 h2 h3
     | panic i=>exact hQ _ h' σ' m' K' ρ' w' h1 h2 h3
     | outgrown=>exact hQ _ h' σ' m' K' ρ' w' h1 h2 h3
   have plain:∀ h0,exec J n b h0 σ (d9 id k)=some r→(Code.block id b).wpIn (av E.rd) 0 P Q (act1 n ρ) w:=fun h0 hh=>fb R E fr hrd h0 σ k r m K ρ w Q hh hr hQ
   cases h with
   | jn mk s act ha hb =>
     have hh:(match Zt.mcs mk σ with | some σ=>f6 (fun h σ R k=>exec J n b h σ (d9 id k)) s act (s.sl.map (·.1)++bD b) ha hb σ (k .normal) | none=>none)=some r:=hh
     split at hh
     . rename_i σ1 hm
       obtain ⟨m1,k1,k2⟩:=ia hm hr
       exact o5 fb hrd hh k2 (fun h' σ' m' K' ρ' w' h1 h2 h3=>hQ _ h' σ' m' K' ρ' w' h1 (k1.trans h2) h3)
     . cases hh
   | jx mk s act ha hb =>
     have hh:(match Zt.mcs mk σ with | some σ=>fZ (fun h σ R k=>exec J n b h σ (d9 id k)) s act (s.sl.map (·.1)++bD b) ha hb σ k | none=>none)=some r:=hh
     split at hh
     . rename_i σ1 hm
       obtain ⟨m1,k1,k2⟩:=ia hm hr
       exact pn fb hrd hh k2 (fun e h' σ' m' K' ρ' w' q1 q2 q3=>hQ e h' σ' m' K' ρ' w' q1 (k1.trans q2) q3)
     . cases hh
   | pl h=>exact plain _ hh
   | nil=>exact plain _ hh
   | two _ _ _=>exact plain _ hh
   | tw _ _ _=>exact plain _ hh
   | sq _ _ _ _ _=>exact plain _ hh
   | sx _ _ _ _ _=>exact plain _ hh
   | lp _ _=>exact plain _ hh
   | un _ _=>exact plain _ hh
   | per _ _ _=>exact plain _ hh
   | perb _ _ _ _=>exact plain _ hh
   | mc _ _ _ _=>exact plain _ hh
   | ms _ _=>exact plain _ hh
   | wt _ _=>exact plain _ hh
   | cl _ _ _=>exact plain _ hh
   | c2 _ _ _ _=>exact plain _ hh
   | gp _ _=>exact plain _ hh
   | gj _ _ _ _ _=>exact plain _ hh
   | mix _ _ _ _ _=>exact plain _ hh
   | opn _ _ _=>exact plain _ hh
   | opb _ _ _=>exact plain _ hh
   | cls _ _ _=>exact plain _ hh
   | opp _ _ _ _=>exact plain _ hh
   | ot _ _=>exact plain _ hh
   | cm _ _ _ _=>exact plain _ hh
   | cm2 _ _ _ _ _=>exact plain _ hh
   | tr _ _ _ _ _=>exact plain _ hh
   | tru _=>exact plain _ hh
   | yl _ _=>exact plain _ hh
   | rg _ _=>exact plain _ hh
 | .loop b=>fun R E fr hrd h σ k r m K ρ w Q hh hr hQ=>by
   obtain ⟨h1,σ1,m1,K1,g1,g2,g3⟩:=aD h (show au h σ (fun h σ=>match h with
     | .un m r=>im (fun h σ k=>exec J n b h σ k) k m r σ
     | .lp s ha=>kv (fun h σ R k=>exec J n b h σ k) s (s.sl.map (·.1)++bD b) ha σ k
     | _=>none)=some r from hh) hr
   have hQ':∀ e h' σ' m' K' ρ' w',Rel E fr σ' m' K' ρ' w'→Same σ1 σ'→k e h' σ'=some r→Q e (act1 n ρ') w':=fun e h'' σ'' m'' K'' ρ'' w'' p1 p2 p3=>hQ e h'' σ'' m'' K'' ρ'' w'' p1 (g2.trans p2) p3
   split at g1
   . exact wpIn_loop_rounds _ (oD (bY hJ b) hrd hQ' _ g1 g3 Same.rfl')
   . exact um (bY hJ b) hrd g1 g3 hQ'
   . cases g1
 | .rangeFunc g ps ao bo=>fun R E fr hrd h σ k r m K ρ w Q hh hr hQ=>by
   obtain ⟨h1,σ1,m1,K1,g1,g2,g3⟩:=aD h (show au h σ (fun h σ=>kz J n g ps ao bo h σ k)=some r from hh) hr
   exact tZ hJ hrd g1 g3 (fun e h'' σ'' m'' K'' ρ'' w'' p1 p2 p3=>hQ e h'' σ'' m'' K'' ρ'' w'' p1 (g2.trans p2) p3)
 | .goto l=>fun R E fr hrd h σ k r m K ρ w Q hh hr hQ=>by cases hh
 | .refuse s=>fun R E fr hrd h σ k r m K ρ w Q hh hr hQ=>by cases hh
theorem oZ:∀ d:Nat,JOk (mI (P:=P) d)
 | 0=>fun n c R E fr hrd h σ k r m K ρ w Q hh hr hQ=>by cases hh
 | d + 1=>fun n c=>bY (oZ d) c
end
end
section
variable [BldA]
def dd (P:Program) (n:Nat) (σ:Zt):List ResultVar→Option (List SV)
 | []=>some []
 | .tmp t :: r=>(match dd P n σ r with | some vs=>some (σ.ev n (.tmp t) :: vs) | none=>none)
 | .cell a ty :: r=>(match σ.ev n (.tmp a) with
   | .ptr i o=>(match aH (HA.blkR i) (σ.H++σ.Hf) with
     | some q=>(match ldv P ty q.cs o,dd P n σ r with | some v,some vs=>some (v :: vs) | _,_=>none)
     | none=>none)
   | _=>none)
def q8:List SV→SV
 | [v]=>v
 | vs => .tup vs
def eE (σ:Zt) (rs:List SV) (o:Sh):Option (TL o.ts):=bif (match rs,o.sl with | [],[]=>true | _ :: _,[p]=>Nat.beq p.1 0 | _,_=>false) then (match o.get (fun _=>q8 rs) σ.H with | some g=>TL.of o.ts g.ds | none=>none) else none
def kK {P:Program} (σ:Zt) (rs:List SV):(os:List Sh)→Hn P→Option (ci os)
 | [a],_=>eE σ rs a
 | [a,b],h=>(match h with | .pl _=>(eE σ rs b).map Sum.inr | _=>(eE σ rs a).map Sum.inl)
 | _,_=>none
def kF {P:Program} (n:Nat) (fn:Func) (os:List Sh) (h:Hn P) (σ:Zt):Option (ci os):=au h σ fun h σ=>match dd P n σ fn.results.toList with | some rs=>kK σ rs os h | none=>none
def fin {P:Program} (n:Nat) (fn:Func) (os:List Sh) (e:Exit) (h:Hn P) (σ:Zt):Option (ci os):=match e with
 | .normal=>kF n fn os h σ
 | .ret=>kF n fn os h σ
 | _=>none
def nf {P:Program} (n:Nat) (fn:Func) (c:Code) (inn:Sh) (os:List Sh) (h:Hn P) (x:TL inn.ts):Option (ci os):=match inn.un (TL.list inn.ts x) 0 with
 | some (vs,u)=>au h ⟨fun _ => .any,vs,u.H,[],u.nx,false⟩ fun h σ=>exec (mI 4) n c h σ (fin n fn os)
 | none=>none
section
variable {P:Program} {E:En} {n:Nat} {m:List M} {K:Hp} {fr:Frz} {σ:Zt} {ρ:Sl1} {w:World}
theorem lW (hr:Rel E fr σ m K ρ w):∀ {l:List ResultVar} {rs:List SV},dd P n σ l=some rs→∃ us:List Value,SV.relL m K rs us∧l.length=us.length∧∀ (j:Nat) (r:ResultVar) (v:Value),l[j]? = some r→us[j]? = some v→iF P n (Hold E K (σ.atoms fr m)) ρ r v
 | [],rs,h=>by cases h; exact ⟨[],rfl,rfl,fun j r v h=>by simp at h⟩
 | .tmp t :: l,rs,h=>by
   unfold dd at h
   split at h
   . rename_i vs hvs
     cases h
     obtain ⟨us,h1,h2,h3⟩:=lW hr hvs
     refine ⟨ev n ρ (.tmp t) :: us,⟨_,us,rfl,hr.toPur.ev n (.tmp t),h1⟩,by simp [h2],fun j r v hj hv=>?_⟩
     cases j with
     | zero=>simp at hj hv; subst hj hv; rfl
     | succ j=>exact h3 j r v (by simpa using hj) (by simpa using hv)
   . cases h
 | .cell a ty :: l,rs,h=>by
   unfold dd at h
   split at h
   . rename_i i o e
     split at h
     . rename_i q hq
       split at h
       . rename_i v vs hv hvs
         cases h
         obtain ⟨us,h1,h2,h3⟩:=lW hr hvs
         obtain ⟨x,hx,hmem⟩:=ba hq
         obtain rfl:=cx hx
         obtain ⟨b,ws,g1,g2,g3⟩:=hr.cls.blk hmem
         obtain ⟨u,g4,g5⟩:=ic (P:=P) (o0:=0) hv g2 (fun j u hu=>by rw [Nat.zero_add]; exact g3 j u hu)
         rw [Nat.zero_add] at g4
         have hev:=hr.toPur.ev n (.tmp a)
         rw [e] at hev
         obtain ⟨b',q1,q2⟩:=hev
         rw [g1] at q1; cases q1
         refine ⟨u :: us,⟨_,us,rfl,g5,h1⟩,by simp [h2],fun j r v hj hv=>?_⟩
         cases j with
         | zero=>simp at hj hv; subst hj hv; exact ⟨b,o,q2,g4⟩
         | succ j=>exact h3 j r v (by simpa using hj) (by simpa using hv)
       . cases h
     . cases h
   . cases h
theorem pr {C:World→Prop} {w:World} (hw:C w):∀ {l:List ResultVar} {us:List Value},l.length=us.length→(∀ (j:Nat) (r:ResultVar) (v:Value),l[j]? = some r→us[j]? = some v→iF P n C ρ r v)→(l.mapM (rvS (frm n ρ))).run P w = .ok us w
 | [],us,h,_=>by
   obtain rfl:us=[]:=List.length_eq_zero_iff.1 h.symm
   simp
 | r :: l,us,h,hr=>by
   cases us with
   | nil=>cases h
   | cons u us =>
     have h1:=qC (hr 0 r u rfl rfl) hw
     have h2:=pr hw (l:=l) (us:=us) (by simpa using h) (fun j r v hj hv=>hr (j + 1) r v (by simpa using hj) (by simpa using hv))
     simp [List.mapM_cons,h1,h2]
def iD:List Value→Value
 | [v]=>v
 | vs => .tuple vs.toArray
theorem uT {C:World→Prop} {w:World} (hw:C w) {fn:Func} {us:List Value} (hl:fn.results.toList.length=us.length) (h:∀ (j:Nat) (r:ResultVar) (v:Value),fn.results.toList[j]? = some r→us[j]? = some v→iF P n C ρ r v):(results fn (frm n ρ)).run P w = .ok (iD us) w:=by
 have h1:=pr hw hl h
 rw [nU]
 simp only [Array.mapM_eq_mapM_toList]
 simp only [Sem.run_bind,Sem.run_map,h1,Result.andThen_ok,Sem.run_pure]
 match us with
 | []=>rfl
 | [u]=>rfl
 | u :: v :: r =>
   rw [dif_neg (by simp)]
   rfl
theorem uC {rs:List SV} {us:List Value} (h:SV.relL m K rs us) (hne:rs≠[]):SV.rel m K (q8 rs) (iD us):=by
 match rs,us,h with
 | [],_,_=>exact absurd rfl hne
 | [v],us,h =>
   obtain ⟨u,q,rfl,h1,h2⟩:=ay h
   obtain rfl:=aI h2
   exact h1
 | v :: v2 :: r,us,h =>
   obtain ⟨u,q,rfl,h1,h2⟩:=ay h
   obtain ⟨u2,q2,rfl,h3,h4⟩:=ay h2
   exact ⟨_,rfl,u,_,rfl,h1,u2,q2,rfl,h3,h4⟩
theorem mg {rs:List SV} {us:List Value} {o:Sh} {x:TL o.ts} {K0:Hp} {m0:List M} (h:eE σ rs o=some x) (hr:Rel E fr σ m K ρ w) (hrel:SV.relL m K rs us) (hm:m0 <+: m) (ho:bf o.bl m0.length=true) (hF:σ.Hf=[]) :
   ∃ vs' u' m',o.un (TL.list o.ts x) m0.length=some (vs',u')∧m0 <+: m'∧m'.length=u'.nx∧(∀ a∈u'.H,HA.ok m' K a)∧gh m' K vs' (iD us)∧Sep E K (u'.H.map (HA.conc m')++fr.F) w:=by
 unfold eE at h
 replace h:=ae h; obtain ⟨hs,h⟩:=h
 split at h
 . rename_i g hg
   obtain ⟨vs,u,ms,e1,e2,e3,e4,e5,e6,e7,e8⟩:=Sh.get_un hg hr.okH hm ho
   rw [TL.of_list h]
   refine ⟨vs,u,m0++ms,e1,ar _ _,e2,e4,?_,?_⟩
   . split at hs
     . rename_i hsl
       rw [hsl] at e3
       obtain rfl:vs=[]:=e3
       obtain rfl:=aI hrel
       rfl
     . rename_i v r p hsl
       rw [hsl] at e3
       obtain ⟨sv,q,rfl,g1,g2⟩:=e3
       obtain rfl:q=[]:=g2
       exact g1 _ (uC hrel (by simp))
     . cases hs
   . have:=e6 E _ w hr.toSep
     have h2:σ.fz fr=fr.F:=by unfold Zt.fz; rw [hF]; rfl
     rw [h2] at this
     have h3:Sep E K (g.H.map (HA.conc m)++(u.H.map (HA.conc (m0++ms))++fr.F)) w:=Sep.perm (f9 _ _ _) this
     exact Sep.drops h3
 . cases h
theorem u9 {rs:List SV} {us:List Value} {m0:List M} (hr:Rel E fr σ m K ρ w) (hrel:SV.relL m K rs us) (hm:m0 <+: m) (hF:σ.Hf=[]):∀ {os:List Sh} {h0:Hn P} {r:ci os},(∀ o∈os,bf o.bl m0.length=true)→kK σ rs os h0=some r →
   ∃ vs' u' m',(cQ os r).1.un (cQ os r).2 m0.length=some (vs',u')∧m0 <+: m'∧m'.length=u'.nx∧(∀ a∈u'.H,HA.ok m' K a)∧gh m' K vs' (iD us)∧Sep E K (u'.H.map (HA.conc m')++fr.F) w
 | [],h0,r,_,h=>Empty.elim r
 | [a],h0,r,ho,h=>mg (K0:=K) (show eE σ rs a=some r from h) hr hrel hm (ho a (by simp)) hF
 | [a,b],h0,r,ho,h=>by
   have key:(eE σ rs b).map Sum.inr=some r∨(eE σ rs a).map Sum.inl=some r:=by
     cases h0 <;> first | exact .inl h | exact .inr h
   clear h
   rcases key with h | h
   . rw [Option.map_eq_some_iff] at h
     obtain ⟨x,h,rfl⟩:=h
     exact mg (K0:=K) h hr hrel hm (ho b (by simp)) hF
   . rw [Option.map_eq_some_iff] at h
     obtain ⟨x,h,rfl⟩:=h
     exact mg (K0:=K) h hr hrel hm (ho a (by simp)) hF
 | a :: b :: c :: os,h0,r,_,h=>by cases h
theorem oS:∀ {sl:List (Nat×Kd)} {vs:List (Nat×SV)} {us:List Value} {j N:Nat},slN j sl N=true→vs.map (·.1)=sl.map (·.1)→slR m K vs us→∀ i sv,ak vs i=some sv→∃ k u,i=j + k∧us[k]? = some u∧SV.rel m K sv u
 | [],vs,us,j,N,h1,h2,h3,i,sv,hl=>by
   have:vs=[]:=by cases vs with | nil=>rfl | cons a b=>cases h2
   subst this; cases hl
 | p :: sl,vs,us,j,N,h1,h2,h3,i,sv,hl=>by
   cases vs with
   | nil=>cases h2
   | cons q vs =>
     simp only [List.map_cons,List.cons.injEq] at h2
     simp only [slN,Bool.and_eq_true] at h1
     have hj:=Nat.eq_of_beq_eq_true h1.1
     obtain ⟨u,r,rfl,g1,g2⟩:=h3
     change (bif Nat.beq q.1 i then some q.2 else ak vs i)=some sv at hl
     cases hb:Nat.beq q.1 i with
     | true =>
       rw [hb] at hl; cases hl
       have:=Nat.eq_of_beq_eq_true hb
       exact ⟨0,u,by rw [← this,h2.1,hj]; rfl,rfl,g1⟩
     | false =>
       rw [hb] at hl
       obtain ⟨k,u',e1,e2,e3⟩:=oS h1.2 h2.2 g2 i sv hl
       exact ⟨k + 1,u',by omega,by simpa using e2,e3⟩
theorem po {bi:List Nat}:∀ {sl:List (Nat×Kd)} {u u':Un} {vs:List (Nat×SV)},unS bi sl u=some (vs,u')→vs.map (·.1)=sl.map (·.1)
 | [],u,u',vs,h=>by cases h; rfl
 | p :: sl,u,u',vs,h=>by
   unfold unS at h
   split at h
   . split at h
     . rename_i h2
       cases h
       simp [po h2]
     . cases h
   . cases h
theorem uV {s:Sh} {ds:List Dat} {nx:Nat} {vs:List (Nat×SV)} {u:Un} (h:s.un ds nx=some (vs,u)):vs.map (·.1)=s.sl.map (·.1):=by
 unfold Sh.un at h
 replace h:=(ae h).2
 split at h
 split at h
 . rename_i h1
   split at h
   . cases h; exact po h1
   . cases h
 . cases h
theorem qa:∀ {vs:List (Nat×SV)} {us:List Value},slR m K vs us→us.length=vs.length
 | [],us,h=>by obtain rfl:us=[]:=h; rfl
 | p :: vs,us,⟨u,r,e,_,h⟩=>by subst e; simp [qa h]
end
section
variable {P:Program} {E:En} {n:Nat} {m:List M} {K:Hp} {fr:Frz} {σ:Zt} {ρ:Sl1} {w:World}
theorem mh {b:Bool}:∀ l:List ResultVar,dd P n ⟨σ.base,σ.top,σ.H,σ.Hf,σ.nx,b⟩ l=dd P n σ l
 | []=>rfl
 | .tmp t :: r=>by unfold dd; rw [mh r]; rfl
 | .cell a ty :: r=>by unfold dd; rw [mh r]; rfl
theorem uN {b:Bool} {rs:List SV}:∀ {os:List Sh} {h:Hn P},kK ⟨σ.base,σ.top,σ.H,σ.Hf,σ.nx,b⟩ rs os h=kK σ rs os h
 | [],h=>rfl
 | [a],h=>rfl
 | [a,b],h=>by cases h <;> rfl
 | a :: b :: c :: os,h=>rfl
end
section
variable {P:Program} {n:Nat}
theorem wx {s:Spec} {fn:Func} {c:Code} (hf:P.funcs[s.f]? = some fn) (hb:fn.body=some c) (hn:fn.ntmps=n) (h:Hn P) (hc:(slN 0 s.inn.sl s.inn.sl.length&&Nat.ble s.inn.sl.length n)=true) (hold:∀ ds vs u,s.inn.un ds 0=some (vs,u)→∀ o∈s.outs,bf o.bl u.nx=true)
   (hex:∀ (x:TL s.inn.ts) r,s.fn x=some r→nf n fn c s.inn s.outs h x=some r):cd P s:=by
 intro x r hx vs u hu m K args hgk hm hok hsl E w F hs
 rw [Bool.and_eq_true] at hc
 obtain ⟨hc1,hc2⟩:=hc
 have hkeys:=uV hu
 have hlen:args.toArray.size≤n:=by
   have h1:=qa hsl
   have h2:vs.length=s.inn.sl.length:=by have:=congrArg List.length hkeys; simpa using this
   simp only [List.size_toArray]
   have:=Nat.le_of_ble_eq_true hc2
   omega
 refine callsIn_wide.1 (callsIn_of_wp_marks (F:=Fence.wide) (n:=0) hf hb trivial ?_)
 rw [hn,lO hlen]
 have hrun:=hex x r hx
 unfold nf at hrun
 rw [hu] at hrun
 simp only at hrun
 have hrel:Rel E.out0 ⟨m,K,dF args.toArray,fun _=>false,F,K⟩ ⟨fun _ => .any,vs,u.H,[],u.nx,false⟩ m K (dF args.toArray) w:=by
   refine ⟨⟨List.prefix_refl m,Hp.le_refl K,hm,fun e=>(by cases e),fun i=>trivial,fun i e=>rfl,fun i _ => .inr rfl,fun i sv hi=>?_,hok,fun a ha=>by simp at ha,MOk.nil hgk (Hp.le_refl K)⟩,?_⟩
   . obtain ⟨k,v,e1,e2,e3⟩:=oS hc1 hkeys hsl i sv hi
     have:dF args.toArray i=v:=by
       show eh args.toArray i=v
       unfold eh
       rw [e1,Nat.zero_add]
       simp [e2]
     rw [this]; exact e3
   . exact hs.out0
 obtain ⟨hp,σp,mp,Kp,p1,p2,p3⟩:=aD h hrun hrel
 refine bY (oZ 4) c (ci s.outs) E.out0 ⟨m,K,dF args.toArray,fun _=>false,F,K⟩ (fun l e=>by cases e) hp σp (fin n fn s.outs) r mp Kp _ w _ p1 p3 (fun e h' σ' m' K' ρ' w' h1 h2 h3=>?_)
 have fini:kF n fn s.outs h' σ'=some r→LeavesInM Fence.wide 0 P fn (act1 n ρ').tmps (fun e w'=>∃ v K' L',e = .returned v∧(∃ vs' u' m',(cQ s.outs r).1.un (cQ s.outs r).2 u.nx=some (vs',u')∧m <+: m'∧m'.length=u'.nx∧(∀ a∈u'.H,HA.ok m' K' a)∧gh m' K' vs' v∧L'=u'.H.map (HA.conc m'))∧K.le K'∧Sep E K' (L'++F) w') (act1 n ρ').defers .returning w':=fun h3=>by
   unfold kF at h3
   obtain ⟨h'',σ2,m2,K2,g1,g2,g3⟩:=aD h' h3 h1
   split at g1
   . rename_i rs hrs
     refine lg ρ'.ds g3.mks g3.toSep (fun K3 w3 c1 c2 c3=>?_)
     have g4:=g3.unmark c1 c2 c2 c3
     rw [← mh (b:=false)] at hrs
     rw [← uN (b:=false)] at g1
     obtain ⟨us,q1,q2,q3⟩:=lW g4 hrs
     refine ⟨iD us,uT (ρ:=(⟨ρ'.f,[]⟩:Sl1)) g4.hold q2 q3,?_⟩
     obtain ⟨vs',u',m'',z1,z2,z3,z4,z5,z6⟩:=u9 (m0:=m) g4 q1 g4.hm (((p2.trans h2).trans g2).2) (fun o ho=>by rw [hm]; exact hold _ _ _ hu o ho) g1
     rw [hm] at z1
     exact ⟨_,K3,_,rfl,⟨vs',u',m'',z1,z2,z3,z4,z5,rfl⟩,g4.hK,z6.back⟩
   . cases g1
 cases e with
 | normal=>exact fini h3
 | ret=>exact fini h3
 | _=>cases h3
end
end
section
variable [BldA]
mutual
theorem kr {bi:List Nat}:∀ (k:Kd) {u u':Un} {v:SV},Kd.un bi k u=some (v,u')→u.nx≤u'.nx
 | .any,u,u',v,h=>by cases h; exact Nat.le_refl _
 | .dat t,u,u',v,h=>by unfold Kd.un at h; split at h <;> cases h; exact Nat.le_refl _
 | .nilp,u,u',v,h=>by cases h; exact Nat.le_refl _
 | .nils,u,u',v,h=>by cases h; exact Nat.le_refl _
 | .nilf,u,u',v,h=>by cases h; exact Nat.le_refl _
 | .ptr j o,u,u',v,h=>by unfold Kd.un at h; split at h <;> cases h; exact Nat.le_refl _
 | .own e t,u,u',v,h=>by unfold Kd.un at h; split at h <;> cases h; exact Nat.le_add_right _ _
 | .al j,u,u',v,h=>by unfold Kd.un at h; split at h <;> cases h; exact Nat.le_refl _
 | .fsl j m,u,u',v,h=>by unfold Kd.un at h; split at h <;> cases h; exact Nat.le_refl _
 | .agg ks,u,u',v,h=>by
   unfold Kd.un at h; split at h
   . cases h; exact ig ks (by assumption)
   . cases h
 | .tup ks,u,u',v,h=>by
   unfold Kd.un at h; split at h
   . cases h; exact ig ks (by assumption)
   . cases h
 | .fn f ks,u,u',v,h=>by
   unfold Kd.un at h; split at h
   . cases h; exact ig ks (by assumption)
   . cases h
 | .kat t o,u,u',v,h=>by
   unfold Kd.un at h; split at h
   . split at h
     . cases h; exact Nat.le_refl _
     . cases h
   . cases h
 | .ifc t k,u,u',v,h=>by
   unfold Kd.un at h; split at h
   . cases h; exact kr k (by assumption)
   . cases h
 | .lit w,u,u',v,h=>by cases h; exact Nat.le_refl _
 | .od o,u,u',v,h=>by
   unfold Kd.un at h
   replace h:=(ae h).2
   split at h
   . split at h
     . cases h; exact Nat.le_add_right _ _
     . cases h
   . cases h
 | .rp j,u,u',v,h=>by unfold Kd.un at h; split at h <;> cases h; exact Nat.le_refl _
 | .is j k,u,u',v,h=>by
   unfold Kd.un at h; split at h
   . split at h
     . cases h; exact kr k (by assumption)
     . cases h
   . cases h
theorem ig {bi:List Nat}:∀ (ks:List Kd) {u u':Un} {vs:List SV},Kd.unL bi ks u=some (vs,u')→u.nx≤u'.nx
 | [],u,u',vs,h=>by cases h; exact Nat.le_refl _
 | k :: ks,u,u',vs,h=>by
   unfold Kd.unL at h; split at h
   . rename_i h1
     split at h
     . rename_i h2; cases h; exact Nat.le_trans (kr k h1) (ig ks h2)
     . cases h
   . cases h
end
theorem qi {bi:List Nat}:∀ (sl:List (Nat×Kd)) {u u':Un} {vs:List (Nat×SV)},unS bi sl u=some (vs,u')→u.nx≤u'.nx
 | [],u,u',vs,h=>by cases h; exact Nat.le_refl _
 | p :: sl,u,u',vs,h=>by
   unfold unS at h; split at h
   . rename_i h1
     split at h
     . rename_i h2; cases h; exact Nat.le_trans (kr p.2 h1) (qi sl h2)
     . cases h
   . cases h
theorem qD {bi:List Nat}:∀ (bl:List Bk) (is:List Nat) {u u':Un},unB bi bl is u=some u'→u.nx≤u'.nx
 | [],[],u,u',h=>by cases h; exact Nat.le_refl _
 | [],i :: is,u,u',h=>by cases h
 | b :: bl,[],u,u',h=>by cases h
 | b :: bl,i :: is,u,u',h=>by
   unfold unB at h; split at h
   . rename_i u1 h1
     refine Nat.le_trans ?_ (qD bl is h)
     unfold en at h1
     cases hn:b.nu with
     | true=>rw [hn] at h1; cases h1; exact Nat.le_refl _
     | false =>
       rw [hn] at h1; simp only [cond_false] at h1
       cases hlp:b.lp with
       | true=>rw [hlp] at h1; simp only [cond_true] at h1; cases h1; exact Nat.le_refl _
       | false =>
       rw [hlp] at h1; simp only [cond_false] at h1
       cases hr:b.rw with
       | some o =>
         rw [hr] at h1
         dsimp only at h1
         split at h1
         . split at h1
           . cases h1; exact Nat.le_succ _
           . cases h1
         . cases h1
       | none =>
       rw [hr] at h1
       dsimp only at h1
       cases hb:b.bu with
       | true =>
         rw [hb] at h1; simp only [cond_true] at h1
         split at h1 <;> cases h1
         exact Nat.le_refl _
       | false =>
         rw [hb] at h1; simp only [cond_false] at h1
         split at h1
         . rename_i h2
           cases h1
           exact Nat.le_trans (ig b.ks h2) (Nat.le_succ _)
         . cases h1
   . cases h
theorem pN:∀ (bl:List Bk) (nx:Nat),c7 bl=true→(aN bl nx).2=nx + bl.length
 | [],nx,_=>rfl
 | b :: bl,nx,h=>by
   simp only [c7,Bool.and_eq_true] at h
   cases hb:b.old with
   | some i=>rw [hb] at h; cases h.1
   | none =>
     simp only [aN,hb,List.length_cons]
     rw [pN bl (nx + 1) h.2]
     omega
theorem wG {s:Sh} {ds:List Dat} {vs:List (Nat×SV)} {u:Un} (h:s.un ds 0=some (vs,u)) (ho:c7 s.bl=true):s.bl.length≤u.nx:=by
 unfold Sh.un at h
 replace h:=(ae h).2
 have hn:=pN s.bl 0 ho
 split at h
 rename_i bi nx he
 rw [he] at hn
 simp only [Nat.zero_add] at hn
 split at h
 . rename_i h1
   split at h
   . rename_i h2
     cases h
     have:=qi s.sl h1
     have:=qD s.bl bi h2
     simp only at *
     omega
   . cases h
 . cases h
theorem pi:∀ (bl:List Bk) {a b:Nat},bf bl a=true→a≤b→bf bl b=true
 | [],a,b,h,hab=>rfl
 | x :: bl,a,b,h,hab=>by
   simp only [bf,Bool.and_eq_true] at h ⊢
   refine ⟨?_,pi bl h.2 hab⟩
   cases ho:x.old with
   | none=>rfl
   | some i =>
     have h1:=h.1
     rw [ho] at h1
     simp only [Nat.blt_eq] at h1 ⊢
     omega
def mD (fn:Func):Code:=match fn.body with | some c=>c | none => .skip
def qB (s:Spec) (fn:Func):Bool:=fn.body.isSome&&(slN 0 s.inn.sl s.inn.sl.length&&Nat.ble s.inn.sl.length fn.ntmps)&&(c7 s.inn.bl&&s.outs.all fun o=>bf o.bl s.inn.bl.length)
theorem aj {P:Program} {s:Spec} {fn:Func} (hf:P.funcs[s.f]? = some fn) (h:Hn P) (hc:qB s fn=true) (hex:(fun x=>nf fn.ntmps fn (mD fn) s.inn s.outs h x)=s.fn):cd P s:=by
 unfold qB at hc
 simp only [Bool.and_eq_true] at hc
 obtain ⟨⟨h1,h2,h2'⟩,h3,h4⟩:=hc
 have hb:fn.body=some (mD fn):=by
   unfold mD
   cases hbd:fn.body with
   | none=>rw [hbd] at h1; cases h1
   | some c=>rfl
 refine wx hf hb rfl h (by rw [h2,h2']; rfl) (fun ds vs u hu o ho=>pi o.bl (List.all_eq_true.1 h4 o ho) (wG hu h3)) (fun x r hx=>?_)
 rw [← hx]
 exact congrFun hex x
end
theorem wq [BldA] {P:Program} {s:Spec} {W:World} (hs:cd P s) {x:TL s.inn.ts} {r:ci s.outs} (hr:s.fn x=some r) (hgk:BldA.gk (Hp.of W)) {vs:List (Nat×SV)} (hun:s.inn.un (TL.list _ x) 0=some (vs,⟨[],0,[],[]⟩))
   (hout:(cQ s.outs r).1.un (cQ s.outs r).2 0=some ([(0,.bool true)],⟨[],0,[],[]⟩)) {args:List Value} (hsl:slR [] (Hp.of W) vs args) :
   Calls P s.f args.toArray W fun e W'=>e = .returned (.bool true)∧Below W.heap.size W W':=by
 have h:=hs x r hr vs _ hun [] (Hp.of W) args hgk rfl (fun a ha=>by cases ha) hsl (En.of W) W [] (Sep.start W)
 refine h.mono fun e W' h=>?_
 obtain ⟨v,K',L',rfl,⟨vs',u',m',h1,_,_,_,h2,_⟩,h3,h4⟩:=h
 have h1:=h1.symm.trans hout
 cases h1
 obtain rfl:v = .bool true:=h2
 exact ⟨rfl,h4.below h3⟩
end
end Go.Proofs.YtbheedkpbbmlcaaDoor
namespace Go.Proofs
open Go.Shelf
def Tryd.lays156_ren:Go.Shelf.Ren:=⟨fun | 156=>12 | 165=>24 | 166=>25 | 169=>26 | 240=>45 | 241=>46 | 276=>61 | 277=>62 | n=>n,fun | 31=>39 | 9=>9 | 3=>3 | 4=>4 | 0=>0 | 20=>20 | 72=>68 | 76=>72 | 70=>65 | 37=>66 | 75=>71 | 127=>99 | 164=>129 | 5=>5 | 80=>74 | n=>n,fun | n=>n⟩
theorem Tryd.lays156:Go.Proofs.Lays.n156 Tryd.prog Tryd.lays156_ren:={
  mixed:=by kernel_rfl
  f156:=Tryd.func12.trans (congrArg some (by kernel_rfl))
  f165:=Tryd.func24.trans (congrArg some (by kernel_rfl))
  f166:=Tryd.func25.trans (congrArg some (by kernel_rfl))
  f169:=Tryd.func26.trans (congrArg some (by kernel_rfl))
  f240:=Tryd.func45.trans (congrArg some (by kernel_rfl))
  f241:=Tryd.func46.trans (congrArg some (by kernel_rfl))
  f276:=Tryd.func61.trans (congrArg some (by kernel_rfl))
  f277:=Tryd.func62.trans (congrArg some (by kernel_rfl))
  t0:=Tryd.underlying0
  a0:=Tryd.isAgg0
  z0:=Tryd.sizeOf0
  v0:=Tryd.zeroValue0
  t3:=Tryd.underlying3
  a3:=Tryd.isAgg3
  z3:=Tryd.sizeOf3
  v3:=Tryd.zeroValue3
  t4:=Tryd.underlying4
  a4:=Tryd.isAgg4
  z4:=Tryd.sizeOf4
  v4:=Tryd.zeroValue4
  t9:=Tryd.underlying9
  a9:=Tryd.isAgg9
  z9:=Tryd.sizeOf9
  v9:=Tryd.zeroValue9
  t20:=Tryd.underlying20
  a20:=Tryd.isAgg20
  z20:=Tryd.sizeOf20
  v20:=Tryd.zeroValue20
  t31:=Tryd.underlying39
  a31:=Tryd.isAgg39
  z31:=Tryd.sizeOf39
  v31:=Tryd.zeroValue39
  t37:=Tryd.underlying66
  a37:=Tryd.isAgg66
  z37:=Tryd.sizeOf66
  v37:=Tryd.zeroValue66
  t70:=Tryd.underlying65
  a70:=Tryd.isAgg65
  z70:=Tryd.sizeOf65
  v70:=Tryd.zeroValue65
  t72:=Tryd.underlying68
  a72:=Tryd.isAgg68
  z72:=Tryd.sizeOf68
  v72:=Tryd.zeroValue68
  t75:=Tryd.underlying71
  a75:=Tryd.isAgg71
  z75:=Tryd.sizeOf71
  v75:=Tryd.zeroValue71
  t76:=Tryd.underlying72
  a76:=Tryd.isAgg72
  z76:=Tryd.sizeOf72
  v76:=Tryd.zeroValue72
  t127:=Tryd.underlying99
  a127:=Tryd.isAgg99
  z127:=Tryd.sizeOf99
  v127:=Tryd.zeroValue99
  t164:=Tryd.underlying129
  a164:=Tryd.isAgg129
  z164:=Tryd.sizeOf129
  v164:=Tryd.zeroValue129 }
theorem Tryd.Builder_Extra_156:Builder.Extra Tryd.prog Tryd.lays156_ren:={
  sizeBuilder:=by kernel_rfl
  liesBuilder:=by kernel_rfl
  t5:=Tryd.underlying5
  a5:=Tryd.isAgg5
  z5:=Tryd.sizeOf5
  v5:=Tryd.zeroValue5
  infoByte:=by kernel_rfl
  cellsByte:=by kernel_rfl
  sizeByte:=by kernel_rfl
  neB5:=by decide }
open Go.RowKit in
/-- No element: the empty string; the ge is as it was. (Whatever the slice's address and capacity: a nil slice too.) (LAID: no walk: one application.) -/
theorem Tryd.strings_Join_none (a:Option Addr) (c:Nat) (sep:ByteArray) (w:World) :
    Calls Tryd.prog 12 #[.slice a 0 c,.string sep] w fun e w'=>e = .returned (.string ⟨#[]⟩)∧w'=w:=Any.strings_Join_none Tryd.lays156 Tryd.Builder_Extra_156 a c sep w
open Go.RowKit in
/-- strings.Join: "Join concatenates the elements of its first argument to create a single string. The separator string sep is placed between elements in the resulting string.": HOWEVER MANY ELEMENTS. Below the heap's end the ge is as it was. (LAID: no walk: one application.) -/
theorem Tryd.strings_Join (bk o c:Nat) (xs:List ByteArray) (sep:ByteArray) (w:World) (hcells:∀ (j:Nat) x,xs[j]? = some x→w.cell? ⟨bk,o + j,none⟩=some (.string x)) (hbk:bk < w.heap.size) (hN:xs.length≤140737488355328) (hcap:xs.length≤c) (hlen:(Lib.join (xs.map (·.data.toList)) sep.data.toList).length≤140737488355328) :
    Calls Tryd.prog 12 #[.slice (some ⟨bk,o,none⟩) xs.length c,.string sep] w fun e w'=>e = .returned (.string ⟨(Lib.join (xs.map (·.data.toList)) sep.data.toList).toArray⟩)∧Below w.heap.size w w':=Any.strings_Join Tryd.lays156 Tryd.Builder_Extra_156 bk o c xs sep w hcells hbk hN hcap hlen
def Tryd.lays143_ren:Go.Shelf.Ren:=⟨fun | 143=>38 | 219=>53 | 217=>66 | 225=>67 | 224=>68 | 267=>69 | 266=>78 | 314=>79 | n=>n,fun | 9=>9 | 3=>3 | 4=>4 | 5=>5 | 46=>132 | 146=>145 | 51=>144 | n=>n,fun | 1=>0 | n=>n⟩
theorem Tryd.lays143:Go.Proofs.Lays.n143 Tryd.prog Tryd.lays143_ren:={
  mixed:=by kernel_rfl
  f143:=Tryd.func38.trans (congrArg some (by kernel_rfl))
  f217:=Tryd.func66.trans (congrArg some (by kernel_rfl))
  f219:=Tryd.func53.trans (congrArg some (by kernel_rfl))
  f224:=Tryd.func68.trans (congrArg some (by kernel_rfl))
  f225:=Tryd.func67.trans (congrArg some (by kernel_rfl))
  f266:=Tryd.func78.trans (congrArg some (by kernel_rfl))
  f267:=Tryd.func69.trans (congrArg some (by kernel_rfl))
  f314:=Tryd.func79.trans (congrArg some (by kernel_rfl))
  t3:=Tryd.underlying3
  a3:=Tryd.isAgg3
  z3:=Tryd.sizeOf3
  v3:=Tryd.zeroValue3
  t4:=Tryd.underlying4
  a4:=Tryd.isAgg4
  z4:=Tryd.sizeOf4
  v4:=Tryd.zeroValue4
  t5:=Tryd.underlying5
  a5:=Tryd.isAgg5
  z5:=Tryd.sizeOf5
  v5:=Tryd.zeroValue5
  t9:=Tryd.underlying9
  a9:=Tryd.isAgg9
  z9:=Tryd.sizeOf9
  v9:=Tryd.zeroValue9
  t46:=Tryd.underlying132
  a46:=Tryd.isAgg132
  z46:=Tryd.sizeOf132
  v46:=Tryd.zeroValue132
  t51:=Tryd.underlying144
  a51:=Tryd.isAgg144
  z51:=Tryd.sizeOf144
  v51:=Tryd.zeroValue144
  t146:=Tryd.underlying145
  a146:=Tryd.isAgg145
  z146:=Tryd.sizeOf145
  v146:=Tryd.zeroValue145
  g1:=by kernel_rfl }
open Go.RowKit Go.Lib in
/-- strings.Index: "Index returns the index of the first instance of substr in s, or -1 if substr is not present in s.": IT RETURNS 'Lib.index s substr'; the ge is as it was. (LAID: no walk: one application.) -/
theorem Tryd.strings_Index (s sub:ByteArray) (m:Int) (w:World) (hs:s.size < 4294967281) (hm:w.cell? ⟨0,0,none⟩=some (.int .i64 m)) :
    Calls Tryd.prog 38 #[.string s,.string sub] w fun e w'=>e = .returned (.int .i64 (Lib.index s.data.toList sub.data.toList))∧w'=w:=Any.strings_Index Tryd.lays143 s sub m w hs hm
def Tryd.lays145_ren:Go.Shelf.Ren:=⟨fun | 145=>48 | 220=>64 | 219=>53 | 217=>66 | 225=>67 | 224=>68 | 267=>69 | 266=>78 | 314=>79 | n=>n,fun | 9=>9 | 4=>4 | 59=>101 | 3=>3 | 5=>5 | 46=>132 | 146=>145 | 51=>144 | n=>n,fun | 1=>0 | n=>n⟩
theorem Tryd.lays145:Go.Proofs.Lays.n145 Tryd.prog Tryd.lays145_ren:={
  mixed:=by kernel_rfl
  f145:=Tryd.func48.trans (congrArg some (by kernel_rfl))
  f217:=Tryd.func66.trans (congrArg some (by kernel_rfl))
  f219:=Tryd.func53.trans (congrArg some (by kernel_rfl))
  f220:=Tryd.func64.trans (congrArg some (by kernel_rfl))
  f224:=Tryd.func68.trans (congrArg some (by kernel_rfl))
  f225:=Tryd.func67.trans (congrArg some (by kernel_rfl))
  f266:=Tryd.func78.trans (congrArg some (by kernel_rfl))
  f267:=Tryd.func69.trans (congrArg some (by kernel_rfl))
  f314:=Tryd.func79.trans (congrArg some (by kernel_rfl))
  t3:=Tryd.underlying3
  a3:=Tryd.isAgg3
  z3:=Tryd.sizeOf3
  v3:=Tryd.zeroValue3
  t4:=Tryd.underlying4
  a4:=Tryd.isAgg4
  z4:=Tryd.sizeOf4
  v4:=Tryd.zeroValue4
  t5:=Tryd.underlying5
  a5:=Tryd.isAgg5
  z5:=Tryd.sizeOf5
  v5:=Tryd.zeroValue5
  t9:=Tryd.underlying9
  a9:=Tryd.isAgg9
  z9:=Tryd.sizeOf9
  v9:=Tryd.zeroValue9
  t46:=Tryd.underlying132
  a46:=Tryd.isAgg132
  z46:=Tryd.sizeOf132
  v46:=Tryd.zeroValue132
  t51:=Tryd.underlying144
  a51:=Tryd.isAgg144
  z51:=Tryd.sizeOf144
  v51:=Tryd.zeroValue144
  t59:=Tryd.underlying101
  a59:=Tryd.isAgg101
  z59:=Tryd.sizeOf101
  v59:=Tryd.zeroValue101
  t146:=Tryd.underlying145
  a146:=Tryd.isAgg145
  z146:=Tryd.sizeOf145
  v146:=Tryd.zeroValue145
  g1:=by kernel_rfl }
open Go.RowKit Go.Lib in
/-- strings.Cut: "Cut slices s around the first instance of sep, returning the text before and after sep. The found result reports whether sep appears in s. If sep does not appear in s, cut returns s, "", false.": IT RETURNS 'Lib.cut s sep'; the ge is as it was but for the count of draws. (LAID: no walk: one application.) -/
theorem Tryd.strings_Cut (s sep:ByteArray) (m:Int) (w:World) (hs:s.size < 4294967281) (hm:w.cell? ⟨0,0,none⟩=some (.int .i64 m)) :
    Calls Tryd.prog 48 #[.string s,.string sep] w fun e w'=>e = .returned (.tuple #[.string ⟨(Lib.cut s.data.toList sep.data.toList).1.toArray⟩,.string ⟨(Lib.cut s.data.toList sep.data.toList).2.1.toArray⟩,.bool (Lib.cut s.data.toList sep.data.toList).2.2])∧∃ n,w'=w.drewN n:=Any.strings_Cut Tryd.lays145 s sep m w hs hm
def Tryd.lays146_ren:Go.Shelf.Ren:=⟨fun | 146=>6 | 221=>16 | 268=>36 | 138=>37 | 143=>38 | 195=>50 | 197=>51 | 218=>52 | 219=>53 | 260=>65 | 217=>66 | 225=>67 | 224=>68 | 267=>69 | 266=>78 | 314=>79 | n=>n,fun | 9=>9 | 31=>39 | 3=>3 | 4=>4 | 0=>0 | 105=>107 | 21=>21 | 5=>5 | 46=>132 | 119=>140 | 139=>143 | 138=>142 | 146=>145 | 51=>144 | n=>n,fun | 1=>0 | 3=>1 | 4=>2 | n=>n⟩
theorem Tryd.lays146:Go.Proofs.Lays.n146 Tryd.prog Tryd.lays146_ren:={
  mixed:=by kernel_rfl
  f138:=Tryd.func37.trans (congrArg some (by kernel_rfl))
  f143:=Tryd.func38.trans (congrArg some (by kernel_rfl))
  f146:=Tryd.func6.trans (congrArg some (by kernel_rfl))
  f195:=Tryd.func50.trans (congrArg some (by kernel_rfl))
  f197:=Tryd.func51.trans (congrArg some (by kernel_rfl))
  f217:=Tryd.func66.trans (congrArg some (by kernel_rfl))
  f218:=Tryd.func52.trans (congrArg some (by kernel_rfl))
  f219:=Tryd.func53.trans (congrArg some (by kernel_rfl))
  f221:=Tryd.func16.trans (congrArg some (by kernel_rfl))
  f224:=Tryd.func68.trans (congrArg some (by kernel_rfl))
  f225:=Tryd.func67.trans (congrArg some (by kernel_rfl))
  f260:=Tryd.func65.trans (congrArg some (by kernel_rfl))
  f266:=Tryd.func78.trans (congrArg some (by kernel_rfl))
  f267:=Tryd.func69.trans (congrArg some (by kernel_rfl))
  f268:=Tryd.func36.trans (congrArg some (by kernel_rfl))
  f314:=Tryd.func79.trans (congrArg some (by kernel_rfl))
  t0:=Tryd.underlying0
  a0:=Tryd.isAgg0
  z0:=Tryd.sizeOf0
  v0:=Tryd.zeroValue0
  t3:=Tryd.underlying3
  a3:=Tryd.isAgg3
  z3:=Tryd.sizeOf3
  v3:=Tryd.zeroValue3
  t4:=Tryd.underlying4
  a4:=Tryd.isAgg4
  z4:=Tryd.sizeOf4
  v4:=Tryd.zeroValue4
  t5:=Tryd.underlying5
  a5:=Tryd.isAgg5
  z5:=Tryd.sizeOf5
  v5:=Tryd.zeroValue5
  t9:=Tryd.underlying9
  a9:=Tryd.isAgg9
  z9:=Tryd.sizeOf9
  v9:=Tryd.zeroValue9
  t21:=Tryd.underlying21
  a21:=Tryd.isAgg21
  z21:=Tryd.sizeOf21
  v21:=Tryd.zeroValue21
  t31:=Tryd.underlying39
  a31:=Tryd.isAgg39
  z31:=Tryd.sizeOf39
  v31:=Tryd.zeroValue39
  t46:=Tryd.underlying132
  a46:=Tryd.isAgg132
  z46:=Tryd.sizeOf132
  v46:=Tryd.zeroValue132
  t51:=Tryd.underlying144
  a51:=Tryd.isAgg144
  z51:=Tryd.sizeOf144
  v51:=Tryd.zeroValue144
  t105:=Tryd.underlying107
  a105:=Tryd.isAgg107
  z105:=Tryd.sizeOf107
  v105:=Tryd.zeroValue107
  t119:=Tryd.underlying140
  a119:=Tryd.isAgg140
  z119:=Tryd.sizeOf140
  t138:=Tryd.underlying142
  a138:=Tryd.isAgg142
  z138:=Tryd.sizeOf142
  v138:=Tryd.zeroValue142
  t139:=Tryd.underlying143
  a139:=Tryd.isAgg143
  z139:=Tryd.sizeOf143
  v139:=Tryd.zeroValue143
  t146:=Tryd.underlying145
  a146:=Tryd.isAgg145
  z146:=Tryd.sizeOf145
  v146:=Tryd.zeroValue145
  g1:=by kernel_rfl
  g3:=by kernel_rfl
  g4:=by kernel_rfl }
open Go.RowKit Go.Lib in
/-- strings.Split. (LAID: no walk: one application.) -/
theorem Tryd.strings_Split (s sep:ByteArray) (m:Int) (w:World) (hs:s.size < 4294967281) (hm:w.cell? ⟨0,0,none⟩=some (.int .i64 m)) (h1:1≤sep.size) :
    Calls Tryd.prog 6 #[.string s,.string sep] w fun e w' =>
      e = .returned (.slice (some ⟨w.heap.size,0,none⟩) (Lib.countB s sep + 1) (Lib.countB s sep + 1))∧w'=w.alloc (.cells ((Lib.splitB sep 0 (Lib.countB s sep) s).map Value.string).toArray 9):=Any.strings_Split Tryd.lays146 (by kernel_rfl) s sep m w hs hm h1
end Go.Proofs
namespace Go.Proofs.YtbheedkpbbmlcaaDoor
noncomputable section
set_option linter.unusedVariables false
set_option linter.unusedSimpArgs false
set_option linter.unnecessarySimpa false
open Go.RowKit
theorem Sep.ofBelow {E:En} {K:Hp} {L:List aa} {w w':World} (h:Sep E K L w) (b:Below w.heap.size w w'):Sep E K L w':=h.fr (Fr.of_below b)
def Gk (K:Hp):Prop:=∃ m:Int,aM K 0 0=some (.int .i64 m)
theorem Gk.mono {K K':Hp} (h:Gk K) (f:K.le K'):Gk K':=let ⟨m,h⟩:=h; ⟨m,dy f h⟩
theorem Gk.of {W:World} (h:W.ShapedOpen Tryd.prog):Gk (Hp.of W) :=
 let ⟨m,hm⟩:=Go.Proofs.cell_of_shapedOpen_int (zero:=#[.int .i64 0]) (t:=3) h (of_decide_eq_true (by kernel_rfl)) (by kernel_rfl) rfl (by kernel_rfl) (by kernel_rfl) Tryd.underlying3
 ⟨m,pA hm⟩
def iG (s sep:List UInt8):Option (List UInt8×List UInt8×Bool):=if s.length < 4294967281 then some (Lib.cut s sep) else none
theorem rR {K:Hp} {xa xb:List UInt8} (fG:Gk K) {r:List UInt8×List UInt8×Bool} (h:iG xa xb=some r) :
   Tr Tryd.prog 48 #[.string ⟨xa.toArray⟩,.string ⟨xb.toArray⟩] K [] (fun v K' L'=>(∃ (s1 s2:List UInt8) (t3:Bool),(s1,s2,t3)=r∧v = .tuple #[.string ⟨s1.toArray⟩,.string ⟨s2.toArray⟩,.bool t3]∧L'=[])∧K=K'):=by
 refine Tr.k (fun E w F hs=>?_)
 unfold iG at h
 split at h
 . rename_i hlt
   cases h
   obtain ⟨m,hm⟩:=fG
   refine (Tryd.strings_Cut ⟨xa.toArray⟩ ⟨xb.toArray⟩ m w (by simpa [ByteArray.size] using hlt) (cI hs.sub hm)).mono ?_
   rintro e w' ⟨rfl,n,rfl⟩
   exact ⟨_,K,[],rfl,⟨_,_,_,rfl,rfl,rfl⟩,Hp.le_refl K,hs.fr ((Fr.refl [] w).drewN n)⟩
 . cases h
def b9 (s sep:List UInt8):Option (List (List UInt8)):=if s.length < 4294967281∧1≤sep.length then some ((Lib.splitB ⟨sep.toArray⟩ 0 (Lib.countB ⟨s.toArray⟩ ⟨sep.toArray⟩) ⟨s.toArray⟩).map (·.data.toList)) else none
theorem pE:∀ l:List ByteArray,Els Hp.nil .str (l.map Value.string) (l.map (·.data.toList))
 | []=>rfl
 | x :: l=>⟨[.string x],_,rfl,by simp [Is],pE l⟩
theorem rF {K:Hp} {xa xb:List UInt8} (fG:Gk K) {r:List (List UInt8)} (h:b9 xa xb=some r) :
   Tr Tryd.prog 6 #[.string ⟨xa.toArray⟩,.string ⟨xb.toArray⟩] K [] (fun v K' L'=>(∃ (l1:List (List UInt8)) (ad1:Option Addr) (cp1:Nat),l1=r∧v = .slice ad1 l1.length cp1∧L'=[Row Hp.nil 9 .str (.slice ad1 l1.length cp1) l1])∧K=K'):=by
 refine Tr.k (fun E w F hs=>?_)
 unfold b9 at h
 split at h
 . rename_i hlt
   cases h
   obtain ⟨m,hm⟩:=fG
   have hs1:(⟨xa.toArray⟩:ByteArray).size < 4294967281:=by simpa [ByteArray.size] using hlt.1
   have h1:1≤(⟨xb.toArray⟩:ByteArray).size:=by simpa [ByteArray.size] using hlt.2
   have hlen:=Lib.splitB_all ⟨xb.toArray⟩ h1 0 _ ⟨xa.toArray⟩ rfl
   have hle:=Lib.countB_le ⟨xb.toArray⟩ h1 _ ⟨xa.toArray⟩ (Nat.le_refl _)
   refine (Tryd.strings_Split ⟨xa.toArray⟩ ⟨xb.toArray⟩ m w hs1 (cI hs.sub hm) h1).mono ?_
   rintro e w' ⟨rfl,rfl⟩
   refine ⟨_,K,_,rfl,⟨_,_,_,rfl,by rw [List.length_map,hlen],rfl⟩,Hp.le_refl K,?_⟩
   refine (Sep.alloc hs _ _).mono (fun h0 ha=>?_)
   obtain rfl:h0=_:=ha
   have hl2:((Lib.splitB ⟨xb.toArray⟩ 0 (Lib.countB ⟨xa.toArray⟩ ⟨xb.toArray⟩) ⟨xa.toArray⟩).map (·.data.toList)).length=Lib.countB ⟨xa.toArray⟩ ⟨xb.toArray⟩ + 1:=by rw [List.length_map,hlen]
   refine ⟨_,pE _,by simp [Tp.size],.inr ⟨w.heap.size,_,_,by rw [hl2],rfl,by omega,?_,by simp [Tp.size,hlen],by simp only [Tp.size,Nat.mul_one,List.length_map]; exact List.take_of_length_le (by simp)⟩⟩
   have:=hs1
   unfold maxLen
   omega
 . cases h
def cC (xs:List (List UInt8)) (sep:List UInt8):Option (List UInt8):=if (Lib.join xs sep).length≤140737488355328∧xs.length≤140737488355328 then some (Lib.join xs sep) else none
theorem nZ {K:Hp}:∀ {xs:List (List UInt8)} {cs:List Value},Els K .str cs xs→cs=xs.map fun x=>Value.string ⟨x.toArray⟩
 | [],cs,h=>h
 | x :: xs,cs,h=>by
   obtain ⟨es,r,rfl,h1,h2⟩:=h
   simp only [Is] at h1
   subst h1
   rw [nZ h2]; rfl
theorem rO {K:Hp} {xa:List (List UInt8)} {xb:List UInt8} {ad:Option Addr} {cp:Nat} (fa:Is K (.sl .str) [.slice ad xa.length cp] xa) {r:List UInt8} (h:cC xa xb=some r) :
   Tr Tryd.prog 12 #[.slice ad xa.length cp,.string ⟨xb.toArray⟩] K [] (fun v K' L'=>(∃ s1:List UInt8,s1=r∧v = .string ⟨s1.toArray⟩∧L'=[])∧K=K'):=by
 refine Tr.k (fun E w F hs=>?_)
 unfold cC at h
 split at h
 . rename_i hlt
   cases h
   by_cases hx:xa=[]
   . subst hx
     refine (Tryd.strings_Join_none ad cp ⟨xb.toArray⟩ w).mono ?_
     rintro e w' ⟨rfl,rfl⟩
     exact ⟨_,K,[],rfl,⟨[],rfl,rfl,rfl⟩,Hp.le_refl K,hs⟩
   . have fa':=fa
     simp only [Is] at fa
     obtain ⟨ad',cp',e0,a1,a2,a3⟩:=fa
     simp only [List.cons.injEq,Value.slice.injEq,and_true] at e0
     obtain ⟨rfl,_,rfl⟩:=e0
     obtain ⟨b,o,rfl,a4⟩:=a3 hx
     obtain ⟨cs,c1,c2,c3⟩:=fa'.cells (by decide)
     obtain rfl:=nZ c1
     have hc:∀ (j:Nat) x,(xa.map fun x=>(⟨x.toArray⟩:ByteArray))[j]? = some x→w.cell? ⟨b,o + j,none⟩=some (.string x):=fun j x hj=>by
       have:=c3 w hs.sub j (.string x) (by rw [List.getElem?_map] at hj ⊢; cases hq:xa[j]? with
         | none=>rw [hq] at hj; simp at hj
         | some q=>rw [hq] at hj; simp at hj ⊢; exact hj)
       rwa [aF] at this
     have hb:b < w.heap.size:=by
       cases xa with
       | nil=>exact absurd rfl hx
       | cons q xs =>
         have:=hc 0 _ rfl
         unfold World.cell? at this
         simp only at this
         split at this
         . rename_i e; exact lt_of_block e
         . cases this
     have hm:(xa.map fun x=>(⟨x.toArray⟩:ByteArray)).map (·.data.toList)=xa:=by simp [Function.comp_def]
     have hl:(xa.map fun x=>(⟨x.toArray⟩:ByteArray)).length=xa.length:=by simp
     have:=Tryd.strings_Join b o cp (xa.map fun x=>(⟨x.toArray⟩:ByteArray)) ⟨xb.toArray⟩ w hc hb (by rw [hl]; exact hlt.2) (by rw [hl]; exact a1) (by rw [hm]; exact hlt.1)
     rw [hl,hm] at this
     refine this.mono ?_
     rintro e w' ⟨rfl,hbl⟩
     exact ⟨_,K,[],rfl,⟨_,rfl,rfl,rfl⟩,Hp.le_refl K,hs.ofBelow hbl⟩
 . cases h
set_option linter.unusedSectionVars false
section
theorem Gk.monoC {K K':Hp} (h:K.cle K') (g:Gk K):Gk K':=let ⟨m,e⟩:=g; ⟨m,h _ _ _ e⟩
variable [BldA]
def mE:Spec:=⟨48,⟨[(0,.dat .str),(1,.dat .str)],[]⟩,[⟨[(0,.tup [.dat .str,.dat .str,.dat .bool])],[]⟩],fun x=>iG x.1 x.2⟩
theorem v8 (hg:∀ K,BldA.gk K→Gk K):cd Tryd.prog mE:=by
 intro x r hr vs u hu m K args hgk hm hH hsl E w F hs
 have hu':mE.inn.un (TL.list _ x) 0=some ([(0,.str x.1),(1,.str x.2)],⟨[],0,[],[]⟩):=rfl
 rw [hu'] at hu
 cases hu
 obtain ⟨v,q,rfl,h1,v2,q2,rfl,h2,rfl⟩:=hsl
 obtain rfl:v = .string ⟨List.toArray (α:=UInt8) x.1⟩:=h1
 obtain rfl:v2 = .string ⟨List.toArray (α:=UInt8) x.2⟩:=h2
 refine (rR (K:=K) (hg K hgk) hr E w F hs).mono ?_
 rintro e w' ⟨v,K',L',rfl,⟨⟨s1,s2,t3,rfl,rfl,rfl⟩,rfl⟩,h1,h2⟩
 exact ⟨_,K,[],rfl,⟨[(0,.tup [.str s1,.str s2,.bool t3])],⟨[],0,[],[]⟩,m,rfl,List.prefix_rfl,hm,fun a h=>(by cases h),⟨_,rfl,_,_,rfl,rfl,_,_,rfl,rfl,_,_,rfl,rfl,rfl⟩,rfl⟩,h1,h2⟩
def lD:Spec:=⟨6,⟨[(0,.dat .str),(1,.dat .str)],[]⟩,[⟨[(0,.own 9 .str)],[]⟩],fun x=>b9 x.1 x.2⟩
theorem tP (hg:∀ K,BldA.gk K→Gk K):cd Tryd.prog lD:=by
 intro x r hr vs u hu m K args hgk hm hH hsl E w F hs
 have hu':lD.inn.un (TL.list _ x) 0=some ([(0,.str x.1),(1,.str x.2)],⟨[],0,[],[]⟩):=rfl
 rw [hu'] at hu
 cases hu
 replace hm:m.length=0:=hm
 obtain ⟨v,q,rfl,h1,v2,q2,rfl,h2,rfl⟩:=hsl
 obtain rfl:v = .string ⟨List.toArray (α:=UInt8) x.1⟩:=h1
 obtain rfl:v2 = .string ⟨List.toArray (α:=UInt8) x.2⟩:=h2
 refine (rF (K:=K) (hg K hgk) hr E w F hs).mono ?_
 rintro e w' ⟨v,K',L',rfl,⟨⟨l,ad1,cp1,rfl,rfl,rfl⟩,rfl⟩,h1,h2⟩
 have h2:Sep E K (Row Hp.nil 9 .str (.slice ad1 (List.length (α:=List UInt8) l) cp1) l :: F) w':=h2
 obtain ⟨ad',cap',e1,g2,g3,g4⟩:=h2.fact (fun h k=>Row.form h k)
 cases e1
 obtain ⟨h0,⟨cs,hE,hR⟩,hd,hs2⟩:=h2
 have g5:Els K .str cs l:=Els.flat rfl hE
 have g6:Sep E K (Rw 9 1 (.slice ad1 (List.length (α:=List UInt8) l) cp1) (List.length (α:=List UInt8) l) cs :: F) w':=⟨h0,hR,hd,hs2⟩
 have hm0:(m++[M.val (.slice ad1 (List.length (α:=List UInt8) l) cp1),M.cont .str l cs])[0]? = some (.val (.slice ad1 (List.length (α:=List UInt8) l) cp1)):=by
   rw [List.getElem?_append_right (by omega),hm]; rfl
 have hm1:(m++[M.val (.slice ad1 (List.length (α:=List UInt8) l) cp1),M.cont .str l cs])[1]? = some (.cont .str l cs):=by
   rw [List.getElem?_append_right (by omega),hm]; rfl
 refine ⟨_,K,_,rfl,⟨[(0,.own 0)],⟨[],2,[.row 0 1 9 .str l (List.length (α:=List UInt8) l)],[0]⟩,m++[M.val (.slice ad1 (List.length (α:=List UInt8) l) cp1),M.cont .str l cs],rfl,List.prefix_append _ _,by simp [hm],?_,⟨hm0,rfl⟩,rfl⟩,h1,?_⟩
 . intro a ha
   obtain rfl:=List.mem_singleton.1 ha
   exact ⟨ad1,cp1,cs,hm0,hm1,g5,rfl,g2,g3,g4⟩
 . show Sep E K (HA.conc _ (.row 0 1 9 .str l (List.length (α:=List UInt8) l)) :: F) w'
   simp only [HA.conc,hm0,hm1]
   exact g6
def gC (s sub:List UInt8):Option Int:=if s.length < 4294967281 then some (Lib.index s sub) else none
theorem rH {K:Hp} {xa xb:List UInt8} (fG:Gk K) {r:Int} (h:gC xa xb=some r) :
   Tr Tryd.prog 38 #[.string ⟨xa.toArray⟩,.string ⟨xb.toArray⟩] K [] (fun v K' L'=>(∃ i1:Int,i1=r∧v = .int .i64 i1∧L'=[])∧K=K'):=by
 refine Tr.k (fun E w F hs=>?_)
 unfold gC at h
 split at h
 . rename_i hlt
   cases h
   obtain ⟨m,hm⟩:=fG
   refine (Tryd.strings_Index ⟨xa.toArray⟩ ⟨xb.toArray⟩ m w (by simpa [ByteArray.size] using hlt) (cI hs.sub hm)).mono ?_
   rintro e w' ⟨rfl,rfl⟩
   exact ⟨_,K,_,rfl,⟨_,rfl,rfl,rfl⟩,Hp.le_refl K,hs⟩
 . cases h
def lQ:Spec:=⟨38,⟨[(0,.dat .str),(1,.dat .str)],[]⟩,[⟨[(0,.dat (.int .i64))],[]⟩],fun x=>gC x.1 x.2⟩
theorem tQ (hg:∀ K,BldA.gk K→Gk K):cd Tryd.prog lQ:=by
 intro x r hr vs u hu m K args hgk hm hH hsl E w F hs
 have hu':lQ.inn.un (TL.list _ x) 0=some ([(0,.str x.1),(1,.str x.2)],⟨[],0,[],[]⟩):=rfl
 rw [hu'] at hu
 cases hu
 obtain ⟨v,q,rfl,h1,v2,q2,rfl,h2,rfl⟩:=hsl
 obtain rfl:v = .string ⟨List.toArray (α:=UInt8) x.1⟩:=h1
 obtain rfl:v2 = .string ⟨List.toArray (α:=UInt8) x.2⟩:=h2
 refine (rH (K:=K) (hg K hgk) hr E w F hs).mono ?_
 rintro e w' ⟨v,K',L',rfl,⟨⟨i1,rfl,rfl,rfl⟩,rfl⟩,h1,h2⟩
 exact ⟨_,K,[],rfl,⟨[(0,.int .i64 i1)],⟨[],0,[],[]⟩,m,rfl,List.prefix_rfl,hm,fun a h=>(by cases h),rfl,rfl⟩,h1,h2⟩
end
section
section
variable {E:En} {K K0:Hp} {L:List aa} {w:World}
theorem Sep.arr {b:Nat} {e:TypeId} {t:Tp} {m:Nat} {cs:List Value} {xs:List t.den} (he:Els Hp.nil t cs xs) (hl:xs.length=m) (hm:Nat.ble m 1048576=true) (hs:Sep E K (Cl b e cs :: L) w):Sep E K (Row Hp.nil e t (.slice (some ⟨b,0,none⟩) m m) xs :: L) w:=by
 have hm:=Nat.le_of_ble_eq_true hm
 subst hl
 refine hs.mono (fun h ha=>?_)
 obtain rfl:h=_:=ha
 exact ⟨cs,he,he.len,.inr ⟨b,xs.length,cs.toArray,rfl,rfl,Nat.le_refl _,by unfold maxLen; omega,by rw [List.size_toArray]; exact he.len,by simp [← he.len]⟩⟩
end
section
variable {P:Program} {K0:Hp}
theorem V.subA {tx e:TypeId} {tp:Tp} {b m:Nat} {s z:List tp.den} {l h:Int} (ht:P.underlying tx=some (.array m e)) (hz:(P.info? e).map (·.size)=some tp.size) (hl:s.length=m) (hs:Is K0 (.sl tp) [.slice (some ⟨b,0,none⟩) m m] s) (hy:subL s l h=some z) :
   ∃ ad' cp',(∀ {n:Nat} {C:World→Prop} {ρ:Sl0} {d:Option Nat} {t:TypeId} {pos:String} {af:Array Edge} {g:Option (Nat×Bool)} {x:Operand} {lo hi:Option Operand},ev n ρ x = .pointer (some ⟨b,0,none⟩)→(∀ q,lo=some q→∃ k,ev n ρ q = .int k l)→(lo=none→l=0)→(∀ q,hi=some q→∃ k,ev n ρ q = .int k h)→(hi=none→h=(m:Nat)) →
     Val P n C ρ ⟨d,.slice tx x lo hi none,t,pos,af,g⟩ (.slice ad' z.length cp'))∧Is K0 (.sl tp) [.slice ad' z.length cp'] z:=by
 subst hl
 obtain ⟨a1,a2,a3,rfl⟩:=eP hy
 obtain ⟨l,rfl⟩:=Int.eq_ofNat_of_zero_le a1
 obtain ⟨h,rfl⟩:=Int.eq_ofNat_of_zero_le (show 0≤h by omega)
 have b1:l≤h:=by omega
 have b2:h≤s.length:=by omega
 simp only [Int.toNat_natCast]
 have hlen:((s.take h).drop l).length=h - l:=by rw [List.length_drop,List.length_take]; omega
 refine ⟨some (if s.length=l then ⟨b,0,none⟩ else ⟨b,0 + l * tp.size,none⟩),s.length - l,?_,by rw [hlen]; exact hs.part l h b1 b2⟩
 intro n C ρ d t pos af g x lo hi hx hl hl0 hh hh0 w _
 rw [hlen]
 cases hi':P.info? e with
 | none=>rw [hi'] at hz; simp at hz
 | some i' =>
   rw [hi'] at hz
   simp at hz
   cases lo with
   | none =>
     have:=hl0 rfl
     obtain rfl:l=0:=by omega
     cases hi with
     | none =>
       have:=hh0 rfl
       obtain rfl:h=s.length:=by omega
       simp [execOp,hx,Instr.sliceAt,run_underlying ht,Instr.sureAddr,Instr.sliceBounds,sizeOf,typeInfo,hi',hz,aF]
     | some q =>
       obtain ⟨k,hq⟩:=hh q rfl
       simp [execOp,hx,hq,Instr.sliceAt,run_underlying ht,Instr.sureAddr,Instr.sliceBounds,Instr.sliceBound,asIntOf,b2,sizeOf,typeInfo,hi',hz,aF]
       try (by_cases q:s.length=0 <;> simp [q])
   | some ql =>
     obtain ⟨k1,hq1⟩:=hl ql rfl
     cases hi with
     | none =>
       have:=hh0 rfl
       obtain rfl:h=s.length:=by omega
       simp [execOp,hx,hq1,Instr.sliceAt,run_underlying ht,Instr.sureAddr,Instr.sliceBounds,Instr.sliceBound,asIntOf,b1,sizeOf,typeInfo,hi',hz,aF]
       try (by_cases q:s.length=l <;> simp [q])
     | some q =>
       obtain ⟨k,hq⟩:=hh q rfl
       simp [execOp,hx,hq,hq1,Instr.sliceAt,run_underlying ht,Instr.sureAddr,Instr.sliceBounds,Instr.sliceBound,asIntOf,b1,b2,sizeOf,typeInfo,hi',hz,aF]
       try (by_cases q:s.length=l <;> simp [q])
theorem wg {α:Type} {xs:List α} {i:Int} {m:Nat} (h:i < (xs.length:Nat)) (hl:xs.length=m):i < (m:Nat):=by subst hl; exact h
end
end
set_option maxRecDepth 20000
section
theorem wl:Inf Tryd.prog 105 (.agg #[.int .u8 0,.int .u8 0,.int .u8 0,.int .u8 0,.int .u8 0,.int .u8 0,.int .u8 0,.int .u8 0,.int .u8 0,.int .u8 0,.int .u8 0,.int .u8 0,.int .u8 0,.int .u8 0,.int .u8 0,.int .u8 0,.int .u8 0,.int .u8 0,.int .u8 0,.int .u8 0]) 20 20:=by unfold Inf; kernel_rfl
theorem sz5:(Tryd.prog.info? 5).map (·.size)=some 1:=by kernel_rfl
def gJ  : (Int×(List Int)×Int)→Option ((Int×(List Int)×Int)⊕List UInt8):=fun ((i262,l263,i266):(Int×(List Int)×Int))=>(ab l263 (IntKind.wrap .i64 (i266 - 1))).bind fun x295=>(some (l263.set (IntKind.wrap .i64 (i266 - 1)).toNat (IntKind.wrap .u8 (IntKind.wrap .i64 (48 + (Int.tmod i262 10)))))).bind fun z300=>cond (decide ((IntKind.wrap .i64 (Int.tdiv i262 10))=0)) ((subL z300 (IntKind.wrap .i64 (i266 - 1)) (((20:Nat):Int))).bind fun y308=>some (.inr (bv y308))) (some (.inl ((IntKind.wrap .i64 (Int.tdiv i262 10),z300,IntKind.wrap .i64 (i266 - 1)))))
def cH (xa:Int):Option (List UInt8) :=
  cond (decide (xa < 0)) (some (([]:List UInt8))) (loop (gJ) ((xa,([0,0,0,0,0,0,0,0,0,0,0,0,0,0,0,0,0,0,0,0]:List Int),20)))
set_option maxRecDepth 100000 in
set_option maxHeartbeats 4000000 in
theorem rN {K:Hp} {xa:Int}   {r:List UInt8} (h:cH xa=some r) :
    Tr Tryd.prog 33 #[ii xa] K [] (fun v K' L'=>(∃ (s157:List UInt8),s157=r ∧ .string ⟨s157.toArray⟩=v∧L'=[])∧K=K'):=by
 refine Tr.k <| Tr.of Tryd.func33 rfl Tryd.ntmps33 rfl fun E F=>?_
 unfold cH at h
 refine cr <| ja (.string ⟨([]:List UInt8).toArray⟩) rfl <| J.nil <| CJ.seq <| CJ.seq <| CJ.region ?_
 refine jm (ii xa) rfl <| jv (.bool (decide (xa < 0))) (V.lss rfl rfl) <| J.nil <| cc rfl h (fun hc158 h=>?_) fun hc158 h=>?_
 . refine cr <| ja (.string ⟨([]:List UInt8).toArray⟩) rfl <| J.nil <| CJ.ret ?_
   obtain rfl:=si h
   exact ⟨_,_,Res.one rfl rfl,⟨([]:List UInt8),rfl,rfl,rfl⟩,(Hp.le_refl _),fun w hs=>hs⟩
 refine CJ.skip <| cr <| jal wl [.int .u8 0,.int .u8 0,.int .u8 0,.int .u8 0,.int .u8 0,.int .u8 0,.int .u8 0,.int .u8 0,.int .u8 0,.int .u8 0,.int .u8 0,.int .u8 0,.int .u8 0,.int .u8 0,.int .u8 0,.int .u8 0,.int .u8 0,.int .u8 0,.int .u8 0,.int .u8 0] rfl fun b159=>?_
 have hl160:([0,0,0,0,0,0,0,0,0,0,0,0,0,0,0,0,0,0,0,0]:List Int).length=20:=rfl
 refine J.by (fun w hs=>Sep.arr (t:=(.int .u8)) (xs:=([0,0,0,0,0,0,0,0,0,0,0,0,0,0,0,0,0,0,0,0]:List Int)) ⟨_,_,rfl,rfl,⟨_,_,rfl,rfl,⟨_,_,rfl,rfl,⟨_,_,rfl,rfl,⟨_,_,rfl,rfl,⟨_,_,rfl,rfl,⟨_,_,rfl,rfl,⟨_,_,rfl,rfl,⟨_,_,rfl,rfl,⟨_,_,rfl,rfl,⟨_,_,rfl,rfl,⟨_,_,rfl,rfl,⟨_,_,rfl,rfl,⟨_,_,rfl,rfl,⟨_,_,rfl,rfl,⟨_,_,rfl,rfl,⟨_,_,rfl,rfl,⟨_,_,rfl,rfl,⟨_,_,rfl,rfl,⟨_,_,rfl,rfl,rfl⟩⟩⟩⟩⟩⟩⟩⟩⟩⟩⟩⟩⟩⟩⟩⟩⟩⟩⟩⟩ hl160 rfl hs) <| J.nil <| cr <| ja (ii 20) rfl <| J.nil <| CJ.block ?_
 refine CJ.loop (fun s ρ K' L'=>∃ (i262:Int) (l263:(List Int)) (i266:Int),(i262,l263,i266)=s∧Fits [(0,ii i262),(3,.pointer (some ⟨b159,0,none⟩)),(4,ii i266)] ρ∧K=K'∧L'=Row Hp.nil 105 (.int .u8) (.slice (some ⟨b159,0,none⟩) 20 20) l263 :: F) h ⟨xa,([0,0,0,0,0,0,0,0,0,0,0,0,0,0,0,0,0,0,0,0]:List Int),20,rfl,⟨rfl,rfl,rfl,trivial⟩,rfl,rfl⟩ ?_
 rintro s ρ _ _ r294 ⟨i262,l263,i266,rfl,hf292,rfl,rfl⟩ h291
 obtain ⟨ρ,rfl⟩:=hf292.ex
 refine CJ.wit Row.len fun hl265=>CJ.block <| cr <| jm (ii i266) rfl <| jv (ii (IntKind.wrap .i64 (i266 - 1))) (V.sub rfl rfl) <| ja (ii (IntKind.wrap .i64 (i266 - 1))) rfl ?_
 refine J.nil <| cr <| jm (ii (IntKind.wrap .i64 (i266 - 1))) rfl <| jm (ii i262) rfl <| jv (ii (Int.tmod i262 10)) (V.rem rfl rfl (by decide)) <| jv (ii (IntKind.wrap .i64 (48 + (Int.tmod i262 10)))) (V.add rfl rfl) ?_
 refine jv (.int .u8 (IntKind.wrap .u8 (IntKind.wrap .i64 (48 + (Int.tmod i262 10))))) (V.conv Tryd.underlying3 Tryd.underlying5 rfl) ?_
 obtain ⟨x295,hx296,h291⟩:=ob h291
 obtain ⟨p297,p298,p299⟩:=cX hx296
 refine jv _ (V.iadA Tryd.underlying105 sz5 rfl rfl p297 (wg p299 hl265)) ?_
 obtain ⟨z300,hz301,h291⟩:=ob h291
 have e302:=Option.some.inj hz301
 have hl303:z300.length=20:=by rw [← e302,List.length_set]; exact hl265
 refine J.op rfl (A.storeR (ty:=(.int .u8)) (q:=0) (y0:=IntKind.wrap .u8 (IntKind.wrap .i64 (48 + (Int.tmod i262 10)))) (zs:=z300) sz5 rfl rfl rfl rfl rfl p298 (by simp [Tp.size]) (by decide) (by rintro _ rfl; exact rfl) e302) ?_
 rintro _ _ _ ⟨rfl,rfl,rfl⟩
 refine J.nil <| cr <| jm (ii i262) rfl <| jv (ii (IntKind.wrap .i64 (Int.tdiv i262 10))) (V.quo rfl rfl (by decide)) <| ja (ii (IntKind.wrap .i64 (Int.tdiv i262 10))) rfl <| J.nil ?_
 refine cr <| jm (ii (IntKind.wrap .i64 (Int.tdiv i262 10))) rfl <| jv (.bool (decide ((IntKind.wrap .i64 (Int.tdiv i262 10))=0))) (V.eql rfl rfl) <| J.nil <| cc rfl h291 (fun hc304 h291=>?_) fun hc304 h291=>?_
 . refine cr <| jm (ii (IntKind.wrap .i64 (i266 - 1))) rfl <| J.persist (Hp.nil_le _) (by decide) fun K305 hK306 f307=>?_
   obtain ⟨y308,hy309,h291⟩:=ob h291
   obtain ⟨ad310,cp311,hv312,f313⟩:=V.subA (tp:=(.int .u8)) Tryd.underlying105 sz5 hl303 f307 hy309
   refine jv (.slice ad310 y308.length cp311) (hv312 rfl (fun _ h=>by cases h; exact ⟨_,rfl⟩) nofun nofun (fun _=>rfl)) <| jv (.string ⟨(bv y308).toArray⟩) (V.b2sK Tryd.underlying66 Tryd.underlying5 Tryd.underlying9 rfl f313 (Hp.le_refl _)) <| ja (.string ⟨(bv y308).toArray⟩) rfl <| J.nil <| CJ.ret ?_
   obtain rfl:=si h291
   refine ⟨nofun,fun e=>?_⟩
   subst e
   exact ⟨_,_,Res.one rfl rfl,⟨bv y308,rfl,rfl,rfl⟩,hK306,fun w hs=>hs⟩
 refine CJ.skip ?_
 obtain rfl:=si h291
 exact ⟨rfl,⟨IntKind.wrap .i64 (Int.tdiv i262 10),z300,IntKind.wrap .i64 (i266 - 1),rfl,⟨rfl,rfl,rfl,trivial⟩,rfl,rfl⟩⟩
variable [BldA]
theorem ux {P:Program} {f:Nat} {fn:Int→Option (List UInt8)} (ok:∀ {K:Hp} {xa:Int} {r:List UInt8},fn xa=some r→Tr P f #[ii xa] K [] (fun v K' L'=>(∃ s:List UInt8,s=r ∧ .string ⟨s.toArray⟩=v∧L'=[])∧K=K')):cd P ⟨f,⟨[(0,.dat (.int .i64))],[]⟩,[⟨[(0,.dat .str)],[]⟩],fn⟩:=by
  intro x r hr vs u hu m K args hgk hm hH hsl E w F hs
  have hu':Sh.un ⟨[(0,.dat (.int .i64))],[]⟩ (TL.list [Tp.int .i64] x) 0=some ([(0,.int .i64 x)],⟨[],0,[],[]⟩):=rfl
  rw [show (Spec.inn ⟨f,⟨[(0,.dat (.int .i64))],[]⟩,[⟨[(0,.dat .str)],[]⟩],fn⟩).un (TL.list _ x) 0=_ from hu'] at hu
  cases hu
  obtain ⟨v,q,rfl,h1,rfl⟩:=hsl
  obtain rfl:v=ii x:=h1
  refine (ok (K:=K) hr E w F hs).mono ?_
  rintro e w' ⟨v,K',L',rfl,⟨⟨s,rfl,rfl,rfl⟩,rfl⟩,h1,h2⟩
  exact ⟨_,K,[],rfl,⟨[(0,.str s)],⟨[],0,[],[]⟩,m,rfl,List.prefix_rfl,hm,fun a h=>(by cases h),rfl,rfl⟩,h1,h2⟩
theorem va {P:Program} {f:Nat} {fn:List (List UInt8)→List UInt8→Option (List UInt8)} (ok:∀ {K:Hp} {xa:List (List UInt8)} {xb:List UInt8} {ad:Option Addr} {cp:Nat} (fa:Is K (.sl .str) [.slice ad xa.length cp] xa) {r:List UInt8},fn xa xb=some r→Tr P f #[.slice ad xa.length cp,.string ⟨xb.toArray⟩] K [] (fun v K' L'=>(∃ s1:List UInt8,s1=r∧v = .string ⟨s1.toArray⟩∧L'=[])∧K=K')):cd P ⟨f,⟨[(0,.dat (.sl .str)),(1,.dat .str)],[]⟩,[⟨[(0,.dat .str)],[]⟩],fun x=>fn x.1 x.2⟩:=by
  intro x r hr vs u hu m K args hgk hm hH hsl E w F hs
  have hu':Sh.un ⟨[(0,.dat (.sl .str)),(1,.dat .str)],[]⟩ (TL.list [Tp.sl .str,Tp.str] x) 0=some ([(0,.row .str x.1 (List.length (α:=List UInt8) x.1)),(1,.str x.2)],⟨[],0,[],[]⟩):=rfl
  rw [show (Spec.inn ⟨f,⟨[(0,.dat (.sl .str)),(1,.dat .str)],[]⟩,[⟨[(0,.dat .str)],[]⟩],fun x=>fn x.1 x.2⟩).un (TL.list _ x) 0=_ from hu'] at hu
  cases hu
  obtain ⟨v,q,rfl,h1,v2,q2,rfl,h2,rfl⟩:=hsl
  obtain rfl:v2 = .string ⟨x.2.toArray⟩:=h2
  obtain ⟨fa,_⟩:=h1
  have fa0:=fa
  simp only [Is] at fa
  obtain ⟨ad,cp,e0,_⟩:=fa
  simp only [List.cons.injEq,and_true] at e0
  subst e0
  refine (ok (K:=K) fa0 hr E w F hs).mono ?_
  rintro e w' ⟨v,K',L',rfl,⟨⟨s,rfl,rfl,rfl⟩,rfl⟩,h1,h2⟩
  exact ⟨_,K,[],rfl,⟨[(0,.str s)],⟨[],0,[],[]⟩,m,rfl,List.prefix_rfl,hm,fun a h=>(by cases h),rfl,rfl⟩,h1,h2⟩
def nG:Spec:=⟨33,⟨[(0,.dat (.int .i64))],[]⟩,[⟨[(0,.dat .str)],[]⟩],cH⟩
theorem rL:cd Tryd.prog nG:=ux fun h=>rN h
def fA:OkSpec Tryd.prog:=⟨nG,rL,Tryd.call33⟩
def pH:Spec:=⟨12,⟨[(0,.dat (.sl .str)),(1,.dat .str)],[]⟩,[⟨[(0,.dat .str)],[]⟩],fun x=>cC x.1 x.2⟩
theorem vh:cd Tryd.prog pH:=va rO
def hP:OkSpec Tryd.prog:=⟨pH,vh,Tryd.call12⟩
end
set_option maxRecDepth 100000
set_option maxHeartbeats 4000000
section
open Go.RowKit _root_.Go.Proofs.Tryd
abbrev bkO (i:Nat) (o:OT):Bk:=⟨some i,0,[],false,false,some o,false⟩
abbrev bkC (i:Nat) (e:TypeId) (ks:List Kd):Bk:=⟨some i,e,ks,false,false,none,false⟩
abbrev bkN (e:TypeId) (ks:List Kd):Bk:=⟨none,e,ks,false,false,none,false⟩
abbrev bkU (i:Nat):Bk:=⟨some i,0,[],false,true,none,false⟩
abbrev bkM:Bk:=⟨none,0,[],false,true,none,false⟩
abbrev kdI (i:Nat):Nat×Kd:=(i,.dat (.int .i64))
abbrev kdB (i:Nat):Nat×Kd:=(i,.dat .bool)
abbrev Tq1:Type:=((List (Int×Int×Int×Int×Bool))×(Int×Int×Int×(List Int)×(List Int)×(List Int)))
abbrev Yq1:Tp:=(.int .i64)
abbrev Tq2:Type:=(Int×(List (Int×Int))×(List (List (Int×Bool)))×(List (Int×Bool)))
abbrev Yq2:Tp:=(.cons Yq1 (.one .bool))
abbrev Yq3:Tp:=(.cons Yq1 (.cons Yq1 (.cons Yq1 (.cons (.sl Yq1) (.cons (.sl Yq1) (.one (.sl Yq1)))))))
abbrev Tq3:Type:=(List (Int×Bool))
abbrev Tq4:Type:=(List UInt8)
abbrev Tq5:Type:=(Int×Int×(List (Int×Int))×(List Tq3)×Tq3×(List Tq2)×(List Tq1)×Int×Int×List UInt8)
abbrev Yq4:Tp:=(.cons Yq1 (.one Yq1))
abbrev Yq5:Tp:=(.one (.sl Yq2))
abbrev Yq6:Tp:=(.cons Yq1 (.cons Yq1 (.cons Yq1 Yq2)))
abbrev Tq6:Type:=(List (Int×Int))
abbrev Tq7:Type:=(Int×Int×Tq6×(List Tq3)×Tq3×(List Tq2)×(List Tq1)×Int×Int)
abbrev Tq8:Type:=(Int×(Int×Int×Int×Int))
abbrev Tq9:Type:=((Int×Int×Tq6×(List Tq3)×Tq3×(List Tq2)×(List Tq1)×Int×(List Tq4)×Int))
abbrev iH:Type:=(Int×Int×Int×Int×Int)
instance nob:BldA:=⟨1000000000,fun b _=>Cl b 1000000000 [.pointer none,.slice none 0 0],fun h=>h,Gk,Gk.monoC⟩
def vG:OkSpec Tryd.prog:=⟨mE,v8 (fun _ h=>h),call48⟩
def eS:OkSpec Tryd.prog:=⟨lD,tP (fun _ h=>h),call6⟩
def uv:OkSpec Tryd.prog:=⟨lQ,tQ (fun _ h=>h),call38⟩

def gK (xa:Tq4):Option Bool :=
 some (decide (xa=([]:List UInt8)))
def hQ0:Hn Tryd.prog := .nil
def sQ0:Spec:=⟨18,⟨[(0,.dat .str)],[]⟩,[⟨[kdB 0],[]⟩],fun x=>gK x⟩
def oQ0:OkSpec Tryd.prog:=⟨sQ0,aj func18 hQ0 (by kernel_rfl) (by kernel_rfl),call18⟩
def iM (xa:(List Tq4)):Int→Option (Int⊕(Unit⊕Int)):=fun i1=>cond (decide (i1 < (xa.length:Int))) ((ab xa i1).bind fun x2=>(gK x2).bind fun t3=>cond (t3) (some (.inr ((.inr (i1))))) (some (.inl (IntKind.wrap .i64 (i1 + 1))))) (some (.inr ((.inl ()))))
def iQ (xa:(List Tq4)):Option Int :=
 (loop (iM xa) 0).bind fun o=>match o with | .inr r=>some r | .inl ()=>some ((-1))
def hQ1:Hn Tryd.prog := .jx [] ⟨[],[]⟩ [] (.lp ⟨[kdI 8],[]⟩ (.tw 9 (.cl oQ0 [] (.tw 16 .nil .nil)) .nil)) .nil
def sQ1:Spec:=⟨7,⟨[(0,.dat (.sl .str)),(1,.fn 18 [])],[]⟩,[⟨[kdI 0],[]⟩],fun x=>iQ x⟩
def oQ1:OkSpec Tryd.prog:=⟨sQ1,aj func7 hQ1 (by kernel_rfl) (by kernel_rfl),call7⟩
def kP  : ((List Tq4)×Int×Int)→Option (((List Tq4)×Int×Int)⊕((List Tq4)×Int)):=fun (l1,i2,i3)=>cond (decide (i3 < (l1.length:Int))) ((ab l1 i3).bind fun x4=>(gK x4).bind fun t5=>cond (!t5) ((ab l1 i2).bind fun x6=>(some (l1.set i2.toNat x4)).bind fun z7=>some (.inl ((z7,IntKind.wrap .i64 (i2 + 1),IntKind.wrap .i64 (i3 + 1))))) (some (.inl ((l1,i2,IntKind.wrap .i64 (i3 + 1)))))) (some (.inr (((l1,i2)))))
def iO (qxa:(List Tq4)):Option ((List Tq4)) :=
 (iQ qxa).bind fun i1=>cond (decide (i1=(-1))) (some (qxa)) ((loop (kP) ((qxa,i1,IntKind.wrap .i64 (i1 + 1)))).bind fun (l2,i3)=>(subL l2 i3 (l2.length:Int)).bind fun _=>(some (cpy l2 (i3:Int).toNat (List.replicate (((l2.length:Int):Int).toNat - (i3:Int).toNat) ([]:List UInt8)))).bind fun z4=>(subL z4 0 i3).bind fun y5=>some (y5))
def hQ2:Hn Tryd.prog := .cl oQ1 [0] (.tw 12 (.per 0 1 .nil) (.jn [] ⟨[(0,.own 9 .str),kdI 5,(8,.any)],[]⟩ [0] (.lp ⟨[(0,.own 9 .str),kdI 5,kdI 6],[]⟩ (.tw 19 (.cl oQ0 [] (.tw 29 .nil .nil)) .nil)) (.per 2 4 .nil)))
def sQ2:Spec:=⟨17,⟨[(0,.own 9 .str),(1,.fn 18 [])],[]⟩,[⟨[(0,.dat (.sl .str))],[]⟩],fun x=>iO x⟩
def oQ2:OkSpec Tryd.prog:=⟨sQ2,aj func17 hQ2 (by kernel_rfl) (by kernel_rfl),call17⟩

def gM (xa:Tq4):Option ((List Tq4)) :=
 (b9 xa ([32]:List UInt8)).bind fun l19=>(iO l19).bind fun l25=>some (l25)
def hQ3:Hn Tryd.prog := .cl eS [] (.cl oQ2 [] .nil)
def sQ3:Spec:=⟨10,⟨[(0,.dat .str)],[]⟩,[⟨[(0,.dat (.sl .str))],[]⟩],fun x=>gM x⟩
def oQ3:OkSpec Tryd.prog:=⟨sQ3,aj func10 hQ3 (by kernel_rfl) (by kernel_rfl),call10⟩
def iX (xa:(List Tq4)) (xb:(List Tq4)):Int→Option (Int⊕(Unit⊕Bool)):=fun i1=>cond (decide (i1 < (xa.length:Int))) ((ab xa i1).bind fun x2=>(ab xb i1).bind fun x3=>cond (!decide (x2=x3)) (some (.inr ((.inr (false))))) (some (.inl (IntKind.wrap .i64 (i1 + 1))))) (some (.inr ((.inl ()))))
def gE (xa:(List Tq4)) (xb:(List Tq4)):Option Bool :=
 cond (!decide ((xa.length:Int)=(xb.length:Int))) (some (false)) ((loop (iX xa xb) 0).bind fun o=>match o with | .inr r=>some r | .inl ()=>some (true))
def hQ4:Hn Tryd.prog := .tw 10 .nil (.jx [] ⟨[],[]⟩ [] (.lp ⟨[kdI 13],[]⟩ (.tw 14 (.mix [] [0,1,2,3,4,5,6,7,8] [] [] (.tw 24 .nil .nil)) .nil)) .nil)
def sQ4:Spec:=⟨9,⟨[(0,.dat (.sl .str)),(1,.dat (.sl .str))],[]⟩,[⟨[kdB 0],[]⟩],fun x=>gE x.1 x.2⟩
def oQ4:OkSpec Tryd.prog:=⟨sQ4,aj func9 hQ4 (by kernel_rfl) (by kernel_rfl),call9⟩

def jc (xa:Tq4):Option Bool :=
 (gM xa).bind fun l25=>(gE l25 (([([116,104,101,110]:List UInt8)]:List Tq4))).bind fun t40=>some (t40)
def hQ5:Hn Tryd.prog := .cl oQ3 [] (.cl oQ4 [0] .nil)
def sQ5:Spec:=⟨8,⟨[(0,.dat .str)],[]⟩,[⟨[kdB 0],[]⟩],fun x=>jc x⟩
def oQ5:OkSpec Tryd.prog:=⟨sQ5,aj func8 hQ5 (by kernel_rfl) (by kernel_rfl),call8⟩
def iL (xa:(List Tq4)):Int→Option (Int⊕(Unit⊕Int)):=fun i1=>cond (decide (i1 < (xa.length:Int))) ((ab xa i1).bind fun x2=>(jc x2).bind fun t3=>cond (t3) (some (.inr ((.inr (i1))))) (some (.inl (IntKind.wrap .i64 (i1 + 1))))) (some (.inr ((.inl ()))))
def iR (xa:(List Tq4)):Option Int :=
 (loop (iL xa) 0).bind fun o=>match o with | .inr r=>some r | .inl ()=>some ((-1))
def hQ6:Hn Tryd.prog := .jx [] ⟨[],[]⟩ [] (.lp ⟨[kdI 8],[]⟩ (.tw 9 (.cl oQ5 [] (.tw 16 .nil .nil)) .nil)) .nil
def sQ6:Spec:=⟨7,⟨[(0,.dat (.sl .str)),(1,.fn 8 [])],[]⟩,[⟨[kdI 0],[]⟩],fun x=>iR x⟩
def oQ6:OkSpec Tryd.prog:=⟨sQ6,aj func7 hQ6 (by kernel_rfl) (by kernel_rfl),call7⟩

def nC (xa:Tq4) (xb:Tq4) (xc:Int):Option (List UInt8×List UInt8×Int) :=
 some ((xb,xa,xc))
def hQ7:Hn Tryd.prog := .nil
def sQ7:Spec:=⟨39,⟨[(0,.dat .str),(1,.dat .str),kdI 2],[]⟩,[⟨[(0,.fn 54 [.ptr 0 0,.ptr 1 0,.ptr 2 0])],[bkN 9 [.dat .str],bkN 9 [.dat .str],bkN 3 [.dat Yq1]]⟩],fun x=>nC x.1 x.2.1 x.2.2⟩
def oQ7:OkSpec Tryd.prog:=⟨sQ7,aj func39 hQ7 (by kernel_rfl) (by kernel_rfl),call39⟩

def kZ (xa:Tq4) (xb:Tq4):Option (List UInt8×List UInt8×Int) :=
 (nC xa xb 0).bind fun (s20,s21,i22)=>some ((s20,s21,i22))
def hQ8:Hn Tryd.prog := .cl oQ7 [] .nil
def sQ8:Spec:=⟨19,⟨[(0,.dat .str),(1,.dat .str)],[]⟩,[⟨[(0,.fn 54 [.ptr 0 0,.ptr 1 0,.ptr 2 0])],[bkN 9 [.dat .str],bkN 9 [.dat .str],bkN 3 [.dat Yq1]]⟩],fun x=>kZ x.1 x.2⟩
def oQ8:OkSpec Tryd.prog:=⟨sQ8,aj func19 hQ8 (by kernel_rfl) (by kernel_rfl),call19⟩
def rA (xa:List UInt8):Option (Int×Int):=none
def sQ9:Spec:=⟨51,⟨[(0,.dat .str)],[]⟩,[⟨[(0,.tup [.dat (.int .i32),.dat Yq1])],[]⟩],fun _=>none⟩
def oQ9:OkSpec Tryd.prog:=⟨sQ9,fun _ _ h=>(by cases h),call51⟩

def gN (xa:Tq4):Option Bool :=
 some (decide (xa=([]:List UInt8)))
def xr:Hn Tryd.prog := .nil
def wM:Spec:=⟨20,⟨[(0,.dat .str)],[]⟩,[⟨[kdB 0],[]⟩],fun x=>gN x⟩
def rh:OkSpec Tryd.prog:=⟨wM,aj func20 xr (by kernel_rfl) (by kernel_rfl),call20⟩
def iN (xa:(List Tq4)):Int→Option (Int⊕(Unit⊕Int)):=fun i1=>cond (decide (i1 < (xa.length:Int))) ((ab xa i1).bind fun x2=>(gN x2).bind fun t3=>cond (t3) (some (.inr ((.inr (i1))))) (some (.inl (IntKind.wrap .i64 (i1 + 1))))) (some (.inr ((.inl ()))))
def iS (xa:(List Tq4)):Option Int :=
 (loop (iN xa) 0).bind fun o=>match o with | .inr r=>some r | .inl ()=>some ((-1))
def zk:Hn Tryd.prog := .jx [] ⟨[],[]⟩ [] (.lp ⟨[kdI 8],[]⟩ (.tw 9 (.cl rh [] (.tw 16 .nil .nil)) .nil)) .nil
def x8:Spec:=⟨7,⟨[(0,.dat (.sl .str)),(1,.fn 20 [])],[]⟩,[⟨[kdI 0],[]⟩],fun x=>iS x⟩
def yR:OkSpec Tryd.prog:=⟨x8,aj func7 zk (by kernel_rfl) (by kernel_rfl),call7⟩
def kQ  : ((List Tq4)×Int×Int)→Option (((List Tq4)×Int×Int)⊕((List Tq4)×Int)):=fun (l1,i2,i3)=>cond (decide (i3 < (l1.length:Int))) ((ab l1 i3).bind fun x4=>(gN x4).bind fun t5=>cond (!t5) ((ab l1 i2).bind fun x6=>(some (l1.set i2.toNat x4)).bind fun z7=>some (.inl ((z7,IntKind.wrap .i64 (i2 + 1),IntKind.wrap .i64 (i3 + 1))))) (some (.inl ((l1,i2,IntKind.wrap .i64 (i3 + 1)))))) (some (.inr (((l1,i2)))))
def fu (qxa:(List Tq4)):Option ((List Tq4)) :=
 (iS qxa).bind fun i1=>cond (decide (i1=(-1))) (some (qxa)) ((loop (kQ) ((qxa,i1,IntKind.wrap .i64 (i1 + 1)))).bind fun (l2,i3)=>(subL l2 i3 (l2.length:Int)).bind fun _=>(some (cpy l2 (i3:Int).toNat (List.replicate (((l2.length:Int):Int).toNat - (i3:Int).toNat) ([]:List UInt8)))).bind fun z4=>(subL z4 0 i3).bind fun y5=>some (y5))
def yo:Hn Tryd.prog := .cl yR [0] (.tw 12 (.per 0 1 .nil) (.jn [] ⟨[(0,.own 9 .str),kdI 5,(8,.any)],[]⟩ [0] (.lp ⟨[(0,.own 9 .str),kdI 5,kdI 6],[]⟩ (.tw 19 (.cl rh [] (.tw 29 .nil .nil)) .nil)) (.per 2 4 .nil)))
def xL:Spec:=⟨17,⟨[(0,.own 9 .str),(1,.fn 20 [])],[]⟩,[⟨[(0,.dat (.sl .str))],[]⟩],fun x=>fu x⟩
def m8:OkSpec Tryd.prog:=⟨xL,aj func17 yo (by kernel_rfl) (by kernel_rfl),call17⟩

def kR (xa:Tq4) (xb:Tq4):Option Bool :=
 (cond (decide ((xb.length:Int)≤(xa.length:Int))) ((subL xa 0 (xb.length:Int)).bind fun y14=>some (decide (y14=xb))) (some (false))).bind fun t12=>some (t12)
def xH:Hn Tryd.prog := .gj 6 ⟨[kdB 17],[]⟩ [] (.two 10 .nil .nil) .nil
def wY:Spec:=⟨40,⟨[(0,.dat .str),(1,.dat .str)],[]⟩,[⟨[kdB 0],[]⟩],fun x=>kR x.1 x.2⟩
def yy:OkSpec Tryd.prog:=⟨wY,aj func40 xH (by kernel_rfl) (by kernel_rfl),call40⟩

def dm (xa:Tq4) (xb:Tq4):Option Bool :=
 (kR xa xb).bind fun t10=>some (t10)
def w8:Hn Tryd.prog := .cl yy [] .nil
def xN:Spec:=⟨21,⟨[(0,.dat .str),(1,.dat .str)],[]⟩,[⟨[kdB 0],[]⟩],fun x=>dm x.1 x.2⟩
def kI:OkSpec Tryd.prog:=⟨xN,aj func21 w8 (by kernel_rfl) (by kernel_rfl),call21⟩

def aL (xa:Tq4):Option (Int×Int) :=
 (cond (decide (xa=([98,111,117,110,100,115]:List UInt8))) (some (decide (xa=([98,111,117,110,100,115]:List UInt8)))) (some (decide (xa=([110,101,101,100,115]:List UInt8)))):Option Bool).bind fun t36=>cond (t36) (some ((1,9223372036854775807))) ((cond (decide (xa=([98,108,111,99,107]:List UInt8))) (some (decide (xa=([98,108,111,99,107]:List UInt8)))) (cond (decide (xa=([110,111,112]:List UInt8))) (some (decide (xa=([110,111,112]:List UInt8)))) (some (decide (xa=([114,101,116,117,114,110]:List UInt8))))):Option Bool).bind fun t41=>cond (t41) (some ((1,1))) ((cond (decide (xa=([108,111,99,97,108]:List UInt8))) (some (decide (xa=([108,111,99,97,108]:List UInt8)))) (cond (decide (xa=([103,105,118,101,115]:List UInt8))) (some (decide (xa=([103,105,118,101,115]:List UInt8)))) (cond (decide (xa=([97,114,103]:List UInt8))) (some (decide (xa=([97,114,103]:List UInt8)))) (cond (decide (xa=([117,115,101]:List UInt8))) (some (decide (xa=([117,115,101]:List UInt8)))) (cond (decide (xa=([100,101,97,100]:List UInt8))) (some (decide (xa=([100,101,97,100]:List UInt8)))) (some (decide (xa=([103,111,116,111]:List UInt8)))))))):Option Bool).bind fun t50=>cond (t50) (some ((2,2))) ((cond (decide (xa=([114,101,103,105,111,110,115]:List UInt8))) (some (decide (xa=([114,101,103,105,111,110,115]:List UInt8)))) (cond (decide (xa=([115,105,103]:List UInt8))) (some (decide (xa=([115,105,103]:List UInt8)))) (cond (decide (xa=([97,115,115,105,103,110]:List UInt8))) (some (decide (xa=([97,115,115,105,103,110]:List UInt8)))) (some (decide (xa=([115,119,105,116,99,104]:List UInt8)))))):Option Bool).bind fun t60=>cond (t60) (some ((3,3))) (cond (decide (xa=([98,111,114,114,111,119]:List UInt8))) (some ((4,5))) (cond (decide (xa=([114,101,98,111,114,114,111,119]:List UInt8))) (some ((4,5))) (some ((6,6))))))))
def xh:Hn Tryd.prog := .pl (.pl (.pl (.sq [] ⟨[kdB 5],[]⟩ [] (.tw 5 .nil .nil) (.tw 5 .nil (.sq [] ⟨[kdB 8],[]⟩ [] (.tw 8 .nil (.tw 8 .nil .nil)) (.tw 8 .nil (.sq [] ⟨[kdB 12],[]⟩ [] (.tw 12 .nil (.tw 12 .nil (.tw 12 .nil (.tw 12 .nil (.tw 12 .nil .nil))))) (.tw 12 .nil (.sq [] ⟨[kdB 19],[]⟩ [] (.tw 19 .nil (.tw 19 .nil (.tw 19 .nil .nil))) (.tw 19 .nil (.two 24 .nil (.tw 24 .nil .nil))))))))))))
def wZ:Spec:=⟨41,⟨[(0,.dat .str)],[]⟩,[⟨[(0,.tup [.dat Yq1,.dat Yq1])],[]⟩],fun x=>aL x⟩
def yO:OkSpec Tryd.prog:=⟨wZ,aj func41 xh (by kernel_rfl) (by kernel_rfl),call41⟩
def iY (xa:(List Tq4)) (xb:Tq4):Int→Option (Int⊕(Unit⊕Int)):=fun i1=>cond (decide (i1 < (xa.length:Int))) ((ab xa i1).bind fun x2=>cond (decide (xb=x2)) (some (.inr ((.inr (i1))))) (some (.inl (IntKind.wrap .i64 (i1 + 1))))) (some (.inr ((.inl ()))))
def kU (xa:(List Tq4)) (xb:Tq4):Option Int :=
 (loop (iY xa xb) 0).bind fun o=>match o with | .inr r=>some r | .inl ()=>some ((-1))
def ym:Hn Tryd.prog := .jx [] ⟨[],[]⟩ [] (.lp ⟨[kdI 8],[]⟩ (.tw 9 (.tw 16 .nil .nil) .nil)) .nil
def zf:Spec:=⟨70,⟨[(0,.dat (.sl .str)),(1,.dat .str)],[]⟩,[⟨[kdI 0],[]⟩],fun x=>kU x.1 x.2⟩
def y7:OkSpec Tryd.prog:=⟨zf,aj func70 ym (by kernel_rfl) (by kernel_rfl),call70⟩

def aX (xa:(List Tq4)) (xb:Tq4):Option Bool :=
 (kU xa xb).bind fun i10=>some (decide (0≤i10))
def xm:Hn Tryd.prog := .cl y7 [] .nil
def yD:Spec:=⟨55,⟨[(0,.dat (.sl .str)),(1,.dat .str)],[]⟩,[⟨[kdB 0],[]⟩],fun x=>aX x.1 x.2⟩
def dP:OkSpec Tryd.prog:=⟨yD,aj func55 xm (by kernel_rfl) (by kernel_rfl),call55⟩

def rz (xb:Tq4) (qa0:Int) (qa1:Int) (qa2:Tq6) (qa4:Tq3) (qa5:(List Tq2)) (qa6:(List Tq1)) (qa7:Int):Option ((Bool×Tq6×Tq3×(List Tq2)×(List Tq1))) :=
 cond (decide (qa7=0)) ((aX (([([114,101,103,105,111,110,115]:List UInt8)]:List Tq4)) xb).bind fun t3=>some ((t3,qa2,qa4,qa5,qa6))) (cond (decide (qa7=1)) ((aX (([([98,111,117,110,100,115]:List UInt8)]:List Tq4)) xb).bind fun t9=>some ((t9,qa2,qa4,qa5,qa6))) (cond (decide (qa7=2)) ((aX (([([108,111,99,97,108]:List UInt8),([103,105,118,101,115]:List UInt8)]:List Tq4)) xb).bind fun t10=>some ((t10,qa2,qa4,qa5,qa6))) (cond (decide (qa7=3)) ((aX (([([115,105,103]:List UInt8),([98,108,111,99,107]:List UInt8)]:List Tq4)) xb).bind fun t11=>some ((t11,qa2,qa4,qa5,qa6))) (cond (decide (qa7=4)) ((aX (([([110,101,101,100,115]:List UInt8)]:List Tq4)) xb).bind fun t12=>some ((t12,qa2,qa4,qa5,qa6))) (cond (decide (qa7=5)) ((aX (([([97,114,103]:List UInt8),([115,105,103]:List UInt8),([98,108,111,99,107]:List UInt8)]:List Tq4)) xb).bind fun t13=>some ((t13,qa2,qa4,qa5,qa6))) (cond (decide (qa7=6)) ((aX (([([110,111,112]:List UInt8),([97,115,115,105,103,110]:List UInt8),([98,111,114,114,111,119]:List UInt8),([114,101,98,111,114,114,111,119]:List UInt8),([117,115,101]:List UInt8),([100,101,97,100]:List UInt8),([103,111,116,111]:List UInt8),([115,119,105,116,99,104]:List UInt8),([114,101,116,117,114,110]:List UInt8),([99,97,108,108]:List UInt8)]:List Tq4)) xb).bind fun t14=>some ((t14,qa2,qa4,qa5,qa6))) (cond (decide (qa7=7)) ((aX (([([98,108,111,99,107]:List UInt8)]:List Tq4)) xb).bind fun t15=>some ((t15,qa2,qa4,qa5,qa6))) ((aX ([]) xb).bind fun t16=>some ((t16,qa2,qa4,qa5,qa6))))))))))
def nA (xa:Tq4):Int→Option (Int⊕(Unit⊕Bool)):=fun i1=>cond (decide (i1 < (xa.length:Int))) ((ab xa i1).bind fun x2=>(cond (decide ((((x2.toNat:Nat):Int)) < 48)) (some (true)) ((ab xa i1).bind fun x3=>some (decide (57 < (((x3.toNat:Nat):Int)))))).bind fun t4=>cond (t4) (some (.inr ((.inr (false))))) (some (.inl (IntKind.wrap .i64 (i1 + 1))))) (some (.inr ((.inl ()))))
def i8 (xa:Tq4):Option Bool :=
 (cond (decide (xa=([]:List UInt8))) (some (true)) ((cond (decide (1 < (xa.length:Int))) ((ab xa 0).bind fun x1=>some (decide ((((x1.toNat:Nat):Int))=48))) (some (false))).bind fun t2=>some (t2))).bind fun t3=>cond (t3) (some (false)) ((loop (nA xa) 0).bind fun o=>match o with | .inr r=>some r | .inl ()=>some (true))
def xB:Hn Tryd.prog := .gj 8 ⟨[kdB 15],[]⟩ [] (.two 6 .nil (.wt 10 (.gj 3 ⟨[kdB 14],[]⟩ [] (.two 10 .nil .nil) .nil))) (.tw 15 .nil (.jx [] ⟨[],[]⟩ [] (.lp ⟨[kdI 3],[]⟩ (.tw 19 (.gj 4 ⟨[kdB 31],[]⟩ [] (.two 26 .nil .nil) (.tw 31 .nil .nil)) .nil)) .nil))
def yY:Spec:=⟨63,⟨[(0,.dat .str)],[]⟩,[⟨[kdB 0],[]⟩],fun x=>i8 x⟩
def yQ:OkSpec Tryd.prog:=⟨yY,aj func63 xB (by kernel_rfl) (by kernel_rfl),call63⟩
def dn (xa:Tq4) (xb:Int):(Int×Int)→Option ((Int×Int)⊕(Int⊕(Int×Int))):=fun (i1,i2)=>cond (decide (i2 < (xa.length:Int))) ((ab xa i2).bind fun x3=>cond ((decide (xb < (IntKind.wrap .i64 (IntKind.wrap .u8 ((((x3.toNat:Nat):Int)) - 48)))))||(decide ((IntKind.wrap .i64 (Int.tdiv (IntKind.wrap .i64 (xb - (IntKind.wrap .i64 (IntKind.wrap .u8 ((((x3.toNat:Nat):Int)) - 48))))) 10)) < i1))) (some (.inr ((.inr ((0,5)))))) (some (.inl ((IntKind.wrap .i64 ((IntKind.wrap .i64 (i1 * 10)) + (IntKind.wrap .i64 (IntKind.wrap .u8 ((((x3.toNat:Nat):Int)) - 48)))),IntKind.wrap .i64 (i2 + 1)))))) (some (.inr (.inl i1)))
def dp (xa:Tq4) (xb:Int):Option (Int×Int) :=
 (i8 xa).bind fun t88=>cond (!t88) (some ((0,3))) ((loop (dn xa xb) (0,0)).bind fun o=>match o with | .inr r=>some r | .inl i1=>some ((i1,0)))
def xk:Hn Tryd.prog := .cl yQ [] (.tw 11 .nil (.jx [] ⟨[kdI 6],[]⟩ [] (.lp ⟨[kdI 6,kdI 7],[]⟩ (.tw 15 (.gp 6 (.tw 33 .nil .nil)) .nil)) .nil))
def zt:Spec:=⟨47,⟨[(0,.dat .str),kdI 1],[]⟩,[⟨[(0,.tup [.dat Yq1,.dat Yq1])],[]⟩],fun x=>dp x.1 x.2⟩
def gt:OkSpec Tryd.prog:=⟨zt,aj func47 xk (by kernel_rfl) (by kernel_rfl),call47⟩
def gF (xb:Int) (l1:List Tq4):((List Int)×Int)→Option (((List Int)×Int)⊕((List Int)⊕((List Int)×Int))):=fun (l2,i3)=>cond (decide (i3 < (l1.length:Int))) ((ab l1 i3).bind fun x4=>(dp x4 xb).bind fun (i5,i6)=>cond (!decide (i6=0)) (some (.inr ((.inr (([],i6)))))) ((app l2 ([i5]:List Int)).bind fun z7=>some (.inl ((z7,IntKind.wrap .i64 (i3 + 1)))))) (some (.inr (.inl l2)))
def gH (xa:Tq4) (xb:Int):Option (((List Int)×Int)) :=
 cond (decide (xa=([]:List UInt8))) (some (([],0))) ((b9 xa ([44]:List UInt8)).bind fun l1=>(loop (gF xb l1) ([],0)).bind fun o=>match o with | .inr r=>some r | .inl l2=>some ((l2,0)))
def xf:Hn Tryd.prog := .tw 12 .nil (.cl eS [] (.jx [] ⟨[(6,.own 3 Yq1)],[]⟩ [] (.lp ⟨[(6,.own 3 Yq1),kdI 16],[]⟩ (.tw 17 (.cl gt [] (.tw 27 .nil .nil)) .nil)) .nil))
def wS:Spec:=⟨82,⟨[(0,.dat .str),kdI 1],[]⟩,[⟨[(0,.tup [.own 3 Yq1,.dat Yq1])],[]⟩],fun x=>gH x.1 x.2⟩
def yk:OkSpec Tryd.prog:=⟨wS,aj func82 xf (by kernel_rfl) (by kernel_rfl),call82⟩

def kY (xa:Tq4):Option (((List Int)×Int)) :=
 cond (decide (xa=([45]:List UInt8))) (some (([],0))) ((gH xa 1048576).bind fun (l23,i24)=>some ((l23,i24)))
def yf:Hn Tryd.prog := .tw 5 .nil (.cl yk [] .nil)
def wX:Spec:=⟨81,⟨[(0,.dat .str)],[]⟩,[⟨[(0,.tup [.own 3 Yq1,.dat Yq1])],[]⟩],fun x=>kY x⟩
def yP:OkSpec Tryd.prog:=⟨wX,aj func81 yf (by kernel_rfl) (by kernel_rfl),call81⟩

def iV (qa0:(List Tq4)) (qa1:Int):Option (((List Int)×(List Tq4)×Int)) :=
 cond (!decide (qa1=0)) (some (([],qa0,qa1))) ((ab qa0 0).bind fun x40=>(kY x40).bind fun (l51,i52)=>(subL qa0 1 (qa0.length:Int)).bind fun y60=>some ((l51,y60,i52)))
def yx:Hn Tryd.prog := .tw 10 .nil (.cl yP [] .nil)
def xd:Spec:=⟨80,⟨[(0,.ptr 0 0),(1,.fn 81 [])],[bkN 96 [.dat (.sl .str),.dat Yq1]]⟩,[⟨[(0,.own 3 Yq1)],[bkC 0 96 [.dat (.sl .str),.dat Yq1]]⟩],fun x=>iV x.1 x.2⟩
def zi:OkSpec Tryd.prog:=⟨xd,aj func80 yx (by kernel_rfl) (by kernel_rfl),call80⟩

def cG (qa0:(List Tq4)) (qa1:Int):Option (((List Int)×(List Tq4)×Int)) :=
 (iV qa0 qa1).bind fun (l28,l29,i30)=>some ((l28,l29,i30))
def y6:Hn Tryd.prog := .cl zi [] .nil
def xI:Spec:=⟨71,⟨[(0,.ptr 0 0)],[bkN 96 [.dat (.sl .str),.dat Yq1]]⟩,[⟨[(0,.own 3 Yq1)],[bkC 0 96 [.dat (.sl .str),.dat Yq1]]⟩],fun x=>cG x.1 x.2⟩
def gD:OkSpec Tryd.prog:=⟨xI,aj func71 y6 (by kernel_rfl) (by kernel_rfl),call71⟩

def kW (xa:Tq4):Option (Int×Int) :=
 (dp xa 1048576).bind fun (i13,i14)=>some ((i13,i14))
def zm:Hn Tryd.prog := .cl gt [] .nil
def xC:Spec:=⟨73,⟨[(0,.dat .str)],[]⟩,[⟨[(0,.tup [.dat Yq1,.dat Yq1])],[]⟩],fun x=>kW x⟩
def yz:OkSpec Tryd.prog:=⟨xC,aj func73 zm (by kernel_rfl) (by kernel_rfl),call73⟩

def iT (qa0:(List Tq4)) (qa1:Int):Option ((Int×(List Tq4)×Int)) :=
 cond (!decide (qa1=0)) (some ((0,qa0,qa1))) ((ab qa0 0).bind fun x31=>(kW x31).bind fun (i42,i43)=>(subL qa0 1 (qa0.length:Int)).bind fun y47=>some ((i42,y47,i43)))
def yV:Hn Tryd.prog := .tw 10 .nil (.cl yz [] .nil)
def w9:Spec:=⟨72,⟨[(0,.ptr 0 0),(1,.fn 73 [])],[bkN 96 [.dat (.sl .str),.dat Yq1]]⟩,[⟨[kdI 0],[bkC 0 96 [.dat (.sl .str),.dat Yq1]]⟩],fun x=>iT x.1 x.2⟩
def xt:OkSpec Tryd.prog:=⟨w9,aj func72 yV (by kernel_rfl) (by kernel_rfl),call72⟩

def aZ (qa0:(List Tq4)) (qa1:Int):Option ((Int×(List Tq4)×Int)) :=
 (iT qa0 qa1).bind fun (i21,l22,i23)=>some ((i21,l22,i23))
def xo:Hn Tryd.prog := .cl xt [] .nil
def yC:Spec:=⟨58,⟨[(0,.ptr 0 0)],[bkN 96 [.dat (.sl .str),.dat Yq1]]⟩,[⟨[kdI 0],[bkC 0 96 [.dat (.sl .str),.dat Yq1]]⟩],fun x=>aZ x.1 x.2⟩
def cE:OkSpec Tryd.prog:=⟨yC,aj func58 xo (by kernel_rfl) (by kernel_rfl),call58⟩

def cV (xa:Tq4) (qa0:(List Tq4)) (qa1:Int):Option ((Int×Int×Int×(List Int)×(List Int)×(List Int)×Bool×(List Tq4)×Int)) :=
 cond (decide (xa=([103,111,116,111]:List UInt8))) ((cG qa0 qa1).bind fun (l2,l3,i4)=>some ((1,0,0,l2,[],[],true,l3,i4))) (cond (decide (xa=([115,119,105,116,99,104]:List UInt8))) ((cG qa0 qa1).bind fun (l5,l6,i7)=>(cG l6 i7).bind fun (l9,l10,i11)=>some ((2,0,0,l5,l9,[],true,l10,i11))) (cond (decide (xa=([114,101,116,117,114,110]:List UInt8))) (some ((3,0,0,[],[],[],true,qa0,qa1))) (cond (decide (xa=([99,97,108,108]:List UInt8))) ((aZ qa0 qa1).bind fun (i12,l13,i14)=>(aZ l13 i14).bind fun (i15,l16,i17)=>(cG l16 i17).bind fun (l18,l19,i20)=>(cG l19 i20).bind fun (l21,l22,i23)=>(cG l22 i23).bind fun (l24,l25,i26)=>some ((4,i12,i15,l18,l24,l21,true,l25,i26))) (some ((0,0,0,[],[],[],false,qa0,qa1))))))
def yS:Hn Tryd.prog := .tw 9 (.cl gD [] .nil) (.tw 15 (.cl gD [] (.cl gD [] .nil)) (.tw 24 .nil (.tw 27 (.cl cE [] (.cl cE [] (.cl gD [] (.cl gD [] (.cl gD [] .nil))))) .nil)))
def zn:Spec:=⟨56,⟨[(0,.dat .str),(1,.ptr 0 0)],[bkN 96 [.dat (.sl .str),.dat Yq1]]⟩,[⟨[(0,.tup [.agg [.dat Yq1,.dat Yq1,.dat Yq1,.own 3 Yq1,.own 3 Yq1,.own 3 Yq1],.dat .bool])],[bkC 0 96 [.dat (.sl .str),.dat Yq1]]⟩],fun x=>cV x.1 x.2.1 x.2.2⟩
def wP:OkSpec Tryd.prog:=⟨zn,aj func56 yS (by kernel_rfl) (by kernel_rfl),call56⟩

def bU (xa:(List Tq4)) (qa0:(List Tq4)) (qa1:Int):Option ((Int×Int×Int×Int×Bool×(List Tq4)×Int)) :=
 (ab xa 0).bind fun x2=>cond (decide (x2=([97,115,115,105,103,110]:List UInt8))) ((aZ qa0 qa1).bind fun (i3,l4,i5)=>(aZ l4 i5).bind fun (i6,l7,i9)=>some ((1,i3,i6,0,false,l7,i9))) ((cond (decide (x2=([98,111,114,114,111,119]:List UInt8))) (some (decide (x2=([98,111,114,114,111,119]:List UInt8)))) (some (decide (x2=([114,101,98,111,114,114,111,119]:List UInt8)))):Option Bool).bind fun t10=>cond (t10) (((ab xa 0).bind fun x11=>cond (decide (x11=([114,101,98,111,114,114,111,119]:List UInt8))) (some (3)) (some (2)):Option Int).bind fun i12=>((cond (decide ((xa.length:Int)=5)) ((ab xa 4).bind fun x13=>some (!decide (x13=([109,117,116]:List UInt8)))) (some (false))).bind fun t14=>cond (t14) (some (3)) (some (qa1)):Option Int).bind fun i15=>(aZ qa0 i15).bind fun (i16,l17,i18)=>(aZ l17 i18).bind fun (i19,l20,i21)=>(aZ l20 i21).bind fun (i22,l23,i24)=>some ((i12,i16,i19,i22,decide ((xa.length:Int)=5),l23,i24))) (cond (decide (x2=([117,115,101]:List UInt8))) ((aZ qa0 qa1).bind fun (i25,l26,i27)=>some ((4,0,i25,0,false,l26,i27))) (cond (decide (x2=([100,101,97,100]:List UInt8))) ((aZ qa0 qa1).bind fun (i28,l29,i30)=>some ((5,i28,0,0,false,l29,i30))) (some ((0,0,0,0,false,qa0,qa1))))))
def yd:Hn Tryd.prog := .tw 9 (.cl cE [] (.cl cE [] .nil)) (.sq [] ⟨[kdB 18],[]⟩ [] (.tw 18 .nil .nil) (.tw 18 (.pl (.sq [] ⟨[],[bkC 4 120 [.dat Yq1,.lit (.int .i64 0),.lit (.int .i64 0),.lit (.int .i64 0),.lit (.bool false)]]⟩ [4] (.tw 25 .nil .nil) (.pl (.sq [(0,0)] ⟨[],[bkC 0 96 [.is 1 (.any),.dat Yq1],bkU 9]⟩ [0] (.gj 4 ⟨[kdB 38],[]⟩ [] (.two 33 .nil .nil) (.tw 38 .nil .nil)) (.cl cE [] (.cl cE [] (.cl cE [] .nil))))))) (.tw 51 (.cl cE [] .nil) (.tw 57 (.cl cE [] .nil) .nil))))
def wN:Spec:=⟨57,⟨[(0,.dat (.sl .str)),(1,.ptr 0 0)],[bkN 96 [.dat (.sl .str),.dat Yq1]]⟩,[⟨[(0,.agg [.dat Yq1,.dat Yq1,.dat Yq1,.dat Yq1,.dat .bool])],[bkC 0 96 [.dat (.sl .str),.dat Yq1]]⟩],fun x=>bU x.1 x.2.1 x.2.2⟩
def qU:OkSpec Tryd.prog:=⟨wN,aj func57 yd (by kernel_rfl) (by kernel_rfl),call57⟩

def ru (xb:(List Tq4)) (qa0:Int) (qa1:Int) (qa2:Tq6) (qa4:Tq3) (qa5:(List Tq2)) (qa6:(List Tq1)) (qa7:Int) (qb0:(List Tq4)) (qb1:Int):Option ((Tq6×Tq3×(List Tq2)×(List Tq1)×Int×(List Tq4)×Int)) :=
 (ab qa6 (IntKind.wrap .i64 ((qa6.length:Int) - 1))).bind fun _=>(ab xb 0).bind fun x3=>(cV x3 qb0 qb1).bind fun (i9,i10,i11,l12,l13,l14,t15,l16,i17)=>cond (t15) ((ab qa6 (IntKind.wrap .i64 ((qa6.length:Int) - 1))).bind fun x18=>(az (IntKind.wrap .i64 ((qa6.length:Int) - 1)) (IntKind.wrap .i64 ((qa6.length:Int) - 1))).bind fun _=>some ((qa2,qa4,qa5,qa6.set (IntKind.wrap .i64 ((qa6.length:Int) - 1)).toNat ((x18.1,(i9,i10,i11,l12,l13,l14))),7,l16,i17))) ((((ab qa6 (IntKind.wrap .i64 ((qa6.length:Int) - 1))).bind fun x19=>(az (IntKind.wrap .i64 ((qa6.length:Int) - 1)) (IntKind.wrap .i64 ((qa6.length:Int) - 1))).bind fun _=>(bU xb l16 i17).bind fun (i20,i21,i22,i23,t24,l25,i26)=>(app x19.1 (([(i20,i21,i22,i23,t24)]:List (Int×Int×Int×Int×Bool)))).bind fun z27=>(az (IntKind.wrap .i64 ((qa6.length:Int) - 1)) (IntKind.wrap .i64 ((qa6.length:Int) - 1))).bind fun _=>some ((l25,i26,qa6.set (IntKind.wrap .i64 ((qa6.length:Int) - 1)).toNat ((z27,(x19.2.1,x19.2.2.1,x19.2.2.2.1,x19.2.2.2.2.1,x19.2.2.2.2.2.1,x19.2.2.2.2.2.2)))))).bind fun x28=>((bU xb l16 i17).bind fun (i29,i30,i31,i32,t33,l34,i35)=>((ab qa6 (IntKind.wrap .i64 ((qa6.length:Int) - 1))).bind fun x36=>(az (IntKind.wrap .i64 ((qa6.length:Int) - 1)) (IntKind.wrap .i64 ((qa6.length:Int) - 1))).bind fun _=>(app x36.1 (([(i29,i30,i31,i32,t33)]:List (Int×Int×Int×Int×Bool)))).bind fun z37=>(az (IntKind.wrap .i64 ((qa6.length:Int) - 1)) (IntKind.wrap .i64 ((qa6.length:Int) - 1))).bind fun _=>some ((l34,i35,qa6.set (IntKind.wrap .i64 ((qa6.length:Int) - 1)).toNat ((z37,(x36.2.1,x36.2.2.1,x36.2.2.2.1,x36.2.2.2.2.1,x36.2.2.2.2.2.1,x36.2.2.2.2.2.2)))))).bind fun x38=>((ab qa6 (IntKind.wrap .i64 ((qa6.length:Int) - 1))).bind fun x39=>(az (IntKind.wrap .i64 ((qa6.length:Int) - 1)) (IntKind.wrap .i64 ((qa6.length:Int) - 1))).bind fun _=>(app x39.1 (([(i29,i30,i31,i32,t33)]:List (Int×Int×Int×Int×Bool)))).bind fun z40=>(az (IntKind.wrap .i64 ((qa6.length:Int) - 1)) (IntKind.wrap .i64 ((qa6.length:Int) - 1))).bind fun _=>some ((l34,i35,qa6.set (IntKind.wrap .i64 ((qa6.length:Int) - 1)).toNat ((z40,(x39.2.1,x39.2.2.1,x39.2.2.2.1,x39.2.2.2.2.1,x39.2.2.2.2.2.1,x39.2.2.2.2.2.2)))))).bind fun y41=>agr x38 y41 (some x38)).bind fun y42=>agr x28 y42 (some x28):Option (((List Tq4)×Int×(List Tq1)))).bind fun (l43,i44,l45)=>some ((qa2,qa4,qa5,l45,qa7,l43,i44)))
def eK (xa:Tq4) (xb:Int):Option (Int×Int×Int) :=
 (iG xa ([58]:List UInt8)).bind fun (s33,s34,t35)=>cond (!t35) (some ((0,0,3))) ((dp s33 xb).bind fun (i42,i43)=>cond (!decide (i43=0)) (some ((0,0,i43))) ((dp s34 xb).bind fun (i50,i51)=>cond (!decide (i51=0)) (some ((0,0,i51))) (some ((i42,i50,0)))))
def wW:Hn Tryd.prog := .cl vG [] (.tw 19 .nil (.cl gt [] (.tw 28 .nil (.cl gt [] (.tw 38 .nil .nil)))))
def wV:Spec:=⟨31,⟨[(0,.dat .str),kdI 1],[]⟩,[⟨[(0,.tup [.agg [.dat Yq1,.dat Yq1],.dat Yq1])],[]⟩],fun x=>eK x.1 x.2⟩
def ri:OkSpec Tryd.prog:=⟨wV,aj func31 wW (by kernel_rfl) (by kernel_rfl),call31⟩

def kX (xa:Tq4):Option (Int×Int×Int) :=
 (eK xa 1048576).bind fun (i17,i18,i19)=>some ((i17,i18,i19))
def xA:Hn Tryd.prog := .cl ri [] .nil
def zh:Spec:=⟨75,⟨[(0,.dat .str)],[]⟩,[⟨[(0,.tup [.agg [.dat Yq1,.dat Yq1],.dat Yq1])],[]⟩],fun x=>kX x⟩
def xS:OkSpec Tryd.prog:=⟨zh,aj func75 xA (by kernel_rfl) (by kernel_rfl),call75⟩

def iP (qa0:(List Tq4)) (qa1:Int):Option ((Int×Int×(List Tq4)×Int)) :=
 cond (!decide (qa1=0)) (some ((0,0,qa0,qa1))) ((ab qa0 0).bind fun x38=>(kX x38).bind fun (i49,i50,i51)=>(subL qa0 1 (qa0.length:Int)).bind fun y55=>some ((i49,i50,y55,i51)))
def wU:Hn Tryd.prog := .tw 10 .nil (.cl xS [] .nil)
def yZ:Spec:=⟨74,⟨[(0,.ptr 0 0),(1,.fn 75 [])],[bkN 96 [.dat (.sl .str),.dat Yq1]]⟩,[⟨[(0,.agg [.dat Yq1,.dat Yq1])],[bkC 0 96 [.dat (.sl .str),.dat Yq1]]⟩],fun x=>iP x.1 x.2⟩
def yM:OkSpec Tryd.prog:=⟨yZ,aj func74 wU (by kernel_rfl) (by kernel_rfl),call74⟩
def fw  : (Tq6×(List Tq4)×Int)→Option ((Tq6×(List Tq4)×Int)⊕(Tq6×(List Tq4)×Int)):=fun (l1,l2,i3)=>cond ((decide (0 < (l2.length:Int)))&&(decide (i3=0))) ((iP l2 i3).bind fun (i4,i5,l6,i7)=>(app l1 (([(i4,i5)]:List (Int×Int)))).bind fun z9=>some (.inl (z9,l6,i7))) (some (.inr (((l1,l2,i3)))))
def eI (qa0:(List Tq4)) (qa1:Int):Option ((Tq6×(List Tq4)×Int)) :=
 (loop (fw) ([],qa0,qa1)).bind fun (l2,l3,i4)=>some ((l2,l3,i4))
def xF:Hn Tryd.prog := .jn [] ⟨[(3,.own 80 Yq4)],[bkC 0 96 [.dat (.sl .str),.dat Yq1]]⟩ [0] (.lp ⟨[(3,.own 80 Yq4)],[bkC 0 96 [.dat (.sl .str),.dat Yq1]]⟩ (.gp 5 (.tw 16 (.cl yM [] .nil) .nil))) .nil
def xq:Spec:=⟨59,⟨[(0,.ptr 0 0)],[bkN 96 [.dat (.sl .str),.dat Yq1]]⟩,[⟨[(0,.own 80 Yq4)],[bkC 0 96 [.dat (.sl .str),.dat Yq1]]⟩],fun x=>eI x.1 x.2⟩
def rk:OkSpec Tryd.prog:=⟨xq,aj func59 xF (by kernel_rfl) (by kernel_rfl),call59⟩

def kS (xa:Tq4) (xb:Tq4):Option Bool :=
 (cond (decide ((xb.length:Int)≤(xa.length:Int))) ((subL xa (IntKind.wrap .i64 ((xa.length:Int) - (xb.length:Int))) (xa.length:Int)).bind fun y14=>some (decide (y14=xb))) (some (false))).bind fun t12=>some (t12)
def xg:Hn Tryd.prog := .gj 9 ⟨[kdB 20],[]⟩ [] (.two 10 .nil .nil) .nil
def xx:Spec:=⟨85,⟨[(0,.dat .str),(1,.dat .str)],[]⟩,[⟨[kdB 0],[]⟩],fun x=>kS x.1 x.2⟩
def yH:OkSpec Tryd.prog:=⟨xx,aj func85 xg (by kernel_rfl) (by kernel_rfl),call85⟩

def kT (xa:Tq4) (xb:Tq4):Option (List UInt8×Bool) :=
 (kS xa xb).bind fun t14=>cond (!t14) (some ((xa,false))) ((subL xa 0 (IntKind.wrap .i64 ((xa.length:Int) - (xb.length:Int)))).bind fun y19=>some ((y19,true)))
def xe:Hn Tryd.prog := .cl yH [] (.tw 9 .nil .nil)
def yJ:Spec:=⟨84,⟨[(0,.dat .str),(1,.dat .str)],[]⟩,[⟨[(0,.tup [.dat .str,.dat .bool])],[]⟩],fun x=>kT x.1 x.2⟩
def yT:OkSpec Tryd.prog:=⟨yJ,aj func84 xe (by kernel_rfl) (by kernel_rfl),call84⟩

def iZ (xa:Tq4) (xb:Tq4):Option (List UInt8×Bool) :=
 (kT xa xb).bind fun (s12,t13)=>some ((s12,t13))
def y9:Hn Tryd.prog := .cl yT [] .nil
def xQ:Spec:=⟨83,⟨[(0,.dat .str),(1,.dat .str)],[]⟩,[⟨[(0,.tup [.dat .str,.dat .bool])],[]⟩],fun x=>iZ x.1 x.2⟩
def yK:OkSpec Tryd.prog:=⟨xQ,aj func83 y9 (by kernel_rfl) (by kernel_rfl),call83⟩
def gI (l1:List Tq4):(Int×Tq3)→Option ((Int×Tq3)⊕(Tq3⊕(Tq3×Int))):=fun (i2,l3)=>cond (decide (i2 < (l1.length:Int))) ((ab l1 i2).bind fun x4=>(iZ x4 ([33]:List UInt8)).bind fun (s5,t6)=>(dp s5 1048576).bind fun (i7,i9)=>cond (!decide (i9=0)) (some (.inr ((.inr (([],i9)))))) ((app l3 (([(i7,t6)]:List (Int×Bool)))).bind fun z10=>some (.inl ((IntKind.wrap .i64 (i2 + 1),z10))))) (some (.inr (.inl l3)))
def jd (xa:Tq4):Option ((Tq3×Int)) :=
 cond (decide (xa=([45]:List UInt8))) (some (([],0))) ((b9 xa ([47]:List UInt8)).bind fun l1=>(loop (gI l1) (0,[])).bind fun o=>match o with | .inr r=>some r | .inl l2=>some ((l2,0)))
def xR:Hn Tryd.prog := .tw 12 .nil (.cl eS [] (.jx [] ⟨[],[bkC 0 26 [.nils],bkC 2 26 [.own 155 Yq2]]⟩ [2,0] (.lp ⟨[kdI 17],[bkC 0 26 [.nils],bkC 2 26 [.own 155 Yq2]]⟩ (.tw 18 (.cl yK [] (.cl gt [] (.tw 32 .nil .nil))) .nil)) .nil))
def za:Spec:=⟨77,⟨[(0,.dat .str)],[]⟩,[⟨[(0,.tup [.agg [.own 155 Yq2],.dat Yq1])],[]⟩],fun x=>jd x⟩
def yv:OkSpec Tryd.prog:=⟨za,aj func77 xR (by kernel_rfl) (by kernel_rfl),call77⟩

def iU (qa0:(List Tq4)) (qa1:Int):Option ((Tq3×(List Tq4)×Int)) :=
 cond (!decide (qa1=0)) (some (([],qa0,qa1))) ((ab qa0 0).bind fun x45=>(jd x45).bind fun (l56,i57)=>(subL qa0 1 (qa0.length:Int)).bind fun y65=>some ((l56,y65,i57)))
def yF:Hn Tryd.prog := .tw 10 .nil (.cl yv [] .nil)
def wT:Spec:=⟨76,⟨[(0,.ptr 0 0),(1,.fn 77 [])],[bkN 96 [.dat (.sl .str),.dat Yq1]]⟩,[⟨[(0,.agg [.own 155 Yq2])],[bkC 0 96 [.dat (.sl .str),.dat Yq1]]⟩],fun x=>iU x.1 x.2⟩
def zp:OkSpec Tryd.prog:=⟨wT,aj func76 yF (by kernel_rfl) (by kernel_rfl),call76⟩

def bL (qa0:(List Tq4)) (qa1:Int):Option ((Tq3×(List Tq4)×Int)) :=
 (iU qa0 qa1).bind fun (l30,l31,i33)=>some ((l30,l31,i33))
def yg:Hn Tryd.prog := .cl zp [] .nil
def yr:Spec:=⟨60,⟨[(0,.ptr 0 0)],[bkN 96 [.dat (.sl .str),.dat Yq1]]⟩,[⟨[(0,.agg [.own 155 Yq2])],[bkC 0 96 [.dat (.sl .str),.dat Yq1]]⟩],fun x=>bL x.1 x.2⟩
def iB:OkSpec Tryd.prog:=⟨yr,aj func60 yg (by kernel_rfl) (by kernel_rfl),call60⟩

def rq (xb:Tq4) (qa0:Int) (qa1:Int) (qa2:Tq6) (qa4:Tq3) (qa5:(List Tq2)) (qa6:(List Tq1)) (qa7:Int) (qb0:(List Tq4)) (qb1:Int):Option Tq9 :=
 cond (decide (xb=([114,101,103,105,111,110,115]:List UInt8))) ((aZ qb0 qb1).bind fun (i3,l9,i10)=>(aZ l9 i10).bind fun (i11,l12,i13)=>some ((i3,i11,qa2,[],qa4,qa5,qa6,1,l12,i13))) (cond (decide (xb=([98,111,117,110,100,115]:List UInt8))) ((eI qb0 qb1).bind fun (l14,l15,i16)=>some ((qa0,qa1,l14,[],qa4,qa5,qa6,2,l15,i16))) (cond (decide (xb=([108,111,99,97,108]:List UInt8))) ((bL qb0 qb1).bind fun (l17,l18,i19)=>(app (([]:List Tq3)) (([l17]:List Tq3))).bind fun z20=>some ((qa0,qa1,qa2,z20,qa4,qa5,qa6,qa7,l18,i19))) (cond (decide (xb=([103,105,118,101,115]:List UInt8))) ((bL qb0 qb1).bind fun (l21,l22,i23)=>some ((qa0,qa1,qa2,[],l21,qa5,qa6,3,l22,i23))) (cond (decide (xb=([115,105,103]:List UInt8))) ((aZ qb0 qb1).bind fun (i24,l25,i26)=>(bL l25 i26).bind fun (l27,l28,i29)=>(app (qa5:List Tq2) (([(i24,[],[],l27)]:List Tq2):List Tq2)).bind fun z30=>some ((qa0,qa1,qa2,[],qa4,z30,qa6,4,l28,i29))) (cond (decide (xb=([110,101,101,100,115]:List UInt8))) ((eI qb0 qb1).bind fun (l31,l32,i33)=>(ab qa5 (IntKind.wrap .i64 ((qa5.length:Int) - 1))).bind fun _=>(ab qa5 (IntKind.wrap .i64 ((qa5.length:Int) - 1))).bind fun x34=>(az (IntKind.wrap .i64 ((qa5.length:Int) - 1)) (IntKind.wrap .i64 ((qa5.length:Int) - 1))).bind fun _=>some ((qa0,qa1,qa2,[],qa4,qa5.set (IntKind.wrap .i64 ((qa5.length:Int) - 1)).toNat (x34.1,l31,x34.2.2.1,x34.2.2.2),qa6,5,l32,i33))) (cond (decide (xb=([97,114,103]:List UInt8))) ((ab qa5 (IntKind.wrap .i64 ((qa5.length:Int) - 1))).bind fun _=>(((ab qa5 (IntKind.wrap .i64 ((qa5.length:Int) - 1))).bind fun x35=>(az (IntKind.wrap .i64 ((qa5.length:Int) - 1)) (IntKind.wrap .i64 ((qa5.length:Int) - 1))).bind fun _=>(bL qb0 qb1).bind fun (l36,l37,i38)=>(app x35.2.2.1 (([l36]:List Tq3))).bind fun z39=>(az (IntKind.wrap .i64 ((qa5.length:Int) - 1)) (IntKind.wrap .i64 ((qa5.length:Int) - 1))).bind fun _=>some ((l37,i38,qa5.set (IntKind.wrap .i64 ((qa5.length:Int) - 1)).toNat (x35.1,x35.2.1,z39,x35.2.2.2)))).bind fun x40=>((bL qb0 qb1).bind fun (l41,l42,i43)=>((ab qa5 (IntKind.wrap .i64 ((qa5.length:Int) - 1))).bind fun x44=>(az (IntKind.wrap .i64 ((qa5.length:Int) - 1)) (IntKind.wrap .i64 ((qa5.length:Int) - 1))).bind fun _=>(app x44.2.2.1 (([l41]:List Tq3))).bind fun z45=>(az (IntKind.wrap .i64 ((qa5.length:Int) - 1)) (IntKind.wrap .i64 ((qa5.length:Int) - 1))).bind fun _=>some ((l42,i43,qa5.set (IntKind.wrap .i64 ((qa5.length:Int) - 1)).toNat (x44.1,x44.2.1,z45,x44.2.2.2)))).bind fun x46=>((ab qa5 (IntKind.wrap .i64 ((qa5.length:Int) - 1))).bind fun x47=>(az (IntKind.wrap .i64 ((qa5.length:Int) - 1)) (IntKind.wrap .i64 ((qa5.length:Int) - 1))).bind fun _=>(app x47.2.2.1 (([l41]:List Tq3))).bind fun z48=>(az (IntKind.wrap .i64 ((qa5.length:Int) - 1)) (IntKind.wrap .i64 ((qa5.length:Int) - 1))).bind fun _=>some ((l42,i43,qa5.set (IntKind.wrap .i64 ((qa5.length:Int) - 1)).toNat (x47.1,x47.2.1,z48,x47.2.2.2)))).bind fun y49=>agr x46 y49 (some x46)).bind fun y50=>agr x40 y50 (some x40):Option (((List Tq4)×Int×(List Tq2)))).bind fun (l51,i52,l53)=>some ((qa0,qa1,qa2,[],qa4,l53,qa6,qa7,l51,i52))) (cond (decide (xb=([98,108,111,99,107]:List UInt8))) ((app (qa6:List Tq1) (([([],(0,0,0,[],[],[]))]:List Tq1):List Tq1)).bind fun z54=>some ((qa0,qa1,qa2,[],qa4,qa5,z54,6,qb0,qb1))) (some ((qa0,qa1,qa2,[],qa4,qa5,qa6,qa7,qb0,qb1))))))))))
def fn_text_parser_line_p0k_iirnrododi (xb:(List Tq4)) (qa0:Int) (qa1:Int) (qa2:Tq6) (qa4:Tq3) (qa5:(List Tq2)) (qa6:(List Tq1)) (qa7:Int):Option ((Int×Int×Int×Tq6×(List Tq3)×Tq3×(List Tq2)×(List Tq1)×Int)) :=
 (ab xb 0).bind fun x3=>(aL x3).bind fun (i9,i10)=>(ab xb 0).bind fun x11=>(rz x11 qa0 qa1 qa2 qa4 qa5 qa6 qa7).bind fun (t12,l13,l14,l15,l16)=>cond (((!t12)||(decide ((xb.length:Int) < i9)))||(decide (i10 < (xb.length:Int)))) (some ((3,qa0,qa1,l13,[],l14,l15,l16,qa7))) ((subL xb 1 (xb.length:Int)).bind fun y17=>(cond (decide (qa7=6)) ((ru xb qa0 qa1 l13 l14 l15 l16 qa7 y17 0).bind fun (l18,l19,l20,l21,i22,l23,i24)=>some ((qa0,qa1,l18,[],l19,l20,l21,i22,l23,i24))) ((ab xb 0).bind fun x25=>(rq x25 qa0 qa1 l13 l14 l15 l16 qa7 y17 0).bind fun (i26,i27,l28,l29,l30,l31,l32,i33,l34,i35)=>some ((i26,i27,l28,l29,l30,l31,l32,i33,l34,i35))):Option Tq9).bind fun (i36,i37,l38,l39,l40,l41,l42,i43,l44,i45)=>some ((i45,i36,i37,l38,l39,l40,l41,l42,i43)))
def iW (xb:Tq4) (qa0:Int) (qa1:Int) (qa2:Tq6) (qa3:(List Tq3)) (qa4:Tq3) (qa5:(List Tq2)) (qa6:(List Tq1)) (qa7:Int):Option ((Bool×Tq6×(List Tq3)×Tq3×(List Tq2)×(List Tq1))) :=
 cond (decide (qa7=0)) ((aX (([([114,101,103,105,111,110,115]:List UInt8)]:List Tq4)) xb).bind fun t9=>some ((t9,qa2,qa3,qa4,qa5,qa6))) (cond (decide (qa7=1)) ((aX (([([98,111,117,110,100,115]:List UInt8)]:List Tq4)) xb).bind fun t10=>some ((t10,qa2,qa3,qa4,qa5,qa6))) (cond (decide (qa7=2)) ((aX (([([108,111,99,97,108]:List UInt8),([103,105,118,101,115]:List UInt8)]:List Tq4)) xb).bind fun t11=>some ((t11,qa2,qa3,qa4,qa5,qa6))) (cond (decide (qa7=3)) ((aX (([([115,105,103]:List UInt8),([98,108,111,99,107]:List UInt8)]:List Tq4)) xb).bind fun t12=>some ((t12,qa2,qa3,qa4,qa5,qa6))) (cond (decide (qa7=4)) ((aX (([([110,101,101,100,115]:List UInt8)]:List Tq4)) xb).bind fun t13=>some ((t13,qa2,qa3,qa4,qa5,qa6))) (cond (decide (qa7=5)) ((aX (([([97,114,103]:List UInt8),([115,105,103]:List UInt8),([98,108,111,99,107]:List UInt8)]:List Tq4)) xb).bind fun t14=>some ((t14,qa2,qa3,qa4,qa5,qa6))) (cond (decide (qa7=6)) ((aX (([([110,111,112]:List UInt8),([97,115,115,105,103,110]:List UInt8),([98,111,114,114,111,119]:List UInt8),([114,101,98,111,114,114,111,119]:List UInt8),([117,115,101]:List UInt8),([100,101,97,100]:List UInt8),([103,111,116,111]:List UInt8),([115,119,105,116,99,104]:List UInt8),([114,101,116,117,114,110]:List UInt8),([99,97,108,108]:List UInt8)]:List Tq4)) xb).bind fun t15=>some ((t15,qa2,qa3,qa4,qa5,qa6))) (cond (decide (qa7=7)) ((aX (([([98,108,111,99,107]:List UInt8)]:List Tq4)) xb).bind fun t16=>some ((t16,qa2,qa3,qa4,qa5,qa6))) ((aX ([]) xb).bind fun t17=>some ((t17,qa2,qa3,qa4,qa5,qa6))))))))))
def xO:Hn Tryd.prog := .tw 10 (.cl dP [15] .nil) (.tw 13 (.cl dP [15] .nil) (.tw 16 (.cl dP [15] .nil) (.tw 19 (.cl dP [15] .nil) (.tw 22 (.cl dP [15] .nil) (.tw 25 (.cl dP [15] .nil) (.tw 28 (.cl dP [15] .nil) (.tw 31 (.cl dP [15] .nil) (.cl dP [] .nil))))))))
def yw:Spec:=⟨42,⟨[(0,.ptr 0 0),(1,.dat .str)],[bkN 59 [.is 1 (.dat Yq1),.is 2 (.dat Yq1),.own 80 Yq4,.own 26 Yq5,.own 155 Yq2,.od (.row 127 (.cons (.dat Yq1) (.cons (.dat (.sl Yq4)) (.cons (.row 26 (.dat Yq5)) (.one (.dat Yq5)))))),.od (.row 116 (.cons (.row 120 (.dat Yq6)) (.one (.dat Yq3)))),.is 3 (.dat Yq1)],bkM,bkM,bkM]⟩,[⟨[kdB 0],[bkC 0 59 [.is 1 (.any),.is 2 (.any),.own 80 Yq4,.own 26 Yq5,.own 155 Yq2,.od (.row 127 (.cons (.dat Yq1) (.cons (.dat (.sl Yq4)) (.cons (.row 26 (.dat Yq5)) (.one (.dat Yq5)))))),.od (.row 116 (.cons (.row 120 (.dat Yq6)) (.one (.dat Yq3)))),.is 3 (.any)],bkU 1,bkU 2,bkU 3]⟩],fun x=>iW x.1 x.2.1 x.2.2.1 x.2.2.2.1 x.2.2.2.2.1 x.2.2.2.2.2.1 x.2.2.2.2.2.2.1 x.2.2.2.2.2.2.2.1 x.2.2.2.2.2.2.2.2⟩
def yN:OkSpec Tryd.prog:=⟨yw,aj func42 xO (by kernel_rfl) (by kernel_rfl),call42⟩

def eH (xb:(List Tq4)) (qa0:Int) (qa1:Int) (qa2:Tq6) (qa3:(List Tq3)) (qa4:Tq3) (qa5:(List Tq2)) (qa6:(List Tq1)) (qa7:Int) (qb0:(List Tq4)) (qb1:Int):Option ((Tq6×(List Tq3)×Tq3×(List Tq2)×(List Tq1)×Int×(List Tq4)×Int)) :=
 (ab qa6 (IntKind.wrap .i64 ((qa6.length:Int) - 1))).bind fun _=>(ab xb 0).bind fun x9=>(cV x9 qb0 qb1).bind fun (i10,i11,i12,l13,l14,l15,t16,l17,i18)=>cond (t16) ((ab qa6 (IntKind.wrap .i64 ((qa6.length:Int) - 1))).bind fun x19=>(az (IntKind.wrap .i64 ((qa6.length:Int) - 1)) (IntKind.wrap .i64 ((qa6.length:Int) - 1))).bind fun _=>some ((qa2,qa3,qa4,qa5,qa6.set (IntKind.wrap .i64 ((qa6.length:Int) - 1)).toNat ((x19.1,(i10,i11,i12,l13,l14,l15))),7,l17,i18))) ((((ab qa6 (IntKind.wrap .i64 ((qa6.length:Int) - 1))).bind fun x20=>(az (IntKind.wrap .i64 ((qa6.length:Int) - 1)) (IntKind.wrap .i64 ((qa6.length:Int) - 1))).bind fun _=>(bU xb l17 i18).bind fun (i21,i22,i23,i24,t25,l26,i27)=>(app x20.1 (([(i21,i22,i23,i24,t25)]:List (Int×Int×Int×Int×Bool)))).bind fun z28=>(az (IntKind.wrap .i64 ((qa6.length:Int) - 1)) (IntKind.wrap .i64 ((qa6.length:Int) - 1))).bind fun _=>some ((l26,i27,qa6.set (IntKind.wrap .i64 ((qa6.length:Int) - 1)).toNat ((z28,(x20.2.1,x20.2.2.1,x20.2.2.2.1,x20.2.2.2.2.1,x20.2.2.2.2.2.1,x20.2.2.2.2.2.2)))))).bind fun x29=>((bU xb l17 i18).bind fun (i30,i31,i32,i33,t34,l35,i36)=>((ab qa6 (IntKind.wrap .i64 ((qa6.length:Int) - 1))).bind fun x37=>(az (IntKind.wrap .i64 ((qa6.length:Int) - 1)) (IntKind.wrap .i64 ((qa6.length:Int) - 1))).bind fun _=>(app x37.1 (([(i30,i31,i32,i33,t34)]:List (Int×Int×Int×Int×Bool)))).bind fun z38=>(az (IntKind.wrap .i64 ((qa6.length:Int) - 1)) (IntKind.wrap .i64 ((qa6.length:Int) - 1))).bind fun _=>some ((l35,i36,qa6.set (IntKind.wrap .i64 ((qa6.length:Int) - 1)).toNat ((z38,(x37.2.1,x37.2.2.1,x37.2.2.2.1,x37.2.2.2.2.1,x37.2.2.2.2.2.1,x37.2.2.2.2.2.2)))))).bind fun x39=>((ab qa6 (IntKind.wrap .i64 ((qa6.length:Int) - 1))).bind fun x40=>(az (IntKind.wrap .i64 ((qa6.length:Int) - 1)) (IntKind.wrap .i64 ((qa6.length:Int) - 1))).bind fun _=>(app x40.1 (([(i30,i31,i32,i33,t34)]:List (Int×Int×Int×Int×Bool)))).bind fun z41=>(az (IntKind.wrap .i64 ((qa6.length:Int) - 1)) (IntKind.wrap .i64 ((qa6.length:Int) - 1))).bind fun _=>some ((l35,i36,qa6.set (IntKind.wrap .i64 ((qa6.length:Int) - 1)).toNat ((z41,(x40.2.1,x40.2.2.1,x40.2.2.2.1,x40.2.2.2.2.1,x40.2.2.2.2.2.1,x40.2.2.2.2.2.2)))))).bind fun y42=>agr x39 y42 (some x39)).bind fun y43=>agr x29 y43 (some x29):Option (((List Tq4)×Int×(List Tq1)))).bind fun (l44,i45,l46)=>some ((qa2,qa3,qa4,qa5,l46,qa7,l44,i45)))
def yG:Hn Tryd.prog := .mix [] [0,1,2,3,4,5,6,7,8,9,10,11,12,13] [] [] (.cl wP [] (.tw 30 (.wt 34 (.opn 12 1000020 (.per 17 18 (.per 19 20 (.per 21 22 (.cls 12 30 .nil)))))) (.tr (.still [0,1,2,3,5,6] (.alt 4 (.alt 7 (.alt 8 (.alt 9 (.still [10,11] (.alt 12 (.leaf []) .done)) .done) .done) .done) (.alt 7 (.alt 4 (.alt 8 (.alt 9 (.still [10,11] (.alt 12 (.leaf []) .done)) .done) .done) (.alt 8 (.alt 4 (.alt 9 (.still [10,11] (.alt 12 (.leaf []) .done)) .done) .done) .done)) .done))) ⟨[],[bkC 1 96 [.dat (.sl .str),.dat Yq1],bkO 12 (.row 116 (.cons (.row 120 (.dat Yq6)) (.one (.dat Yq3))))]⟩ [1,12] (.two 0 (.wt 41 (.opn 12 1000020 (.cl qU [] (.cls 12 36 .nil)))) (.cl qU [] (.two 0 (.wt 41 (.opn 12 1000020 (.cls 12 36 .nil))) (.wt 41 (.opn 12 1000020 (.cls 12 36 .nil)))))) .nil)))
def zr:Spec:=⟨43,⟨[(0,.ptr 0 0),(1,.dat (.sl .str)),(2,.ptr 1 0)],[bkN 59 [.is 2 (.dat Yq1),.is 3 (.dat Yq1),.own 80 Yq4,.own 26 Yq5,.own 155 Yq2,.od (.row 127 (.cons (.dat Yq1) (.cons (.dat (.sl Yq4)) (.cons (.row 26 (.dat Yq5)) (.one (.dat Yq5)))))),.od (.row 116 (.cons (.row 120 (.dat Yq6)) (.one (.dat Yq3)))),.dat Yq1],bkN 96 [.dat (.sl .str),.dat Yq1],bkM,bkM]⟩,[⟨[],[bkC 0 59 [.is 2 (.any),.is 3 (.any),.own 80 Yq4,.own 26 Yq5,.own 155 Yq2,.od (.row 127 (.cons (.dat Yq1) (.cons (.dat (.sl Yq4)) (.cons (.row 26 (.dat Yq5)) (.one (.dat Yq5)))))),.od (.row 116 (.cons (.row 120 (.dat Yq6)) (.one (.dat Yq3)))),.dat Yq1],bkC 1 96 [.dat (.sl .str),.dat Yq1],bkU 2,bkU 3]⟩],fun x=>eH x.1 x.2.1 x.2.2.1 x.2.2.2.1 x.2.2.2.2.1 x.2.2.2.2.2.1 x.2.2.2.2.2.2.1 x.2.2.2.2.2.2.2.1 x.2.2.2.2.2.2.2.2.1 x.2.2.2.2.2.2.2.2.2.1 x.2.2.2.2.2.2.2.2.2.2⟩
def yi:OkSpec Tryd.prog:=⟨zr,aj func43 yG (by kernel_rfl) (by kernel_rfl),call43⟩

def cF (xb:Tq4) (qa0:Int) (qa1:Int) (qa2:Tq6) (qa3:(List Tq3)) (qa4:Tq3) (qa5:(List Tq2)) (qa6:(List Tq1)) (qa7:Int) (qb0:(List Tq4)) (qb1:Int):Option Tq9 :=
 cond (decide (xb=([114,101,103,105,111,110,115]:List UInt8))) ((aZ qb0 qb1).bind fun (i9,l10,i11)=>(aZ l10 i11).bind fun (i12,l13,i14)=>some ((i9,i12,qa2,qa3,qa4,qa5,qa6,1,l13,i14))) (cond (decide (xb=([98,111,117,110,100,115]:List UInt8))) ((eI qb0 qb1).bind fun (l15,l16,i17)=>some ((qa0,qa1,l15,qa3,qa4,qa5,qa6,2,l16,i17))) (cond (decide (xb=([108,111,99,97,108]:List UInt8))) ((bL qb0 qb1).bind fun (l18,l19,i20)=>(app qa3 (([l18]:List Tq3))).bind fun z21=>some ((qa0,qa1,qa2,z21,qa4,qa5,qa6,qa7,l19,i20))) (cond (decide (xb=([103,105,118,101,115]:List UInt8))) ((bL qb0 qb1).bind fun (l22,l23,i24)=>some ((qa0,qa1,qa2,qa3,l22,qa5,qa6,3,l23,i24))) (cond (decide (xb=([115,105,103]:List UInt8))) ((aZ qb0 qb1).bind fun (i25,l26,i27)=>(bL l26 i27).bind fun (l28,l29,i30)=>(app (qa5:List Tq2) (([(i25,[],[],l28)]:List Tq2):List Tq2)).bind fun z31=>some ((qa0,qa1,qa2,qa3,qa4,z31,qa6,4,l29,i30))) (cond (decide (xb=([110,101,101,100,115]:List UInt8))) ((eI qb0 qb1).bind fun (l32,l33,i34)=>(ab qa5 (IntKind.wrap .i64 ((qa5.length:Int) - 1))).bind fun _=>(ab qa5 (IntKind.wrap .i64 ((qa5.length:Int) - 1))).bind fun x35=>(az (IntKind.wrap .i64 ((qa5.length:Int) - 1)) (IntKind.wrap .i64 ((qa5.length:Int) - 1))).bind fun _=>some ((qa0,qa1,qa2,qa3,qa4,qa5.set (IntKind.wrap .i64 ((qa5.length:Int) - 1)).toNat (x35.1,l32,x35.2.2.1,x35.2.2.2),qa6,5,l33,i34))) (cond (decide (xb=([97,114,103]:List UInt8))) ((ab qa5 (IntKind.wrap .i64 ((qa5.length:Int) - 1))).bind fun _=>(((ab qa5 (IntKind.wrap .i64 ((qa5.length:Int) - 1))).bind fun x36=>(az (IntKind.wrap .i64 ((qa5.length:Int) - 1)) (IntKind.wrap .i64 ((qa5.length:Int) - 1))).bind fun _=>(bL qb0 qb1).bind fun (l37,l38,i39)=>(app x36.2.2.1 (([l37]:List Tq3))).bind fun z40=>(az (IntKind.wrap .i64 ((qa5.length:Int) - 1)) (IntKind.wrap .i64 ((qa5.length:Int) - 1))).bind fun _=>some ((l38,i39,qa5.set (IntKind.wrap .i64 ((qa5.length:Int) - 1)).toNat (x36.1,x36.2.1,z40,x36.2.2.2)))).bind fun x41=>((bL qb0 qb1).bind fun (l42,l43,i44)=>((ab qa5 (IntKind.wrap .i64 ((qa5.length:Int) - 1))).bind fun x45=>(az (IntKind.wrap .i64 ((qa5.length:Int) - 1)) (IntKind.wrap .i64 ((qa5.length:Int) - 1))).bind fun _=>(app x45.2.2.1 (([l42]:List Tq3))).bind fun z46=>(az (IntKind.wrap .i64 ((qa5.length:Int) - 1)) (IntKind.wrap .i64 ((qa5.length:Int) - 1))).bind fun _=>some ((l43,i44,qa5.set (IntKind.wrap .i64 ((qa5.length:Int) - 1)).toNat (x45.1,x45.2.1,z46,x45.2.2.2)))).bind fun x47=>((ab qa5 (IntKind.wrap .i64 ((qa5.length:Int) - 1))).bind fun x48=>(az (IntKind.wrap .i64 ((qa5.length:Int) - 1)) (IntKind.wrap .i64 ((qa5.length:Int) - 1))).bind fun _=>(app x48.2.2.1 (([l42]:List Tq3))).bind fun z49=>(az (IntKind.wrap .i64 ((qa5.length:Int) - 1)) (IntKind.wrap .i64 ((qa5.length:Int) - 1))).bind fun _=>some ((l43,i44,qa5.set (IntKind.wrap .i64 ((qa5.length:Int) - 1)).toNat (x48.1,x48.2.1,z49,x48.2.2.2)))).bind fun y50=>agr x47 y50 (some x47)).bind fun y51=>agr x41 y51 (some x41):Option (((List Tq4)×Int×(List Tq2)))).bind fun (l52,i53,l54)=>some ((qa0,qa1,qa2,qa3,qa4,l54,qa6,qa7,l52,i53))) (cond (decide (xb=([98,108,111,99,107]:List UInt8))) ((app (qa6:List Tq1) (([([],(0,0,0,[],[],[]))]:List Tq1):List Tq1)).bind fun z55=>some ((qa0,qa1,qa2,qa3,qa4,qa5,z55,6,qb0,qb1))) (some ((qa0,qa1,qa2,qa3,qa4,qa5,qa6,qa7,qb0,qb1))))))))))
def yc:Hn Tryd.prog := .tw 13 (.cl cE [] (.cl cE [] .nil)) (.tw 28 (.cl rk [] .nil) (.tw 38 (.mix [([0,1,2,3,4,5],6),([],7),([],8)] [9,10] [11] [4,1] (.cl iB [] (.per 15 16 .nil))) (.tw 51 (.cl iB [] .nil) (.tw 61 (.cl cE [] (.cl iB [] (.per 20 21 (.mix [([0,1,2,3,4,5],6),([],7)] [8,9] [10] [8] (.ot (.cons (.dat Yq1) (.cons (.dat (.sl Yq4)) (.cons (.row 26 (.dat Yq5)) (.one (.dat Yq5))))) (.ot (.cons (.dat Yq1) (.cons (.dat (.sl Yq4)) (.cons (.row 26 (.dat Yq5)) (.one (.dat Yq5))))) .nil)))))) (.tw 82 (.mix [([0,1,2,3,4,5,6,7,8,9,10],11)] [12,13] [14] [1] (.cl rk [] (.wt 97 (.opn 8 1000093 (.per 15 16 (.cls 8 21 .nil)))))) (.tw 101 (.mix [] [0,1,2,3,4,5,6,7,8,9,10,11] [] [] (.tr (.still [0,1,2,3,5] (.alt 4 (.alt 6 (.alt 7 (.alt 8 (.still [9,10] (.alt 11 (.leaf []) .done)) .done) .done) .done) (.alt 6 (.alt 4 (.alt 7 (.alt 8 (.still [9,10] (.alt 11 (.leaf []) .done)) .done) .done) (.alt 7 (.alt 4 (.alt 8 (.still [9,10] (.alt 11 (.leaf []) .done)) .done) .done) .done)) .done))) ⟨[],[bkC 1 96 [.dat (.sl .str),.dat Yq1],bkO 8 (.row 127 (.cons (.dat Yq1) (.cons (.dat (.sl Yq4)) (.cons (.row 26 (.dat Yq5)) (.one (.dat Yq5))))))]⟩ [1,8] (.two 0 (.wt 117 (.opn 8 1000112 (.cl iB [] (.per 18 19 (.cls 8 25 .nil))))) (.cl iB [] (.two 0 (.wt 117 (.opn 8 1000112 (.per 15 16 (.cls 8 25 .nil)))) (.per 15 16 (.wt 117 (.opn 8 1000112 (.cls 8 25 .nil))))))) .nil)) (.tw 125 (.ot (.cons (.row 120 (.dat Yq6)) (.one (.dat Yq3))) (.ot (.cons (.row 120 (.dat Yq6)) (.one (.dat Yq3))) .nil)) .nil)))))))
def xE:Spec:=⟨44,⟨[(0,.ptr 0 0),(1,.dat .str),(2,.ptr 1 0)],[bkN 59 [.dat Yq1,.dat Yq1,.own 80 Yq4,.own 26 Yq5,.own 155 Yq2,.od (.row 127 (.cons (.dat Yq1) (.cons (.dat (.sl Yq4)) (.cons (.row 26 (.dat Yq5)) (.one (.dat Yq5)))))),.od (.row 116 (.cons (.row 120 (.dat Yq6)) (.one (.dat Yq3)))),.dat Yq1],bkN 96 [.dat (.sl .str),.dat Yq1]]⟩,[⟨[],[bkC 0 59 [.dat Yq1,.dat Yq1,.own 80 Yq4,.own 26 Yq5,.own 155 Yq2,.od (.row 127 (.cons (.dat Yq1) (.cons (.dat (.sl Yq4)) (.cons (.row 26 (.dat Yq5)) (.one (.dat Yq5)))))),.od (.row 116 (.cons (.row 120 (.dat Yq6)) (.one (.dat Yq3)))),.dat Yq1],bkC 1 96 [.dat (.sl .str),.dat Yq1]]⟩],fun x=>cF x.1 x.2.1 x.2.2.1 x.2.2.2.1 x.2.2.2.2.1 x.2.2.2.2.2.1 x.2.2.2.2.2.2.1 x.2.2.2.2.2.2.2.1 x.2.2.2.2.2.2.2.2.1 x.2.2.2.2.2.2.2.2.2.1 x.2.2.2.2.2.2.2.2.2.2⟩
def w7:OkSpec Tryd.prog:=⟨xE,aj func44 yc (by kernel_rfl) (by kernel_rfl),call44⟩

def cU (xb:(List Tq4)) (qa0:Int) (qa1:Int) (qa2:Tq6) (qa3:(List Tq3)) (qa4:Tq3) (qa5:(List Tq2)) (qa6:(List Tq1)) (qa7:Int):Option ((Int×Int×Int×Tq6×(List Tq3)×Tq3×(List Tq2)×(List Tq1)×Int)) :=
 (ab xb 0).bind fun x9=>(aL x9).bind fun (i10,i11)=>(ab xb 0).bind fun x12=>(iW x12 qa0 qa1 qa2 qa3 qa4 qa5 qa6 qa7).bind fun (t13,l14,l15,l16,l17,l18)=>cond (((!t13)||(decide ((xb.length:Int) < i10)))||(decide (i11 < (xb.length:Int)))) (some ((3,qa0,qa1,l14,l15,l16,l17,l18,qa7))) ((subL xb 1 (xb.length:Int)).bind fun y19=>(cond (decide (qa7=6)) ((eH xb qa0 qa1 l14 l15 l16 l17 l18 qa7 y19 0).bind fun (l20,l21,l22,l23,l24,i25,l26,i27)=>some ((qa0,qa1,l20,l21,l22,l23,l24,i25,l26,i27))) ((ab xb 0).bind fun x28=>(cF x28 qa0 qa1 l14 l15 l16 l17 l18 qa7 y19 0).bind fun (i29,i30,l31,l32,l33,l34,l35,i36,l37,i38)=>some ((i29,i30,l31,l32,l33,l34,l35,i36,l37,i38))):Option Tq9).bind fun (i39,i40,l41,l42,l43,l44,l45,i46,l47,i48)=>some ((i48,i39,i40,l41,l42,l43,l44,l45,i46)))
def yu:Hn Tryd.prog := .cl yO [] (.mc 0 0 11 (.mc 0 1 11 (.mc 0 7 11 (.cl yN [] (.gp 4 (.wt 27 (.gp 4 (.tw 32 .nil (.pl (.sq [] ⟨[],[bkC 0 59 [.dat Yq1,.dat Yq1,.own 80 Yq4,.own 26 Yq5,.own 155 Yq2,.od (.row 127 (.cons (.dat Yq1) (.cons (.dat (.sl Yq4)) (.cons (.row 26 (.dat Yq5)) (.one (.dat Yq5)))))),.od (.row 116 (.cons (.row 120 (.dat Yq6)) (.one (.dat Yq3)))),.dat Yq1],bkC 37 96 [.dat (.sl .str),.dat Yq1]]⟩ [37,30,28,26,0,32,34] (.tw 41 (.cl yi [] .nil) (.cl w7 [] .nil)) .nil))))))))))
def xK:Spec:=⟨22,⟨[(0,.ptr 0 0),(1,.dat (.sl .str))],[bkN 59 [.dat Yq1,.dat Yq1,.own 80 Yq4,.own 26 Yq5,.own 155 Yq2,.od (.row 127 (.cons (.dat Yq1) (.cons (.dat (.sl Yq4)) (.cons (.row 26 (.dat Yq5)) (.one (.dat Yq5)))))),.od (.row 116 (.cons (.row 120 (.dat Yq6)) (.one (.dat Yq3)))),.dat Yq1]]⟩,[⟨[kdI 0],[bkC 0 59 [.dat Yq1,.dat Yq1,.own 80 Yq4,.own 26 Yq5,.own 155 Yq2,.od (.row 127 (.cons (.dat Yq1) (.cons (.dat (.sl Yq4)) (.cons (.row 26 (.dat Yq5)) (.one (.dat Yq5)))))),.od (.row 116 (.cons (.row 120 (.dat Yq6)) (.one (.dat Yq3)))),.dat Yq1]]⟩],fun x=>cU x.1 x.2.1 x.2.2.1 x.2.2.2.1 x.2.2.2.2.1 x.2.2.2.2.2.1 x.2.2.2.2.2.2.1 x.2.2.2.2.2.2.2.1 x.2.2.2.2.2.2.2.2⟩
def m5:OkSpec Tryd.prog:=⟨xK,aj func22 yu (by kernel_rfl) (by kernel_rfl),call22⟩

def fv (qa0:Int) (qa1:Int) (qa2:Tq6) (qa3:(List Tq3)) (qa4:Tq3) (qa5:(List Tq2)) (qa6:(List Tq1)) (qa7:Int):Option ((Bool×Tq6×(List Tq3)×Tq3×(List Tq2)×(List Tq1))) :=
 some ((((decide (qa7=3))||(decide (qa7=5)))||(decide (qa7=7)),qa2,qa3,qa4,qa5,qa6))
def zq:Hn Tryd.prog := .gp 5 (.wt 15 (.gp 5 .nil))
def yb:Spec:=⟨23,⟨[(0,.ptr 0 0)],[bkN 59 [.is 1 (.dat Yq1),.is 2 (.dat Yq1),.own 80 Yq4,.own 26 Yq5,.own 155 Yq2,.od (.row 127 (.cons (.dat Yq1) (.cons (.dat (.sl Yq4)) (.cons (.row 26 (.dat Yq5)) (.one (.dat Yq5)))))),.od (.row 116 (.cons (.row 120 (.dat Yq6)) (.one (.dat Yq3)))),.is 3 (.dat Yq1)],bkM,bkM,bkM]⟩,[⟨[kdB 0],[bkC 0 59 [.is 1 (.any),.is 2 (.any),.own 80 Yq4,.own 26 Yq5,.own 155 Yq2,.od (.row 127 (.cons (.dat Yq1) (.cons (.dat (.sl Yq4)) (.cons (.row 26 (.dat Yq5)) (.one (.dat Yq5)))))),.od (.row 116 (.cons (.row 120 (.dat Yq6)) (.one (.dat Yq3)))),.is 3 (.any)],bkU 1,bkU 2,bkU 3]⟩],fun x=>fv x.1 x.2.1 x.2.2.1 x.2.2.2.1 x.2.2.2.2.1 x.2.2.2.2.2.1 x.2.2.2.2.2.2.1 x.2.2.2.2.2.2.2⟩
def nc:OkSpec Tryd.prog:=⟨yb,aj func23 zq (by kernel_rfl) (by kernel_rfl),call23⟩
def rG  : Tq5→Option (Tq5⊕(Tq5⊕Tq7)):=fun (i1,i2,l3,l4,l5,l6,l7,i9,i10,s11)=>cond (decide (0 < (s11.length:Int))) ((rA s11).bind fun (v12,v13)=>(subL s11 0 v13).bind fun y14=>(b9 y14 ([32]:List UInt8)).bind fun l15=>(fu l15).bind fun l16=>(cond (decide ((l16.length:Int)=0)) (some (true)) ((ab l16 0).bind fun x17=>(dm x17 ([35]:List UInt8)).bind fun t18=>some (t18))).bind fun t19=>cond (t19) ((subL s11 v13 (s11.length:Int)).bind fun y20=>some (.inl ((i1,i2,l3,l4,l5,l6,l7,i9,IntKind.wrap .i64 (i10 + 1),y20)))) ((cU l16 i1 i2 l3 l4 l5 l6 l7 i9).bind fun (i21,i22,i23,l24,l25,l26,l27,l28,i29)=>cond (!decide (i21=0)) (some (.inr ((.inr ((0,0,[],[],[],[],[],IntKind.wrap .i64 (i10 + 1),i21)))))) ((subL s11 v13 (s11.length:Int)).bind fun y30=>some (.inl ((i22,i23,l24,l25,l26,l27,l28,i29,IntKind.wrap .i64 (i10 + 1),y30)))))) (some (.inr ((.inl (i1,i2,l3,l4,l5,l6,l7,i9,i10,s11)))))
def eL (s1:List UInt8) (i2:Int):Tq5→Option (Tq5⊕(Tq5⊕Tq7)):=fun (i3,i4,l5,l6,l7,l9,l10,i11,i12,s13)=>(gC s13 s1).bind fun i14=>cond (decide (i14 < 0)) (some (.inr ((.inl (i3,i4,l5,l6,l7,l9,l10,i11,i12,s13))))) ((subL s13 0 (IntKind.wrap .i64 (i14 + i2))).bind fun y15=>(b9 y15 ([32]:List UInt8)).bind fun l16=>(fu l16).bind fun l17=>(cond (decide ((l17.length:Int)=0)) (some (true)) ((ab l17 0).bind fun x18=>(dm x18 ([35]:List UInt8)).bind fun t19=>some (t19))).bind fun t20=>cond (t20) ((subL s13 (IntKind.wrap .i64 (i14 + (s1.length:Int))) (s13.length:Int)).bind fun y21=>some (.inl ((i3,i4,l5,l6,l7,l9,l10,i11,IntKind.wrap .i64 (i12 + 1),y21)))) ((cU l17 i3 i4 l5 l6 l7 l9 l10 i11).bind fun (i22,i23,i24,l25,l26,l27,l28,l29,i30)=>cond (!decide (i22=0)) (some (.inr ((.inr ((0,0,[],[],[],[],[],IntKind.wrap .i64 (i12 + 1),i22)))))) ((subL s13 (IntKind.wrap .i64 (i14 + (s1.length:Int))) (s13.length:Int)).bind fun y31=>some (.inl ((i23,i24,l25,l26,l27,l28,l29,i30,IntKind.wrap .i64 (i12 + 1),y31))))))
def gR (xa:Tq4):Option (Tq7) :=
 cond (decide (1048576 < (xa.length:Int))) (some ((0,0,[],[],[],[],[],0,5))) ((kZ xa ([10]:List UInt8)).bind fun (s1,s2,i3)=>cond (decide ((s1.length:Int)=0)) ((loop (rG) (0,0,[],[],[],[],[],0,0,s2)).bind fun o=>match o with | .inr r=>some r | .inl (i4,i5,l6,l7,l9,l10,l11,i12,i13,s14)=>(fv i4 i5 l6 l7 l9 l10 l11 i12).bind fun (t15,l16,l17,l18,l19,l20)=>cond (!t15) (some ((0,0,[],[],[],[],[],0,14))) (some ((i4,i5,l16,l17,l18,l19,l20,0,0)))) ((loop (eL s1 i3) (0,0,[],[],[],[],[],0,0,s2)).bind fun o=>match o with | .inr r=>some r | .inl (i21,i22,l23,l24,l25,l26,l27,i28,i29,s30)=>(b9 s30 ([32]:List UInt8)).bind fun l31=>(fu l31).bind fun l32=>(cond (decide ((l32.length:Int)=0)) (some (true)) ((ab l32 0).bind fun x33=>(dm x33 ([35]:List UInt8)).bind fun t34=>some (t34))).bind fun t35=>cond (t35) ((fv i21 i22 l23 l24 l25 l26 l27 i28).bind fun (t36,l37,l38,l39,l40,l41)=>cond (!t36) (some ((0,0,[],[],[],[],[],0,14))) (some ((i21,i22,l37,l38,l39,l40,l41,0,0)))) ((cU l32 i21 i22 l23 l24 l25 l26 l27 i28).bind fun (i42,i43,i44,l45,l46,l47,l48,l49,i50)=>cond (!decide (i42=0)) (some ((0,0,[],[],[],[],[],IntKind.wrap .i64 (i29 + 1),i42))) ((fv i43 i44 l45 l46 l47 l48 l49 i50).bind fun (t51,l52,l53,l54,l55,l56)=>cond (!t51) (some ((0,0,[],[],[],[],[],0,14))) (some ((i43,i44,l52,l53,l54,l55,l56,0,0)))))))
def xG:Hn Tryd.prog := .tw 12 .nil (.cl oQ8 [] (.rg ⟨54,_,func54,call54⟩ (.tw 11 (.jx [] ⟨[],[bkC 0 30 [.lit (.int .i64 0),.lit (.int .i64 0),.nils,.nils,.nils,.nils,.nils],bkC 2 3 [.lit (.int .i64 0)],bkC 4 34 [.lit (.int .i64 0)],bkC 6 59 [.dat Yq1,.dat Yq1,.own 80 Yq4,.own 26 Yq5,.own 155 Yq2,.od (.row 127 (.cons (.dat Yq1) (.cons (.dat (.sl Yq4)) (.cons (.row 26 (.dat Yq5)) (.one (.dat Yq5)))))),.od (.row 116 (.cons (.row 120 (.dat Yq6)) (.one (.dat Yq3)))),.dat Yq1],bkC 9 3 [.dat Yq1],bkC 13 9 [.dat .str],⟨(some 18),0,[],false,false,none,true⟩]⟩ [18,13,9,6,4,2,0] (.lp ⟨[],[bkC 0 30 [.lit (.int .i64 0),.lit (.int .i64 0),.nils,.nils,.nils,.nils,.nils],bkC 2 3 [.lit (.int .i64 0)],bkC 4 34 [.lit (.int .i64 0)],bkC 6 59 [.dat Yq1,.dat Yq1,.own 80 Yq4,.own 26 Yq5,.own 155 Yq2,.od (.row 127 (.cons (.dat Yq1) (.cons (.dat (.sl Yq4)) (.cons (.row 26 (.dat Yq5)) (.one (.dat Yq5)))))),.od (.row 116 (.cons (.row 120 (.dat Yq6)) (.one (.dat Yq3)))),.dat Yq1],bkC 9 3 [.dat Yq1],bkC 13 9 [.dat .str],⟨(some 18),0,[],false,false,none,true⟩]⟩ (.tw 14 (.cl oQ9 [] (.yl 4 (.cl eS [] (.cl m8 [] (.gj 4 ⟨[kdB 31],[]⟩ [] (.two 26 .nil (.cl kI [] .nil)) (.tw 31 .nil (.cl m5 [] (.tw 35 (.mix [([0,1,2],3),([],4)] [] [5] [0,2] .nil) .nil)))))))) .nil)) (.wt 1000035 (.mc 6 0 32 (.mc 6 1 32 (.mc 6 7 32 (.cl nc [] (.tw 40 .nil .nil))))))) (.jx [] ⟨[],[bkC 0 30 [.lit (.int .i64 0),.lit (.int .i64 0),.nils,.nils,.nils,.nils,.nils],bkC 2 3 [.lit (.int .i64 0)],bkC 4 34 [.lit (.int .i64 0)],bkC 6 59 [.dat Yq1,.dat Yq1,.own 80 Yq4,.own 26 Yq5,.own 155 Yq2,.od (.row 127 (.cons (.dat Yq1) (.cons (.dat (.sl Yq4)) (.cons (.row 26 (.dat Yq5)) (.one (.dat Yq5)))))),.od (.row 116 (.cons (.row 120 (.dat Yq6)) (.one (.dat Yq3)))),.dat Yq1],bkC 9 3 [.dat Yq1],bkC 13 9 [.dat .str],⟨(some 18),0,[],false,false,none,true⟩]⟩ [18,13,9,6,4,2,0] (.lp ⟨[],[bkC 0 30 [.lit (.int .i64 0),.lit (.int .i64 0),.nils,.nils,.nils,.nils,.nils],bkC 2 3 [.lit (.int .i64 0)],bkC 4 34 [.lit (.int .i64 0)],bkC 6 59 [.dat Yq1,.dat Yq1,.own 80 Yq4,.own 26 Yq5,.own 155 Yq2,.od (.row 127 (.cons (.dat Yq1) (.cons (.dat (.sl Yq4)) (.cons (.row 26 (.dat Yq5)) (.one (.dat Yq5)))))),.od (.row 116 (.cons (.row 120 (.dat Yq6)) (.one (.dat Yq3)))),.dat Yq1],bkC 9 3 [.dat Yq1],bkC 13 9 [.dat .str],⟨(some 18),0,[],false,false,none,true⟩]⟩ (.cl uv [] (.tw 33 .nil (.wt 8 (.yl 2 (.cl eS [] (.cl m8 [] (.gj 4 ⟨[kdB 31],[]⟩ [] (.two 26 .nil (.cl kI [] .nil)) (.tw 31 .nil (.cl m5 [] (.tw 35 (.mix [([0,1,2],3),([],4)] [] [5] [0,2] .nil) .nil))))))))))) (.yl 2 (.cl eS [] (.cl m8 [] (.gj 4 ⟨[kdB 31],[]⟩ [] (.two 26 .nil (.cl kI [] .nil)) (.tw 31 (.wt 1000040 (.mc 6 0 32 (.mc 6 1 32 (.mc 6 7 32 (.cl nc [] (.tw 40 .nil .nil)))))) (.cl m5 [] (.tw 35 (.mix [([0,1,2],3),([],4)] [] [5] [0,2] .nil) (.mc 6 0 61 (.mc 6 1 61 (.mc 6 7 61 (.cl nc [] (.tw 40 .nil .nil))))))))))))))))
def xl:Spec:=⟨11,⟨[(0,.dat .str)],[]⟩,[⟨[(0,.tup [.agg [.dat Yq1,.dat Yq1,.own 80 Yq4,.own 26 Yq5,.own 155 Yq2,.od (.row 127 (.cons (.dat Yq1) (.cons (.dat (.sl Yq4)) (.cons (.row 26 (.dat Yq5)) (.one (.dat Yq5)))))),.od (.row 116 (.cons (.row 120 (.dat Yq6)) (.one (.dat Yq3))))],.dat Yq1,.dat Yq1])],[]⟩],fun x=>gR x⟩
def yU:OkSpec Tryd.prog:=⟨xl,aj func11 xG (by kernel_rfl) (by kernel_rfl),call11⟩

def gL  : Option ((List Tq4)) :=
 some (([([99,104,101,99,107]:List UInt8),([99,111,110,115]:List UInt8),([108,105,118,101]:List UInt8),([118,97,108,117,101]:List UInt8),([119,104,121]:List UInt8),([115,117,103,103,101,115,116]:List UInt8),([116,114,105,109]:List UInt8),([101,100,105,116]:List UInt8),([112,114,111,118,101]:List UInt8),([112,114,105,110,116]:List UInt8)]:List Tq4))
def xz:Hn Tryd.prog := .nil
def y8:Spec:=⟨27,⟨[],[]⟩,[⟨[(0,.own 9 .str)],[]⟩],fun x=>gL⟩
def qY:OkSpec Tryd.prog:=⟨y8,aj func27 xz (by kernel_rfl) (by kernel_rfl),call27⟩

def kV (xa:Tq4) (qa0:(List Tq4)):Option Bool :=
 (ab qa0 0).bind fun x11=>some (decide (xa=x11))
def yj:Hn Tryd.prog := .nil
def zo:Spec:=⟨28,⟨[(0,.dat .str),(1,.ptr 0 0)],[bkN 39 [.is 1 (.dat (.sl .str))],bkM]⟩,[⟨[kdB 0],[bkC 0 39 [.is 1 (.any)],bkU 1]⟩],fun x=>kV x.1 x.2⟩
def zb:OkSpec Tryd.prog:=⟨zo,aj func28 yj (by kernel_rfl) (by kernel_rfl),call28⟩
def kO (xa:(List Tq4)) (qa0:(List Tq4)):Int→Option (Int⊕(Unit⊕Int)):=fun i1=>cond (decide (i1 < (xa.length:Int))) ((ab xa i1).bind fun x2=>(kV x2 qa0).bind fun t3=>cond (t3) (some (.inr ((.inr (i1))))) (some (.inl (IntKind.wrap .i64 (i1 + 1))))) (some (.inr ((.inl ()))))
def iK (xa:(List Tq4)) (qa0:(List Tq4)):Option Int :=
 (loop (kO xa qa0) 0).bind fun o=>match o with | .inr r=>some r | .inl ()=>some ((-1))
def zl:Hn Tryd.prog := .jx [] ⟨[],[bkC 0 39 [.is 1 (.any)],bkU 1]⟩ [0] (.lp ⟨[kdI 8],[bkC 0 39 [.is 1 (.any)],bkU 1]⟩ (.tw 9 (.cl zb [] (.tw 16 .nil .nil)) .nil)) .nil
def xj:Spec:=⟨7,⟨[(0,.dat (.sl .str)),(1,.fn 28 [.ptr 0 0])],[bkN 39 [.is 1 (.dat (.sl .str))],bkM]⟩,[⟨[kdI 0],[bkC 0 39 [.is 1 (.any)],bkU 1]⟩],fun x=>iK x.1 x.2⟩
def yn:OkSpec Tryd.prog:=⟨xj,aj func7 zl (by kernel_rfl) (by kernel_rfl),call7⟩

def jf (xa:Int):Option Int :=
 cond (decide (xa=2)) (some (2)) (cond (decide (xa=3)) (some (2)) (cond (decide (xa=4)) (some (2)) (cond (decide (xa=7)) (some (5)) (some (1)))))
def xM:Hn Tryd.prog := .two 4 .nil (.two 4 .nil (.tw 4 .nil (.tw 8 .nil .nil)))
def zd:Spec:=⟨29,⟨[kdI 0],[]⟩,[⟨[kdI 0],[]⟩],fun x=>jf x⟩
def xv:OkSpec Tryd.prog:=⟨zd,aj func29 xM (by kernel_rfl) (by kernel_rfl),call29⟩

def bV (xa:Tq4):Option (Int×Int) :=
 (dp xa 1048576).bind fun (i13,i14)=>some ((i13,i14))
def yA:Hn Tryd.prog := .cl gt [] .nil
def yX:Spec:=⟨30,⟨[(0,.dat .str)],[]⟩,[⟨[(0,.tup [.dat Yq1,.dat Yq1])],[]⟩],fun x=>bV x⟩
def qZ:OkSpec Tryd.prog:=⟨yX,aj func30 yA (by kernel_rfl) (by kernel_rfl),call30⟩

def gS (xa:Int):Option Tq4 :=
 cond (decide (xa=1)) (some (([98,108,97,110,107]:List UInt8))) (cond (decide (xa=2)) (some (([100,114,111,112]:List UInt8))) (cond (decide (xa=3)) (some (([116,119,105,99,101]:List UInt8))) (cond (decide (xa=4)) (some (([115,119,97,112]:List UInt8))) (cond (decide (xa=5)) (some (([114,101,103,105,111,110]:List UInt8))) (cond (decide (xa=6)) (some (([108,111,110,101]:List UInt8))) (cond (decide (xa=7)) (some (([100,101,99,108,97,114,101]:List UInt8))) (cond (decide (xa=8)) (some (([117,110,100,101,99,108,97,114,101]:List UInt8))) (some (([63]:List UInt8))))))))))
def xU:Hn Tryd.prog := .tw 4 .nil (.tw 6 .nil (.tw 8 .nil (.tw 10 .nil (.tw 12 .nil (.tw 14 .nil (.tw 16 .nil (.tw 18 .nil .nil)))))))
def zg:Spec:=⟨35,⟨[kdI 0],[]⟩,[⟨[(0,.dat .str)],[]⟩],fun x=>gS x⟩
def rj:OkSpec Tryd.prog:=⟨zg,aj func35 xU (by kernel_rfl) (by kernel_rfl),call35⟩
def gP (xa:Tq4):Int→Option (Int⊕(Unit⊕(Int×Bool))):=fun i96=>cond (decide (i96≤8)) ((gS i96).bind fun s1=>cond (decide (s1=xa)) (some (.inr ((.inr ((i96,true)))))) (some (.inl (IntKind.wrap .i64 (i96 + 1))))) (some (.inr ((.inl ()))))
def jh (xa:Tq4):Option (Int×Bool) :=
 (loop (gP xa) 1).bind fun o=>match o with | .inr r=>some r | .inl ()=>some ((0,false))
def xW:Hn Tryd.prog := .jx [] ⟨[],[]⟩ [] (.lp ⟨[kdI 4],[]⟩ (.tw 6 (.cl rj [] (.tw 12 .nil .nil)) .nil)) .nil
def xP:Spec:=⟨49,⟨[(0,.dat .str)],[]⟩,[⟨[(0,.tup [.dat Yq1,.dat .bool])],[]⟩],fun x=>jh x⟩
def ze:OkSpec Tryd.prog:=⟨xP,aj func49 xW (by kernel_rfl) (by kernel_rfl),call49⟩
def nE (y1:List Tq4):iH→Option (iH⊕((Int×Int×Int×Int)⊕iH)):=fun (i2,i3,i4,i5,i6)=>cond (decide (i2 < (y1.length:Int))) ((ab y1 i2).bind fun x7=>(bV x7).bind fun (i9,i10)=>cond (!decide (i10=0)) (some (.inr ((.inr ((i3,i4,i5,i6,i10)))))) (cond (decide (IntKind.wrap .i64 (i2 + 1)=((0:Nat):Int))) (some (.inl ((IntKind.wrap .i64 (i2 + 1),i9,i4,i5,i6)))) (cond (decide (IntKind.wrap .i64 (i2 + 1)=((1:Nat):Int))) (some (.inl ((IntKind.wrap .i64 (i2 + 1),i3,i9,i5,i6)))) (cond (decide (IntKind.wrap .i64 (i2 + 1)=((2:Nat):Int))) (some (.inl ((IntKind.wrap .i64 (i2 + 1),i3,i4,i9,i6)))) (cond (decide (IntKind.wrap .i64 (i2 + 1)=((3:Nat):Int))) (some (.inl ((IntKind.wrap .i64 (i2 + 1),i3,i4,i5,i9)))) (none)))))) (some (.inr ((.inl (i3,i4,i5,i6)))))
def fy (xa:(List Tq4)):Option iH :=
 (ab xa 0).bind fun x1=>(jh x1).bind fun (i2,t3)=>cond (!t3) (some ((0,0,0,0,3))) ((subL xa 1 (xa.length:Int)).bind fun y4=>(loop (nE y4) (0,i2,0,0,0)).bind fun o=>match o with | .inr r=>some r | .inl (i5,i6,i7,i9)=>some ((i5,i6,i7,i9,0)))
def yW:Hn Tryd.prog := .cl ze [] (.tw 19 .nil (.jx [] ⟨[],[bkC 0 50 [.lit (.int .i64 0),.lit (.int .i64 0),.lit (.int .i64 0),.lit (.int .i64 0)],bkC 2 50 [.dat Yq1,.dat Yq1,.dat Yq1,.dat Yq1]]⟩ [2,0] (.lp ⟨[kdI 26],[bkC 0 50 [.lit (.int .i64 0),.lit (.int .i64 0),.lit (.int .i64 0),.lit (.int .i64 0)],bkC 2 50 [.dat Yq1,.dat Yq1,.dat Yq1,.dat Yq1]]⟩ (.tw 27 (.cl qZ [] (.tw 37 .nil .nil)) .nil)) .nil))
def xT:Spec:=⟨32,⟨[(0,.dat (.sl .str))],[]⟩,[⟨[(0,.tup [.agg [.dat Yq1,.dat Yq1,.dat Yq1,.dat Yq1],.dat Yq1])],[]⟩],fun x=>fy x⟩
def ye:OkSpec Tryd.prog:=⟨xT,aj func32 yW (by kernel_rfl) (by kernel_rfl),call32⟩

def fx (xa:(List Tq4)):Option (Int×Int×Int×Int×Int×Int) :=
 cond (decide ((xa.length:Int)=0)) (some ((0,0,0,0,0,3))) ((gL).bind fun l1=>(iK l1 xa).bind fun i2=>cond (decide (i2 < 0)) (some ((0,0,0,0,0,3))) ((jf i2).bind fun i3=>cond (!decide ((xa.length:Int)=i3)) (some ((0,0,0,0,0,3))) (((cond (decide (i2=2)) (some (decide (i2=2))) (some (decide (i2=3))):Option Bool).bind fun t4=>cond (t4) ((ab xa 1).bind fun x5=>(bV x5).bind fun (i6,i7)=>some ((i7,i6,0,0,0))) (cond (decide (i2=4)) ((ab xa 1).bind fun x9=>(eK x9 1048576).bind fun (i10,i11,i12)=>some ((i12,i10,i11,0,0))) (cond (decide (i2=7)) ((subL xa 1 (xa.length:Int)).bind fun y13=>(fy y13).bind fun (i14,i15,i16,i17,i18)=>some ((i18,i14,i15,i16,i17))) (some ((0,0,0,0,0))))):Option iH).bind fun (i19,i20,i21,i22,i23)=>cond (!decide (i19=0)) (some ((0,0,0,0,0,i19))) (some ((i2,i20,i21,i22,i23,0))))))
def w6:Hn Tryd.prog := .tw 9 .nil (.cl qY [] (.wt 1000006 (.mc 0 0 1 (.cl yn [4] (.mix [([0,1,2,3,4,5,6,7],8)] [9,10] [] [] (.two 18 .nil (.cl xv [] (.tw 25 .nil (.pl (.sq [(9,0)] ⟨[kdI 5],[bkC 9 52 [.is 1 (.any),.dat Yq1,.dat Yq1,.dat Yq1,.dat Yq1],bkU 12]⟩ [9] (.pl (.sq [] ⟨[kdB 29],[]⟩ [] (.tw 29 .nil .nil) (.tw 29 (.cl qZ [] .nil) (.tw 41 (.cl ri [] (.mix [([0,1,2,3,4,5,7],6)] [8] [9] [9] .nil)) (.tw 58 (.cl ye [] .nil) .nil))))) (.tw 68 .nil .nil)))))))))))
def yh:Spec:=⟨14,⟨[(0,.dat (.sl .str))],[]⟩,[⟨[(0,.tup [.agg [.dat Yq1,.dat Yq1,.dat Yq1,.dat Yq1,.dat Yq1],.dat Yq1])],[]⟩],fun x=>fx x⟩
def ni:OkSpec Tryd.prog:=⟨yh,aj func14 w6 (by kernel_rfl) (by kernel_rfl),call14⟩
def eJ (xa:(List Tq4)):((List Tq8)×Int)→Option (((List Tq8)×Int)⊕((List Tq8)⊕((List Tq8)×Int×Int))):=fun (l1,i2)=>cond (decide (i2 < (xa.length:Int))) ((ab xa i2).bind fun x3=>(gM x3).bind fun l4=>(cond (decide ((l4.length:Int)=0)) (some (true)) ((ab l4 0).bind fun x5=>(dm x5 ([35]:List UInt8)).bind fun t6=>some (t6))).bind fun t7=>cond (t7) (some (.inl ((l1,IntKind.wrap .i64 (i2 + 1))))) ((fx l4).bind fun (i9,i10,i11,i12,i13,i14)=>(cond ((decide (i14=0))&&(decide ((l1.length:Int)=400))) (some (10)) (some (i14)):Option Int).bind fun i15=>cond (!decide (i15=0)) (some (.inr ((.inr (([],IntKind.wrap .i64 (i2 + 1),i15)))))) ((app l1 (([(i9,(i10,i11,i12,i13))]:List Tq8))).bind fun z16=>some (.inl ((z16,IntKind.wrap .i64 (i2 + 1))))))) (some (.inr (.inl l1)))
def jb (xa:(List Tq4)):Option (((List Tq8)×Int×Int)) :=
 (loop (eJ xa) ([],0)).bind fun o=>match o with | .inr r=>some r | .inl l1=>some ((l1,0,0))
def xZ:Hn Tryd.prog := .jx [] ⟨[(5,.own 52 (.cons Yq1 (.one (.cons Yq1 (.cons Yq1 Yq4)))))],[]⟩ [] (.lp ⟨[(5,.own 52 (.cons Yq1 (.one (.cons Yq1 (.cons Yq1 Yq4))))),kdI 13],[]⟩ (.tw 14 (.cl oQ3 [] (.gj 4 ⟨[kdB 28],[]⟩ [] (.two 23 .nil (.cl kI [] .nil)) (.tw 28 .nil (.cl ni [] (.sq [] ⟨[kdI 10],[]⟩ [] (.gp 3 (.tw 40 .nil .nil)) (.tw 42 .nil .nil)))))) .nil)) .nil
def xJ:Spec:=⟨13,⟨[(0,.dat (.sl .str))],[]⟩,[⟨[(0,.tup [.own 52 (.cons Yq1 (.one (.cons Yq1 (.cons Yq1 Yq4)))),.dat Yq1,.dat Yq1])],[]⟩],fun x=>jb x⟩
def yI:OkSpec Tryd.prog:=⟨xJ,aj func13 xZ (by kernel_rfl) (by kernel_rfl),call13⟩

def gO (xa:Tq4):Option ((Int×Int×Tq6×(List Tq3)×Tq3×(List Tq2)×(List Tq1)×(List Tq8)×Int×Int)) :=
 cond (decide (1048576 < (xa.length:Int))) (some ((0,0,[],[],[],[],[],[],0,5))) ((b9 xa ([10]:List UInt8)).bind fun l1=>(iR l1).bind fun i2=>(cond (decide (0≤i2)) ((subL l1 0 i2).bind fun y3=>some (y3)) (some (l1)):Option ((List Tq4))).bind fun l4=>(cC l4 ([10]:List UInt8)).bind fun s5=>(gR s5).bind fun (i6,i7,l9,l10,l11,l12,l13,i14,i15)=>cond (!decide (i15=0)) (some ((0,0,[],[],[],[],[],[],i14,i15))) (cond (decide (i2 < 0)) (some ((0,0,[],[],[],[],[],[],0,14))) ((subL l1 (IntKind.wrap .i64 (i2 + 1)) (l1.length:Int)).bind fun y16=>(jb y16).bind fun (l17,i18,i19)=>cond (!decide (i19=0)) (some ((0,0,[],[],[],[],[],[],IntKind.wrap .i64 ((IntKind.wrap .i64 (i2 + 1)) + i18),i19))) (some ((i6,i7,l9,l10,l11,l12,l13,l17,0,0))))))
def yp:Hn Tryd.prog := .tw 14 .nil (.cl eS [] (.cl oQ6 [2] (.pl (.per 2 3 (.sq [] ⟨[(7,.dat (.sl .str))],[]⟩ [] (.tw 22 .nil .nil) (.cl hP [] (.cl yU [] (.tw 34 .nil (.tw 39 .nil (.cl yI [] (.tw 51 .nil .nil)))))))))))
def yE:Spec:=⟨4,⟨[(0,.dat .str)],[]⟩,[⟨[(0,.tup [.agg [.dat Yq1,.dat Yq1,.own 80 Yq4,.own 26 Yq5,.own 155 Yq2,.od (.row 127 (.cons (.dat Yq1) (.cons (.dat (.sl Yq4)) (.cons (.row 26 (.dat Yq5)) (.one (.dat Yq5)))))),.od (.row 116 (.cons (.row 120 (.dat Yq6)) (.one (.dat Yq3)))),.own 52 (.cons Yq1 (.one (.cons Yq1 (.cons Yq1 Yq4))))],.dat Yq1,.dat Yq1])],[]⟩],fun x=>gO x⟩
def yq:OkSpec Tryd.prog:=⟨yE,aj func4 yp (by kernel_rfl) (by kernel_rfl),call4⟩

def je (xa:(Int×Int)):Option Tq4 :=
 cond ((decide (xa.1 < 0))||(decide (xa.2 < 0))) (some (([]:List UInt8))) ((cH xa.1).bind fun s1=>(app s1 ([58]:List UInt8)).bind fun z2=>(cH xa.2).bind fun s3=>(app z2 s3).bind fun z4=>some (z4))
def yB:Hn Tryd.prog := .gp 3 (.tw 10 .nil (.mix [([0,1,4,5],2),([3],6)] [7,8] [] [] (.cl fA [] (.cl fA [] .nil))))
def xw:Spec:=⟨34,⟨[(0,.dat Yq4)],[]⟩,[⟨[(0,.dat .str)],[]⟩],fun x=>je x⟩
def xy:OkSpec Tryd.prog:=⟨xw,aj func34 yB (by kernel_rfl) (by kernel_rfl),call34⟩

def jg (xa:Tq8):Option Tq4 :=
 (gL).bind fun l1=>cond ((decide (xa.1 < 0))||(decide ((l1.length:Int)≤xa.1))) (some (([63]:List UInt8))) ((ab l1 xa.1).bind fun x2=>(cond (decide (xa.1=2)) (some (decide (xa.1=2))) (some (decide (xa.1=3))):Option Bool).bind fun t3=>cond (t3) ((cH xa.2.1).bind fun s4=>(app (([x2]:List Tq4)) (([s4]:List Tq4))).bind fun z5=>(cC z5 ([32]:List UInt8)).bind fun s6=>some (s6)) (cond (decide (xa.1=4)) ((je (xa.2.1,xa.2.2.1)).bind fun s7=>(app (([x2]:List Tq4)) (([s7]:List Tq4))).bind fun z9=>(cC z9 ([32]:List UInt8)).bind fun s10=>some (s10)) (cond (decide (xa.1=7)) ((gS xa.2.1).bind fun s11=>(app (([x2]:List Tq4)) (([s11]:List Tq4))).bind fun z12=>(cH xa.2.2.1).bind fun s13=>(app z12 (([s13]:List Tq4))).bind fun z14=>(cH xa.2.2.2.1).bind fun s15=>(app z14 (([s15]:List Tq4))).bind fun z16=>(cH xa.2.2.2.2).bind fun s17=>(app z16 (([s17]:List Tq4))).bind fun z18=>(cC z18 ([32]:List UInt8)).bind fun s19=>some (s19)) ((cC (([x2]:List Tq4)) ([32]:List UInt8)).bind fun s20=>some (s20)))))
def xp:Hn Tryd.prog := .cl qY [] (.gp 5 (.tw 17 .nil (.pl (.pl (.pl (.sq [] ⟨[kdB 26],[]⟩ [] (.tw 26 .nil .nil) (.tw 26 (.cl fA [] (.cl hP [8] .nil)) (.tw 36 (.cl xy [] (.cl hP [8] .nil)) (.tw 49 (.cl rj [] (.un 64 (.cl fA [] (.cl fA [] (.cl fA [] (.cl hP [20] .nil)))))) (.cl hP [4] .nil))))))))))
def zj:Spec:=⟨15,⟨[(0,.dat (.cons Yq1 (.one (.cons Yq1 (.cons Yq1 Yq4)))))],[]⟩,[⟨[(0,.dat .str)],[]⟩],fun x=>jg x⟩
def yL:OkSpec Tryd.prog:=⟨zj,aj func15 xp (by kernel_rfl) (by kernel_rfl),call15⟩

def gQ  : Option Bool :=
 (fx (([([119,104,121]:List UInt8),([49,58,50]:List UInt8)]:List Tq4))).bind fun (i69,i70,i71,i72,i73,i74)=>(fx (([([101,100,105,116]:List UInt8),([100,114,111,112]:List UInt8),([48]:List UInt8),([49]:List UInt8),([48]:List UInt8)]:List Tq4))).bind fun (i87,i88,i89,i90,i91,i92)=>(cond ((((decide (i74=0))&&(decide (i92=0)))&&((decide (i69=4))&&(((decide (i70=1))&&((decide (i71=2))&&((decide (i72=0))&&((decide (i73=0)))))))))&&((decide (i87=7))&&(((decide (i88=2))&&((decide (i89=0))&&((decide (i90=1))&&((decide (i91=0))))))))) ((jg ((i87,(i88,i89,i90,i91)))).bind fun s1=>some (decide (s1=([101,100,105,116,32,100,114,111,112,32,48,32,49,32,48]:List UInt8)))) (some (false))).bind fun t2=>some (t2)
def rV:Hn Tryd.prog := .cl ni [0] (.cl ni [5] (.gp 2 (.wt 21 (.gp 4 (.wt 27 (.gp 4 (.wt 33 (.gj 3 ⟨[kdB 37],[]⟩ [] (.two 33 (.cl yL [] .nil) .nil) .nil))))))))
def nI:Spec:=⟨5,⟨[],[]⟩,[⟨[kdB 0],[]⟩],fun x=>gQ⟩
theorem rP:cd Tryd.prog nI:=aj func5 rV (by kernel_rfl) (by kernel_rfl)
def nH:OkSpec Tryd.prog:=⟨nI,rP,call5⟩
def gG (i1:Int):(List UInt8×Int)→Option ((List UInt8×Int)⊕List UInt8):=fun (s2,i3)=>cond (decide (i3 < i1)) ((app s2 ([99,104,101,99,107,10]:List UInt8)).bind fun z4=>some (.inl ((z4,IntKind.wrap .i64 (i3 + 1))))) (some (.inr (s2)))
def k7 (xa:Bool):Option Bool :=
 (cond (xa) (some (IntKind.wrap .i64 (400 + 1))) (some (400)):Option Int).bind fun i1=>(loop (gG i1) ((([114,101,103,105,111,110,115,32,49,32,49,10,98,111,117,110,100,115,10,108,111,99,97,108,32,45,10,103,105,118,101,115,32,45,10,98,108,111,99,107,10,114,101,116,117,114,110,10,116,104,101,110,10]:List UInt8),0))).bind fun s2=>(gO s2).bind fun (i3,i4,l5,l6,l7,l9,l10,l11,i12,i13)=>cond (xa) ((cond (((decide ((l11.length:Int)=0))&&(decide (i12=(IntKind.wrap .i64 (7 + i1)))))&&(decide (i13=10))) ((gQ).bind fun t14=>some (t14)) (some (false))).bind fun t15=>some (t15)) ((cond (((decide ((l11.length:Int)=i1))&&(decide (i12=0)))&&(decide (i13=0))) ((gQ).bind fun t16=>some (t16)) (some (false))).bind fun t17=>some (t17))
def rE:Hn Tryd.prog := .pl (.pl (.pl (.sq [] ⟨[kdI 4],[]⟩ [] (.tw 9 .nil .nil) (.jn [] ⟨[(3,.dat .str)],[]⟩ [] (.lp ⟨[(3,.dat .str),kdI 5],[]⟩ (.tw 14 .nil .nil)) (.cl yq [] (.per 6 7 (.per 8 9 (.tw 25 (.gp 4 (.wt 36 (.gp 2 (.wt 40 (.gj 1 ⟨[kdB 42],[]⟩ [] (.two 40 (.cl nH [] .nil) .nil) .nil))))) (.gp 2 (.wt 52 (.gp 2 (.wt 56 (.gj 1 ⟨[kdB 58],[]⟩ [] (.two 56 (.cl nH [] .nil) .nil) .nil)))))))))))))
def nD:Spec:=⟨3,⟨[kdB 0],[]⟩,[⟨[kdB 0],[]⟩],fun x=>k7 x⟩
theorem rC:cd Tryd.prog nD:=aj func3 rE (by kernel_rfl) (by kernel_rfl)
end
section
section
variable {σ β:Type} {body:σ→Option (σ⊕β)}
theorem g8 (st:Nat→σ) (n:Nat) {b:β} (h:∀ k,k < n→body (st k)=some (.inl (st (k + 1)))) (he:body (st n)=some (.inr b)):loop body (st 0)=some b:=by
 have:∀ m k,k + m=n→loop body (st k)=some b:=by
   intro m
   induction m with
   | zero => intro k hk; have : k = n := by omega
             subst this; exact bh he
   | succ m ih=>intro k hk; rw [cv (h k (by omega))]; exact ih (k + 1) (by omega)
 exact this n 0 (by omega)
theorem bQ (p:Nat→Prop):∀ n,(∃ k,k < n∧p k∧∀ j,j < k→¬ p j)∨∀ j,j < n→¬ p j
 | 0 => .inr (fun j hj=>by omega)
 | n + 1=>by
   rcases bQ p n with ⟨k,h1,h2,h3⟩ | h
   . exact .inl ⟨k,by omega,h2,h3⟩
   . by_cases hp:p n
     . exact .inl ⟨n,by omega,hp,h⟩
     . exact .inr (fun j hj=>if e:j=n then e ▸ hp else h j (by omega))
theorem lu (p:Nat→Prop) (st:Nat→σ) (n:Nat) (hit:Nat→β) (e:β) (hgo:∀ k,k < n→¬ p k→body (st k)=some (.inl (st (k + 1)))) (hhit:∀ k,k < n→p k→body (st k)=some (.inr (hit k))) (hend:body (st n)=some (.inr e)) :
   (∃ k,k < n∧p k∧(∀ j,j < k→¬ p j)∧loop body (st 0)=some (hit k))∨((∀ j,j < n→¬ p j)∧loop body (st 0)=some e):=by
 rcases bQ p n with ⟨k,h1,h2,h3⟩ | h
 . exact .inl ⟨k,h1,h2,h3,g8 st k (fun j hj=>hgo j (by omega) (h3 j hj)) (hhit k h1 h2)⟩
 . exact .inr ⟨h,g8 st n (fun k hk=>hgo k hk (h k hk)) hend⟩
end
theorem w64 {x:Int} (h1 : -9223372036854775808≤x) (h2:x≤9223372036854775807):IntKind.wrap .i64 x=x:=by
 rw [IntWalk.i64_left,IntWalk.wrap64_in _ ⟨h1,h2⟩]
theorem aY {k n:Nat} (h:k < n) (hn:n≤9223372036854775807):IntKind.wrap .i64 ((k:Int) + 1)=((k + 1:Nat):Int):=by
 rw [w64 (by omega) (by omega)]; rfl
theorem aR {α:Type} {l:List α} {k:Nat} (h:k < l.length):ab l (k:Int)=some l[k]:=vz rfl h
end
section
theorem dlt {k n:Nat} (h:k < n):decide ((k:Int) < (n:Int))=true:=by simp; omega
theorem dge {k n:Nat} (h:¬ k < n):decide ((k:Int) < (n:Int))=false:=by simp; omega
section
variable {α β γ σ:Type}
theorem eN {body:Int→Option (Int⊕β)} (xa:List α) (t:α→Bool) (hit:Nat→β) (e:β) (hb:∀ (k:Nat) (h:k < xa.length),body (k:Int)=some (if t xa[k] then .inr (hit k) else .inl ((k + 1:Nat):Int))) (he:body (xa.length:Int)=some (.inr e)) :
   loop body 0=some (match xa.findIdx? t with | some k=>hit k | none=>e):=by
 rcases lu (fun k=>∃ h:k < xa.length,t xa[k]=true) (fun k:Nat=>(k:Int)) xa.length hit e (fun k hk hp=>by
     rw [hb k hk,if_neg (fun h=>hp ⟨hk,h⟩)]) (fun k hk ⟨_,hp⟩=>by rw [hb k hk,if_pos hp]) he with ⟨k,h1,⟨_,h2⟩,h3,h4⟩ | ⟨h1,h2⟩
 . rw [show ((0:Int))=((0:Nat):Int) from rfl,h4]
   have:xa.findIdx? t=some k:=by
     rw [List.findIdx?_eq_some_iff_getElem]
     exact ⟨h1,h2,fun j hj=>fun hc=>h3 j hj ⟨by omega,by simpa using hc⟩⟩
   rw [this]
 . rw [show ((0:Int))=((0:Nat):Int) from rfl,h2]
   have:xa.findIdx? t=none:=by
     rw [List.findIdx?_eq_none_iff]
     intro x hx
     obtain ⟨k,hk,rfl⟩:=List.getElem_of_mem hx
     cases hc:t xa[k] with
     | false=>rfl
     | true=>exact absurd ⟨hk,hc⟩ (h1 k hk)
   rw [this]
theorem s8 {body:Int→Option (Int⊕β)} (xa:List α) (t:α→Bool) (hit e:β) (hb:∀ (k:Nat) (h:k < xa.length),body (k:Int)=some (if t xa[k] then .inr hit else .inl ((k + 1:Nat):Int))) (he:body (xa.length:Int)=some (.inr e)) :
   loop body 0=some (if xa.any t then hit else e):=by
 rw [eN xa t (fun _=>hit) e hb he]
 cases h:xa.findIdx? t with
 | none =>
   have:xa.any t=false:=by
     rw [List.any_eq_false]; intro x hx; have:=List.findIdx?_eq_none_iff.1 h x hx; simp [this]
   rw [this]; rfl
 | some k =>
   obtain ⟨hk,h1,_⟩:=List.findIdx?_eq_some_iff_getElem.1 h
   have:xa.any t=true:=List.any_eq_true.2 ⟨_,List.getElem_mem hk,h1⟩
   rw [this]; rfl
theorem sm [DecidableEq α] {body:Int→Option (Int⊕β)} (xa xb:List α) (hit e:β) (hl:xa.length=xb.length) (hb:∀ (k:Nat) (h:k < xa.length),body (k:Int)=some (if xa[k]=(xb[k]'(by omega)) then .inl ((k + 1:Nat):Int) else .inr hit)) (he:body (xa.length:Int)=some (.inr e)) :
   loop body 0=some (if xa=xb then e else hit):=by
 rw [eN (List.range xa.length) (fun k=>decide (xa[k]?≠xb[k]?)) (fun _=>hit) e (fun k h=>by
     simp at h
     rw [hb k h]
     have h2:k < xb.length:=by omega
     by_cases hq:xa[k]=xb[k] <;> simp [h,h2,hq]) (by simpa using he)]
 by_cases hq:xa=xb
 . subst hq
   have:(List.range xa.length).findIdx? (fun k=>decide (xa[k]?≠xa[k]?))=none:=by rw [List.findIdx?_eq_none_iff]; simp
   rw [this]; simp
 . cases h:(List.range xa.length).findIdx? (fun k=>decide (xa[k]?≠xb[k]?)) with
   | some k=>simp [hq]
   | none =>
     exfalso; apply hq
     rw [List.findIdx?_eq_none_iff] at h
     apply List.ext_getElem?
     intro k
     by_cases hk:k < xa.length
     . simpa using h k (List.mem_range.2 hk)
     . rw [List.getElem?_eq_none (by omega),List.getElem?_eq_none (by omega)]
theorem dx {l:List α} {k:Nat} (h:k < l.length):l.take (k + 1)=l.take k++[l[k]]:=List.take_succ_eq_append_getElem h
theorem wO {a b:Nat} (h:a=b):(!decide ((a:Int)=(b:Int)))=false:=by simp [h]
theorem wy {a b:Nat} (h:¬ a=b):(!decide ((a:Int)=(b:Int)))=true:=by simp; omega
end
theorem m9 {α:Type} {l:List α} (h:1≤l.length):subL l 1 ((l.length:Nat):Int)=some (l.drop 1):=by
 rw [b0 (by omega) (by omega) (by omega)]; simp
end
section
namespace Nu
set_option linter.unusedVariables false
set_option linter.unnecessarySimpa false
set_option linter.unusedSimpArgs false
theorem uh {α:Type} {l m:List α} (h:l≠[]):(l++m).head? = l.head?:=by cases l with
 | nil=>exact absurd rfl h
 | cons a l=>rfl
def ch (d:Nat):UInt8:=UInt8.ofNat (48 + d)
theorem v6 {d:Nat} (h:d < 10):(ch d).toNat=48 + d:=by unfold ch; simp; omega
def dec (n:Nat):List UInt8:=if h:n < 10 then [ch n] else dec (n / 10)++[ch (n % 10)]
termination_by n
theorem dY {n:Nat} (h:n < 10):dec n=[ch n]:=by rw [dec,dif_pos h]
theorem j4 {n:Nat} (h:¬ n < 10):dec n=dec (n / 10)++[ch (n % 10)]:=by rw [dec,dif_neg h]
def text (n:Int):List UInt8:=if n < 0 then [] else dec n.toNat
def bd (c:UInt8):Bool:=decide (48≤c.toNat)&&decide (c.toNat≤57)
def dig (c:UInt8):Nat:=c.toNat - 48
def val (s:List UInt8):Nat:=s.foldl (fun a c=>a * 10 + dig c) 0
theorem pu (s:List UInt8) (c:UInt8):val (s++[c])=val s * 10 + dig c:=by simp [val]
def bG (s:List UInt8):Bool:=s.all bd&&(decide (s.length=1)||(decide (1 < s.length)&&!decide (s.head? = some 48)))
def an (s:List UInt8) (most:Int):Int×Int:=if bG s=true then (if most < (val s:Int) then (0,5) else ((val s:Int),0)) else (0,3)
theorem pq {d:Nat} (h:d < 10):bd (ch d)=true:=by unfold bd; rw [v6 h]; simp; omega
theorem vL {c:UInt8} (h:bd c=true):ch (dig c)=c∧dig c < 10:=by
 unfold bd at h; simp only [Bool.and_eq_true,decide_eq_true_eq] at h
 refine ⟨?_,by unfold dig; omega⟩
 unfold ch dig
 rw [show 48 + (c.toNat - 48)=c.toNat by omega]; simp
theorem vw (n:Nat):(dec n).all bd=true:=by
 induction n using Nat.strongRecOn with
 | _ n ih =>
   by_cases h:n < 10
   . rw [dY h]; simp [pq h]
   . rw [j4 h,List.all_append,ih (n / 10) (by omega)]; simp [pq (show n % 10 < 10 by omega)]
theorem u6 {s:List UInt8} (hs:s≠[]) (ha:s.all bd=true) (hh:s.head?≠some 48):0 < val s:=by
 have key:∀ (l:List UInt8) (a:Nat),0 < a→0 < l.foldl (fun a c=>a * 10 + dig c) a:=by
   intro l
   induction l with
   | nil=>intro a h; exact h
   | cons c l ih=>intro a h; rw [List.foldl_cons]; exact ih _ (by show 0 < a * 10 + dig c; omega)
 cases s with
 | nil=>exact absurd rfl hs
 | cons c s =>
   unfold val
   rw [List.foldl_cons]
   refine key s _ ?_
   simp only [List.all_cons,Bool.and_eq_true] at ha
   have h1:c≠48:=fun e=>hh (by rw [e]; rfl)
   have h2:=ha.1
   unfold bd at h2; simp only [Bool.and_eq_true,decide_eq_true_eq] at h2
   have h3:c.toNat≠48:=fun e=>h1 (by apply UInt8.toNat_inj.1; rw [e]; rfl)
   unfold dig; omega
theorem vC:∀ (n:Nat) (s:List UInt8),s.length=n→bG s=true→dec (val s)=s:=by
 intro n
 induction n with
 | zero=>intro s hl h; obtain rfl:=List.length_eq_zero_iff.1 hl; simp [bG] at h
 | succ n ih =>
   intro s hl h
   rcases List.eq_nil_or_concat s with rfl | ⟨t,c,rfl⟩
   . simp at hl
   rw [List.concat_eq_append] at *
   unfold bG at h
   simp only [List.all_append,List.all_cons,List.all_nil,Bool.and_true,Bool.and_eq_true] at h
   obtain ⟨⟨h1,h2⟩,h3⟩:=h
   obtain ⟨h4,h5⟩:=vL h2
   rw [pu]
   by_cases ht:t=[]
   . subst ht
     rw [show val []=0 from rfl,Nat.zero_mul,Nat.zero_add,dY h5,h4]; rfl
   . have hh:t.head?≠some 48:=by
       have:1 < (t++[c]).length:=by have:=List.length_pos_iff.2 ht; simp; omega
       have h6:¬ (t++[c]).length=1:=by omega
       simp only [h6,this,decide_false,decide_true,Bool.false_or,Bool.true_and,Bool.not_eq_true',decide_eq_false_iff_not] at h3
       rwa [uh ht] at h3
     have hv:=u6 ht h1 hh
     have hn:bG t=true:=by
       unfold bG; rw [h1,Bool.true_and]
       have:=List.length_pos_iff.2 ht
       by_cases h7:t.length=1
       . simp [h7]
       . have:1 < t.length:=by omega
         simp [this,hh]
     rw [j4 (by omega),show (val t * 10 + dig c) / 10=val t by omega,show (val t * 10 + dig c) % 10=dig c by omega,ih t (by simpa using hl) hn,h4]
theorem tE {s:List UInt8} (h:bG s=true):text (val s:Int)=s:=by
 unfold text; rw [if_neg (by omega)]; exact vC _ s rfl h
theorem u7:∀ (k n:Nat),n < 10 ^ (k + 1)→(dec n).length≤k + 1:=by
 intro k
 induction k with
 | zero=>intro n h; rw [dY (by simpa using h)]; simp
 | succ k ih =>
   intro n h
   by_cases hn:n < 10
   . rw [dY hn]; simp
   . rw [j4 hn,List.length_append]
     have:=ih (n / 10) (by rw [Nat.pow_succ] at h; omega)
     simp; omega
theorem dU {n:Int} (h:n≤9223372036854775807):(text n).length≤19:=by
 unfold text; split
 . simp
 . exact u7 18 _ (by omega)
theorem sa (s:List UInt8) (k:Nat):val (s.take k)≤val s:=by
 have key:∀ (l:List UInt8) (a:Nat),a≤l.foldl (fun a c=>a * 10 + dig c) a:=by
   intro l
   induction l with
   | nil=>intro a; exact Nat.le_refl _
   | cons c l ih=>intro a; rw [List.foldl_cons]; exact Nat.le_trans (by show a≤a * 10 + dig c; omega) (ih _)
 conv=>rhs; rw [← List.take_append_drop k s]
 unfold val
 rw [List.foldl_append]
 exact key _ _
theorem pX {n:Int} {c:UInt8} (hc:bd c=false):c∉text n:=by
 unfold text; split
 . simp
 . intro h
   have:=List.all_eq_true.1 (vw n.toNat) c h
   rw [hc] at this; cases this
theorem jp (c:UInt8):∀ s:List UInt8,Lib.index s [c]=match s.findIdx? (fun x=>decide (x=c)) with | some k=>(k:Int) | none=>-1
 | []=>by simp [Lib.index]
 | b :: l=>by
   unfold Lib.index
   rw [jp c l,List.findIdx?_cons]
   by_cases h:b=c
   . subst h; simp
   . have:([c]:List UInt8).isPrefixOf (b :: l)=false:=by simp [List.isPrefixOf]; exact fun e=>h e.symm
     rw [this]
     simp only [Bool.false_eq_true,if_false,h,decide_false]
     cases hq:l.findIdx? (fun x=>decide (x=c)) with
     | none=>simp
     | some k =>
       have:((k:Int) == -1)=false:=by rw [beq_eq_false_iff_ne]; omega
       simp [this]
theorem u4 (c:UInt8) (s:List UInt8):Lib.cut s [c]=match s.findIdx? (fun x=>decide (x=c)) with | some k=>(s.take k,s.drop (k + 1),true) | none=>(s,[],false):=by
 unfold Lib.cut
 rw [jp]
 cases s.findIdx? (fun x=>decide (x=c)) with
 | none=>simp
 | some k=>simp
def hd (b:UInt8):List (List UInt8)→List (List UInt8)
 | p :: ps=>(b :: p) :: ps
 | []=>[[b]]
def ai (c:UInt8):List UInt8→List (List UInt8)
 | []=>[[]]
 | b :: l=>if b=c then [] :: ai c l else hd b (ai c l)
theorem dQ (c b:UInt8) (l:List UInt8):ai c (b :: l)=if b=c then [] :: ai c l else hd b (ai c l):=rfl
theorem gX (c:UInt8):∀ s,ai c s≠[]
 | []=>by simp [ai]
 | b :: l=>by
   rw [dQ]; split
   . simp
   . cases ai c l <;> simp [hd]
theorem lj (c:UInt8):∀ (s:List UInt8) (k:Nat),s.findIdx? (fun x=>decide (x=c))=some k→ai c s=s.take k :: ai c (s.drop (k + 1))
 | [],k,h=>by simp at h
 | b :: l,k,h=>by
   rw [List.findIdx?_cons] at h
   rw [dQ]
   by_cases hb:b=c
   . subst hb; simp at h; subst h; simp
   . simp only [hb,decide_false,Bool.false_eq_true,if_false] at h ⊢
     cases hq:l.findIdx? (fun x=>decide (x=c)) with
     | none=>rw [hq] at h; simp at h
     | some j =>
       rw [hq] at h; simp at h; subst h
       rw [lj c l j hq]; simp [hd]
theorem jj (c:UInt8):∀ (s:List UInt8),s.findIdx? (fun x=>decide (x=c))=none→ai c s=[s]
 | [],h=>rfl
 | b :: l,h=>by
   rw [List.findIdx?_cons] at h
   rw [dQ]
   by_cases hb:b=c
   . subst hb; simp at h
   . simp only [hb,decide_false,Bool.false_eq_true,if_false] at h ⊢
     cases hq:l.findIdx? (fun x=>decide (x=c)) with
     | none=>rw [jj c l hq]; rfl
     | some j=>rw [hq] at h; simp at h
theorem nM (c:UInt8):∀ (k:Nat) (s:List UInt8),s.count c=k→Lib.splitK [c] 0 k s=ai c s:=by
 intro k
 induction k with
 | zero =>
   intro s h
   have:s.findIdx? (fun x=>decide (x=c))=none:=by
     rw [List.findIdx?_eq_none_iff]
     intro x hx
     rw [List.count_eq_zero] at h
     simp only [decide_eq_false_iff_not]
     rintro rfl; exact h hx
   rw [jj c s this]; rfl
 | succ k ih =>
   intro s h
   unfold Lib.splitK
   rw [jp]
   cases hq:s.findIdx? (fun x=>decide (x=c)) with
   | none =>
     rw [List.findIdx?_eq_none_iff] at hq
     have:c∈s:=by rw [← List.count_pos_iff]; omega
     have:=hq c this
     simp at this
   | some j =>
     have:((j:Int) == -1)=false:=by rw [beq_eq_false_iff_ne]; omega
     simp only [this,Bool.false_eq_true,if_false,Int.toNat_natCast,Nat.add_zero,List.length_cons,List.length_nil,Nat.zero_add]
     rw [lj c s j hq]
     have e:(s.drop (j + 1)).count c=k:=by
       obtain ⟨hj,h1,h2⟩:=List.findIdx?_eq_some_iff_getElem.1 hq
       have e1:s=s.take j++s[j] :: s.drop (j + 1):=by rw [List.getElem_cons_drop,List.take_append_drop]
       have e2:(s.take j).count c=0:=by
         rw [List.count_eq_zero]
         intro hm
         obtain ⟨i,hi,e⟩:=List.getElem_of_mem hm
         have hij:i < j:=by rw [List.length_take] at hi; omega
         have:=h2 i hij
         rw [List.getElem_take] at e
         simp [e] at this
       have e3:s[j]=c:=by simpa using h1
       have e4:=congrArg (List.count c) e1
       rw [List.count_append,e2,e3,List.count_cons_self] at e4
       omega
     rw [ih _ e]
theorem ll (c:UInt8):∀ (p s:List UInt8),c∉p→ai c (p++c :: s)=p :: ai c s
 | [],s,h=>by simp [ai]
 | b :: p,s,h=>by
   have hb:b≠c:=fun e=>h (by simp [e])
   rw [List.cons_append,dQ,if_neg hb,ll c p s (fun e=>h (by simp [e]))]; rfl
theorem sH (c:UInt8) (p:List UInt8) (h:c∉p):ai c p=[p]:=by
 refine jj c p ?_
 rw [List.findIdx?_eq_none_iff]
 intro x hx
 simp only [decide_eq_false_iff_not]
 rintro rfl; exact h hx
def aC (c:UInt8):List (List UInt8)→List UInt8
 | []=>[]
 | p :: ps=>p++ps.flatMap (c :: ·)
theorem gU (c:UInt8) (p q:List UInt8) (ps:List (List UInt8)):aC c (p :: q :: ps)=p++c :: aC c (q :: ps):=by simp [aC]
theorem nY (c:UInt8):∀ (l:List (List UInt8)),l≠[]→(∀ p∈l,c∉p)→ai c (aC c l)=l
 | [],h,_=>absurd rfl h
 | [p],_,h=>by simp only [aC,List.flatMap_nil,List.append_nil]; exact sH c p (h p (by simp))
 | p :: q :: ps,_,h=>by
   rw [gU,ll c p _ (h p (by simp)),nY c (q :: ps) (by simp) (fun x hx=>h x (by simp at hx ⊢; exact .inr hx))]
theorem lh (c:UInt8):∀ (s:List UInt8),aC c (ai c s)=s
 | []=>rfl
 | b :: l=>by
   have ih:=lh c l
   rw [dQ]
   by_cases hb:b=c
   . subst hb
     rw [if_pos rfl]
     cases hq:ai b l with
     | nil=>exact absurd hq (gX b l)
     | cons p ps=>rw [gU,← hq,ih]; rfl
   . rw [if_neg hb]
     cases hq:ai c l with
     | nil=>exact absurd hq (gX c l)
     | cons p ps =>
       rw [hq] at ih
       simp only [aC,hd] at ih ⊢
       rw [List.cons_append,ih]
theorem ly (c:UInt8):∀ (l:List (List UInt8)),Lib.join l [c]=aC c l
 | []=>by simp [Lib.join,aC]
 | [p]=>by simp [Lib.join,aC,List.intercalate]
 | p :: q :: ps=>by
   have ih:=ly c (q :: ps)
   rw [gU,← ih]
   simp [Lib.join,List.intercalate]
def lst (l:List Int):List UInt8:=aC 44 (l.map text)
end Nu
end
section
open Go.RowKit Nu
theorem vQ (c:UInt8) (h:bd c=true):IntKind.wrap .i64 (IntKind.wrap .u8 (((c.toNat:Nat):Int) - 48))=(dig c:Int)∧dig c < 10:=by
 unfold bd at h; simp only [Bool.and_eq_true,decide_eq_true_eq] at h
 have e:IntKind.wrap .u8 (((c.toNat:Nat):Int) - 48)=(((c.toNat:Nat):Int) - 48) % 256:=IntKind.wrap_u8' _
 have e2:(((c.toNat:Nat):Int) - 48) % 256=((c.toNat:Nat):Int) - 48:=Int.emod_eq_of_lt (by omega) (by omega)
 rw [e,e2,w64 (by omega) (by omega)]
 unfold dig; omega
theorem vY {s:List UInt8} (h:bG s=true):s.all bd=true:=by unfold bG at h; rw [Bool.and_eq_true] at h; exact h.1
theorem wo {s:List UInt8} (h:bG s=true):s≠[]:=by rintro rfl; simp [bG] at h
theorem tW {s:List UInt8} {k:Nat} (h:k < s.length):val (s.take (k + 1))=val (s.take k) * 10 + dig s[k]:=by rw [dx h,pu]
theorem vI (c:UInt8):(decide ((((c.toNat:Nat):Int)) < 48)||decide (57 < (((c.toNat:Nat):Int)))) = !bd c:=by
 unfold bd
 rw [Bool.eq_iff_iff]
 simp only [Bool.or_eq_true,decide_eq_true_eq,Bool.not_eq_true',Bool.and_eq_false_iff,decide_eq_false_iff_not]; omega
theorem uQ {s:List UInt8} {β:Type} {body:Int→Option (Int⊕β)} (hit e:β) (hn:s.length≤1000000)
   (hb:∀ i:Int,body i=cond (decide (i < (((s.length:Nat):Int)))) ((ab s i).bind fun x=>(cond (decide ((((x.toNat:Nat):Int)) < 48)) (some (true)) ((ab s i).bind fun x=>some (decide (57 < (((x.toNat:Nat):Int)))))).bind fun t=>cond (t) (some (.inr hit)) (some (.inl (IntKind.wrap .i64 (i + 1))))) (some (.inr e))) :
   loop body 0=some (if s.all bd then e else hit):=by
 have h:=s8 (body:=body) s (fun c=>!bd c) hit e (fun k hk=>by
   rw [hb,dlt hk,cond_true,aR hk,Option.bind_some,aY hk (by omega)]
   rw [← vI]
   by_cases h1:(((s[k].toNat:Nat):Int)) < 48
   . simp only [h1,decide_true,cond_true,Option.bind_some,Bool.true_or,if_true]
   . simp only [h1,decide_false,cond_false,Option.bind_some,Bool.false_or]
     by_cases h2:57 < (((s[k].toNat:Nat):Int)) <;> simp [h2]) (by rw [hb,dge (by omega),cond_false])
 rw [h]
 congr 1
 cases ha:s.all bd with
 | true =>
   have:s.any (fun c=>!bd c)=false:=by rw [List.any_eq_false]; intro x hx; simp [List.all_eq_true.1 ha x hx]
   rw [this]; rfl
 | false =>
   have:s.any (fun c=>!bd c)=true:=by
     rw [List.all_eq_false] at ha
     obtain ⟨x,hx,h⟩:=ha
     exact List.any_eq_true.2 ⟨x,hx,by simpa using h⟩
   rw [this]; rfl
theorem xn {s:List UInt8} (h:0 < s.length):ab s 0=some (s[0]'h):=aR (k:=0) h
theorem v7 {s:List UInt8} (h:0 < s.length):decide ((((s[0]'h).toNat:Nat):Int)=48)=decide (s.head? = some 48):=by
 cases s with
 | nil=>simp at h
 | cons b l =>
   simp only [List.getElem_cons_zero,List.head?_cons,Option.some.injEq]
   by_cases hb:b=48
   . subst hb; rfl
   . have:¬ ((b.toNat:Nat):Int)=48:=fun e=>hb (by apply UInt8.toNat_inj.1; simpa using Int.ofNat.inj e)
     simp [hb,this]
theorem sb (s:List UInt8) (hn:s.length≤1000000):i8 s=some (bG s):=by
 unfold i8
 by_cases h0:s=[]
 . subst h0; rfl
 have hp:0 < s.length:=List.length_pos_iff.2 h0
 have hl:=uQ (s:=s) (body:=nA s) (.inr false) (.inl ()) hn (fun i=>rfl)
 have he:decide (s=([]:List UInt8))=false:=by simp [h0]
 rw [he,cond_false]
 by_cases h1:1 < s.length
 . have e1:decide (1 < (((s.length:Nat):Int)))=true:=by simp; omega
   rw [e1,cond_true,xn hp]
   simp only [Option.bind_some,v7 hp]
   unfold bG
   have e2:¬ s.length=1:=by omega
   by_cases h2:s.head? = some 48
   . simp [h2,e2]
   . simp only [h2,decide_false,cond_false,hl,e2,h1,decide_true,Bool.false_or,Bool.true_and,Bool.not_false,Bool.and_true]
     cases s.all bd <;> simp
 . have e1:decide (1 < (((s.length:Nat):Int)))=false:=by simp; omega
   rw [e1,cond_false]
   simp only [Option.bind_some,cond_false,hl]
   unfold bG
   have e2:s.length=1:=by omega
   simp only [e2,decide_true,Bool.true_or,Bool.and_true]
   cases s.all bd <;> simp
theorem fH (s:List UInt8) (most:Int) (hn:s.length≤1000000) (hm : -9223372036854775808≤most) (hm2:most≤9223372036854775807):dp s most=some (an s most):=by
 unfold dp
 rw [sb s hn]
 unfold an
 cases hs:bG s with
 | false=>simp
 | true =>
   have ha:=vY hs
   simp only [Option.bind_some,Bool.not_true,cond_false,if_true]
   have h:=lu (body:=dn s most) (fun k=>most < (val (s.take (k + 1)):Int)) (fun k:Nat=>(((val (s.take k):Nat):Int),(k:Int))) s.length (fun _ => .inr (0,5)) (.inl ((val s:Nat):Int))
   have step:∀ k,k < s.length→(∀ j,j < k→¬ most < (val (s.take (j + 1)):Int))→dn s most (((val (s.take k):Nat):Int),(k:Int))=if most < (val (s.take (k + 1)):Int) then some (.inr (.inr (0,5))) else some (.inl ((((val (s.take (k + 1)):Nat):Int),((k + 1:Nat):Int)))):=by
     intro k hk hprev
     obtain ⟨b1,b2⟩:=vQ s[k] (List.all_eq_true.1 ha _ (List.getElem_mem hk))
     have hv:=tW hk
     have hpre:k=0∨((val (s.take k):Nat):Int)≤most:=by
       rcases Nat.eq_zero_or_pos k with h | h
       . exact .inl h
       . right
         have:=hprev (k - 1) (by omega)
         rw [show k - 1 + 1=k by omega] at this
         omega
     have hz:k=0→val (s.take k)=0:=fun e=>by subst e; rfl
     unfold dn
     simp only [dlt hk,cond_true,aR hk,Option.bind_some,b1]
     rw [hv]
     by_cases h1:most < (dig s[k]:Int)
     . have:most < ((val (s.take k) * 10 + dig s[k]:Nat):Int):=by omega
       rw [if_pos this]; simp [h1]
     . have e1:IntKind.wrap .i64 (most - (dig s[k]:Int))=most - (dig s[k]:Int):=w64 (by omega) (by omega)
       have e2:Int.tdiv (most - (dig s[k]:Int)) 10=(most - (dig s[k]:Int)) / 10:=Int.tdiv_eq_ediv_of_nonneg (by omega)
       have e3:IntKind.wrap .i64 ((most - (dig s[k]:Int)) / 10)=(most - (dig s[k]:Int)) / 10:=w64 (by omega) (by omega)
       rw [e1,e2,e3]
       by_cases h2:most < ((val (s.take k) * 10 + dig s[k]:Nat):Int)
       . have:(most - (dig s[k]:Int)) / 10 < ((val (s.take k):Nat):Int):=by omega
         rw [if_pos h2]; simp [this]
       . have:¬ (most - (dig s[k]:Int)) / 10 < ((val (s.take k):Nat):Int):=by omega
         rw [if_neg h2]
         have w1:IntKind.wrap .i64 (((val (s.take k):Nat):Int) * 10)=((val (s.take k):Nat):Int) * 10:=w64 (by omega) (by omega)
         have w2:IntKind.wrap .i64 (((val (s.take k):Nat):Int) * 10 + (dig s[k]:Int))=((val (s.take k) * 10 + dig s[k]:Nat):Int):=by rw [w64 (by omega) (by omega)]; omega
         simp only [decide_eq_false h1,decide_eq_false this,Bool.or_self,cond_false,w1,w2,aY hk (by omega)]
   rcases bQ (fun k=>most < (val (s.take (k + 1)):Int)) s.length with ⟨k,hk,hp,hmin⟩ | hall
   . have hl:loop (dn s most) (0,0)=some (.inr (0,5)):=by
       have:=g8 (body:=dn s most) (fun k:Nat=>(((val (s.take k):Nat):Int),(k:Int))) k (b := .inr (0,5)) (fun j hj=>by rw [step j (by omega) (fun i hi=>hmin i (by omega)),if_neg (hmin j hj)]) (by rw [step k hk hmin,if_pos hp])
       exact this
     rw [hl]
     have h9:most < ((val s:Nat):Int):=by have:=sa s (k + 1); omega
     simp [h9]
   . have hl:loop (dn s most) (0,0)=some (.inl ((val s:Nat):Int)):=by
       have:=g8 (body:=dn s most) (fun k:Nat=>(((val (s.take k):Nat):Int),(k:Int))) s.length (b := .inl ((val s:Nat):Int)) (fun j hj=>by rw [step j hj (fun i hi=>hall i (by omega)),if_neg (hall j hj)]) (by
         unfold dn
         simp only [dge (show ¬ s.length < s.length by omega),cond_false,List.take_length])
       exact this
     rw [hl]
     have h9:¬ most < ((val s:Nat):Int):=by
       have hp:0 < s.length:=List.length_pos_iff.2 (wo hs)
       have:=hall (s.length - 1) (by omega)
       rw [show s.length - 1 + 1=s.length by omega,List.take_length] at this
       exact this
     simp [h9]
theorem mH {d:Nat} (h:d < 10):IntKind.wrap .u8 (IntKind.wrap .i64 (48 + (d:Int)))=((48 + d:Nat):Int):=by
 rw [w64 (by omega) (by omega)]
 have e:IntKind.wrap .u8 (48 + (d:Int))=(48 + (d:Int)) % 256:=IntKind.wrap_u8' _
 rw [e,Int.emod_eq_of_lt (by omega) (by omega)]; omega
theorem s9:∀ (k n a:Nat) (l:List Int),n < 10 ^ (k + 1)→n≤9223372036854775807→k < a→a≤20→l.length=20→loop gJ ((n:Int),l,(a:Int))=some (dec n++bv (l.drop a)):=by
 intro k
 induction k with
 | zero =>
   intro n a l hn hb ha ha2 hl
   have h10:n < 10:=by simpa using hn
   have e0:IntKind.wrap .i64 ((a:Int) - 1)=((a - 1:Nat):Int):=by rw [w64 (by omega) (by omega)]; omega
   have e1:Int.tmod (n:Int) 10=(n:Int):=by rw [Int.tmod_eq_emod_of_nonneg (by omega)]; omega
   have e2:Int.tdiv (n:Int) 10=0:=by rw [Int.tdiv_eq_ediv_of_nonneg (by omega)]; omega
   refine bh ?_
   unfold gJ
   have hs:subL (l.set (a - 1) ((48 + n:Nat):Int)) ((a - 1:Nat):Int) (((20:Nat):Int))=some (((48 + n:Nat):Int) :: l.drop a):=by
     rw [b0 (by omega) (by omega) (by rw [List.length_set,hl]; omega)]
     simp only [Int.toNat_natCast]
     rw [List.take_of_length_le (by rw [List.length_set,hl]; omega),List.drop_eq_getElem_cons (by rw [List.length_set]; omega),List.getElem_set_self,List.drop_set_of_lt (by omega),show a - 1 + 1=a by omega]
   simp only [e0,aR (show a - 1 < l.length by omega),Option.bind_some,e1,mH h10,e2,Int.toNat_natCast,show IntKind.wrap .i64 0=0 from rfl,decide_true,cond_true,hs]
   rw [dY h10]
   simp only [bv,List.map_cons,Int.toNat_natCast]; rfl
 | succ k ih =>
   intro n a l hn hb ha ha2 hl
   by_cases h10:n < 10
   . have e0:IntKind.wrap .i64 ((a:Int) - 1)=((a - 1:Nat):Int):=by rw [w64 (by omega) (by omega)]; omega
     have e1:Int.tmod (n:Int) 10=(n:Int):=by rw [Int.tmod_eq_emod_of_nonneg (by omega)]; omega
     have e2:Int.tdiv (n:Int) 10=0:=by rw [Int.tdiv_eq_ediv_of_nonneg (by omega)]; omega
     refine bh ?_
     unfold gJ
     have hs:subL (l.set (a - 1) ((48 + n:Nat):Int)) ((a - 1:Nat):Int) (((20:Nat):Int))=some (((48 + n:Nat):Int) :: l.drop a):=by
       rw [b0 (by omega) (by omega) (by rw [List.length_set,hl]; omega)]
       simp only [Int.toNat_natCast]
       rw [List.take_of_length_le (by rw [List.length_set,hl]; omega),List.drop_eq_getElem_cons (by rw [List.length_set]; omega),List.getElem_set_self,List.drop_set_of_lt (by omega),show a - 1 + 1=a by omega]
     simp only [e0,aR (show a - 1 < l.length by omega),Option.bind_some,e1,mH h10,e2,Int.toNat_natCast,show IntKind.wrap .i64 0=0 from rfl,decide_true,cond_true,hs]
     rw [dY h10]
     simp only [bv,List.map_cons,Int.toNat_natCast]; rfl
   . have e0:IntKind.wrap .i64 ((a:Int) - 1)=((a - 1:Nat):Int):=by rw [w64 (by omega) (by omega)]; omega
     have e1:Int.tmod (n:Int) 10=((n % 10:Nat):Int):=by rw [Int.tmod_eq_emod_of_nonneg (by omega)]; omega
     have e2:IntKind.wrap .i64 (Int.tdiv (n:Int) 10)=((n / 10:Nat):Int):=by rw [Int.tdiv_eq_ediv_of_nonneg (by omega),w64 (by omega) (by omega)]; omega
     have e3:decide (((n / 10:Nat):Int)=0)=false:=by simp; omega
     rw [cv (s':=(((n / 10:Nat):Int),l.set (a - 1) ((48 + n % 10:Nat):Int),((a - 1:Nat):Int))),ih (n / 10) (a - 1) _ (by rw [Nat.pow_succ] at hn; omega) (by omega) (by omega) (by omega) (by rw [List.length_set,hl])]
     . rw [j4 h10,List.drop_eq_getElem_cons (by rw [List.length_set]; omega),List.getElem_set_self,List.drop_set_of_lt (by omega),show a - 1 + 1=a by omega]
       simp only [bv,List.map_cons,Int.toNat_natCast,List.append_assoc]; rfl
     . unfold gJ
       simp only [e0,aR (show a - 1 < l.length by omega),Option.bind_some,e1,mH (show n % 10 < 10 by omega),e2,e3,Int.toNat_natCast,cond_false]
theorem fL (n:Int) (h:n≤9223372036854775807):cH n=some (text n):=by
 unfold cH text
 by_cases h0:n < 0
 . simp [h0]
 . obtain ⟨m,rfl⟩:=Int.eq_ofNat_of_zero_le (show 0≤n by omega)
   rw [if_neg h0,decide_eq_false h0,cond_false]
   have:=s9 18 m 20 [0,0,0,0,0,0,0,0,0,0,0,0,0,0,0,0,0,0,0,0] (by omega) (by omega) (by omega) (by omega) rfl
   rw [show ((20:Nat):Int)=20 from rfl] at this
   rw [this]
   simp [bv]
def pair (b:Int×Int):List UInt8:=if b.1 < 0∨b.2 < 0 then [] else text b.1++58 :: text b.2
theorem ur (b:Int×Int) (h1:b.1≤9223372036854775807) (h2:b.2≤9223372036854775807):je b=some (pair b):=by
 unfold je pair
 by_cases h:b.1 < 0∨b.2 < 0
 . rw [if_pos h]
   have:(decide (b.1 < 0)||decide (b.2 < 0))=true:=by simpa using h
   rw [this]; rfl
 . rw [if_neg h]
   have:(decide (b.1 < 0)||decide (b.2 < 0))=false:=by simp; omega
   have l1:=dU h1; have l2:=dU h2
   rw [this,cond_false,fL _ h1,fL _ h2]
   simp only [Option.bind_some]
   rw [b7 (by simp; omega)]
   simp only [Option.bind_some]
   rw [b7 (by simp; omega)]
   simp
end
section
open Go.RowKit Nu
def two (a b:List UInt8) (most:Int):Int×Int×Int :=
 if (an a most).2≠0 then (0,0,(an a most).2) else if (an b most).2≠0 then (0,0,(an b most).2) else ((an a most).1,(an b most).1,0)
def aG (s:List UInt8) (most:Int):Int×Int×Int:=match s.findIdx? (fun x=>decide (x=58)) with | some k=>two (s.take k) (s.drop (k + 1)) most | none=>(0,0,3)
theorem tV {α:Type} {s:List α} {k n:Nat} (h:s.length≤n):(s.take k).length≤n:=by rw [List.length_take]; omega
theorem tR {α:Type} {s:List α} {k n:Nat} (h:s.length≤n):(s.drop k).length≤n:=by rw [List.length_drop]; omega
theorem oa (s:List UInt8) (most:Int) (hn:s.length≤1000000) (hm : -9223372036854775808≤most) (hm2:most≤9223372036854775807):eK s most=some (aG s most):=by
 unfold eK iG aG
 rw [if_pos (by omega),u4]
 cases s.findIdx? (fun x=>decide (x=58)) with
 | none=>rfl
 | some k =>
   simp only [Option.bind_some,Bool.not_true,cond_false,fH _ most (tV (k:=k) hn) hm hm2,fH _ most (tR (k:=k + 1) hn) hm hm2]
   unfold two
   by_cases h1:(an (s.take k) most).2=0
   . by_cases h2:(an (s.drop (k + 1)) most).2=0 <;> simp [h1,h2]
   . simp [h1]
def bq (most:Int):List (List UInt8)→List Int→List Int×Int
 | [],acc=>(acc,0)
 | p :: ps,acc=>if (an p most).2≠0 then ([],(an p most).2) else bq most ps (acc++[(an p most).1])
def cw (s:List UInt8) (most:Int):List Int×Int:=if s=[] then ([],0) else bq most (ai 44 s) []
theorem cJ (c:UInt8):∀ s,(ai c s).length≤s.length + 1
 | []=>by simp [ai]
 | b :: l=>by
   have:=cJ c l
   rw [dQ]; split
   . simp; omega
   . cases hq:ai c l with
     | nil=>simp [hd]
     | cons p ps=>rw [hq] at this; simp [hd] at this ⊢; omega
theorem gT (c:UInt8) (n:Nat):∀ s,s.length≤n→∀ p∈ai c s,p.length≤n:=by
 intro s hs p hp
 have key:∀ s:List UInt8,∀ p∈ai c s,p.length≤s.length:=by
   intro s
   induction s with
   | nil=>intro p hp; simp [ai] at hp; subst hp; simp
   | cons b l ih =>
     intro p hp
     rw [dQ] at hp
     split at hp
     . rcases List.mem_cons.1 hp with rfl | hp
       . simp
       . have:=ih p hp; simp; omega
     . cases hq:ai c l with
       | nil=>exact absurd hq (gX c l)
       | cons q qs =>
         rw [hq] at hp ih
         rcases List.mem_cons.1 hp with rfl | hp
         . have:=ih q (by simp); simp; omega
         . have:=ih p (by simp [hp]); simp; omega
 have:=key s p hp
 omega
theorem tC (most:Int) (l:List (List UInt8)) (hl:l.length≤1000001) (hs:∀ p∈l,p.length≤1000000) (hm : -9223372036854775808≤most) (hm2:most≤9223372036854775807) :
   ∀ (m k:Nat) (acc:List Int),k + m=l.length→acc.length=k→loop (gF most l) (acc,(k:Int))=some (if (bq most (l.drop k) acc).2=0 then .inl (bq most (l.drop k) acc).1 else .inr (bq most (l.drop k) acc)):=by
 intro m
 induction m with
 | zero =>
   intro k acc hk ha
   refine bh ?_
   unfold gF
   rw [List.drop_eq_nil_of_le (by omega)]
   simp only [dge (show ¬ k < l.length by omega),cond_false,bq,if_true]
 | succ m ih =>
   intro k acc hk ha
   have hk':k < l.length:=by omega
   have hp:=fH l[k] most (hs _ (List.getElem_mem hk')) hm hm2
   rw [List.drop_eq_getElem_cons hk']
   by_cases h1:(an l[k] most).2=0
   . have e:bq most (l[k] :: l.drop (k + 1)) acc=bq most (l.drop (k + 1)) (acc++[(an l[k] most).1]):=by simp [bq,h1]
     rw [e,cv (s':=(acc++[(an l[k] most).1],((k + 1:Nat):Int))),ih (k + 1) _ (by omega) (by simp [ha])]
     unfold gF
     simp only [dlt hk',cond_true,aR hk',Option.bind_some,hp,aY hk' (by omega),h1,decide_true,Bool.not_true,cond_false]
     rw [b7 (by simp; omega)]
     rfl
   . have e:bq most (l[k] :: l.drop (k + 1)) acc=([],(an l[k] most).2):=by simp [bq,h1]
     rw [e]
     simp only [h1,if_false]
     refine bh ?_
     unfold gF
     simp only [dlt hk',cond_true,aR hk',Option.bind_some,hp,h1,decide_false,Bool.not_false]
theorem so (s:List UInt8) (most:Int) (hn:s.length≤1000000) (hm : -9223372036854775808≤most) (hm2:most≤9223372036854775807):gH s most=some (cw s most):=by
 unfold gH cw
 by_cases h0:s=[]
 . subst h0; rfl
 . rw [if_neg h0,decide_eq_false h0,cond_false]
   have e:b9 s [44]=some (ai 44 s):=by
     unfold b9
     rw [if_pos ⟨by omega,by simp⟩,Lib.splitB_data]
     congr 1
     show Lib.splitK [44] 0 (Lib.count s [44]) s=_
     rw [Lib.count_one]
     exact nM 44 _ s rfl
   rw [e]
   have:=tC most (ai 44 s) (by have:=cJ 44 s; omega) (gT 44 _ s hn) hm hm2 (ai 44 s).length 0 [] (by omega) rfl
   rw [show ((0:Nat):Int)=0 from rfl,List.drop_zero] at this
   simp only [Option.bind_some]
   rw [this]
   by_cases h1:(bq most (ai 44 s) []).2=0
   . simp only [h1,if_true,Option.bind_some]; rw [← h1]
   . simp only [h1,if_false,Option.bind_some]
theorem uG {s:List UInt8} {most:Int} (h:(an s most).2=0):bG s=true∧text (an s most).1=s∧0≤(an s most).1∧(an s most).1≤most:=by
 unfold an at h ⊢
 cases hs:bG s with
 | false=>rw [hs] at h; simp at h
 | true =>
   rw [hs] at h
   simp only [if_true] at h ⊢
   split at h
   . simp at h
   . rename_i h1
     rw [if_neg h1]
     exact ⟨trivial,tE hs,by show (0:Int)≤((val s:Nat):Int); omega,by show ((val s:Nat):Int)≤most; omega⟩
theorem oz (most:Int):∀ (ps:List (List UInt8)) (acc:List Int),(bq most ps acc).2=0→∃ l,(bq most ps acc).1=acc++l∧l.map text=ps∧(∀ x∈l,0≤x∧x≤most)∧l.length=ps.length
 | [],acc,h=>⟨[],by simp [bq],rfl,by simp,rfl⟩
 | p :: ps,acc,h=>by
   unfold bq at h ⊢
   by_cases h1:(an p most).2=0
   . simp only [h1,ne_eq,not_true_eq_false,if_false] at h ⊢
     obtain ⟨l,e1,e2,e3,e4⟩:=oz most ps _ h
     obtain ⟨_,a1,a2,a3⟩:=uG h1
     refine ⟨(an p most).1 :: l,by rw [e1]; simp,by simp [a1,e2],fun x hx=>?_,by simp [e4]⟩
     rcases List.mem_cons.1 hx with rfl | hx
     . exact ⟨a2,a3⟩
     . exact e3 x hx
   . simp [h1] at h
theorem se {s:List UInt8} {most:Int} (h:(cw s most).2=0):lst (cw s most).1=s∧(∀ x∈(cw s most).1,0≤x∧x≤most)∧(cw s most).1.length≤s.length + 1:=by
 unfold cw at h ⊢
 by_cases h0:s=[]
 . subst h0; simp [lst,aC]
 . rw [if_neg h0] at h ⊢
   obtain ⟨l,e1,e2,e3,e4⟩:=oz most _ [] h
   rw [e1,List.nil_append]
   refine ⟨?_,e3,by have:=cJ 44 s; omega⟩
   unfold lst
   rw [e2,lh]
theorem rY {s:List UInt8} {most:Int}:(cw s most).1.length≤s.length + 1:=by
 by_cases h:(cw s most).2=0
 . exact (se h).2.2
 . have:(cw s most).1=[]:=by
     unfold cw at h ⊢
     split at h
     . simp at h
     . rename_i h0
       rw [if_neg h0]
       have key:∀ (ps:List (List UInt8)) (acc:List Int),(bq most ps acc).2≠0→(bq most ps acc).1=[]:=by
         intro ps
         induction ps with
         | nil=>intro acc h; exact absurd rfl h
         | cons p ps ih =>
           intro acc h
           unfold bq at h ⊢
           by_cases h1:(an p most).2=0
           . simp only [h1,ne_eq,not_true_eq_false,if_false] at h ⊢; exact ih _ h
           . simp [h1]
       exact key _ _ h
   rw [this]; simp
end
abbrev St:=Int×Bool
section
open Go.RowKit Nu
theorem o7 {c:UInt8} {l:List (List UInt8)} (h:(aC c l).length≤140737488355328) (h2:l.length≤140737488355328):cC l [c]=some (aC c l):=by
 unfold cC; rw [ly,if_pos ⟨h,h2⟩]
abbrev I64 (n:Int):Prop:=n≤9223372036854775807
abbrev Wd:=List UInt8
abbrev fi:=Int×Int×Int×Int×Bool
abbrev eD:=Int×Int×Int×List Int×List Int×List Int
def cq:Wd:=[110,111,112]
def cg:Wd:=[97,115,115,105,103,110]
def cu:Wd:=[98,111,114,114,111,119]
def ck:Wd:=[114,101,98,111,114,114,111,119]
def cj:Wd:=[117,115,101]
def ce:Wd:=[100,101,97,100]
def et:Wd:=[109,117,116]
def dG:Wd:=[103,111,116,111]
def kSw:Wd:=[115,119,105,116,99,104]
def dJ:Wd:=[114,101,116,117,114,110]
def dH:Wd:=[99,97,108,108]
structure TmS (x:eD):Prop where
 sig:I64 x.2.1
 dst:I64 x.2.2.1
 nto:x.2.2.2.1.length≤30
 args:x.2.2.2.2.1.length≤30
 par:x.2.2.2.2.2.length≤30
 hto:∀ n∈x.2.2.2.1,I64 n
 hargs:∀ n∈x.2.2.2.2.1,I64 n
 hpar:∀ n∈x.2.2.2.2.2,I64 n
def pSl (p:Wd):St×Int:=let i:=decide (p.getLast? = some 33); let r:=an (if i then p.dropLast else p) 1048576; ((r.1,i),r.2)
def pgo:List Wd→List St→List St×Int
 | [],acc=>(acc,0)
 | p :: ps,acc=>if (pSl p).2≠0 then ([],(pSl p).2) else pgo ps (acc++[(pSl p).1])
def pTy (s:Wd):List St×Int:=if s=[45] then ([],0) else pgo (ai 47 s) []
theorem vZ (x:Wd) (c:UInt8) (h:0 < x.length):x.drop (x.length - 1)=[x[x.length - 1]]∧x.getLast? = some x[x.length - 1]∧x.take (x.length - 1)=x.dropLast:=by
 refine ⟨?_,?_,?_⟩
 . rw [List.drop_eq_getElem_cons (by omega),List.drop_eq_nil_of_le (by omega)]
 . rw [List.getLast?_eq_getElem?,List.getElem?_eq_getElem (by omega)]
 . rw [List.dropLast_eq_take]
theorem ro (x:Wd) (hn:x.length≤1000000):iZ x [33]=some (if decide (x.getLast? = some 33) then x.dropLast else x,decide (x.getLast? = some 33)):=by
 unfold iZ kT kS
 by_cases h0:x=[]
 . subst h0; rfl
 . have hp:0 < x.length:=List.length_pos_iff.2 h0
   obtain ⟨q1,q2,q3⟩:=vZ x 33 hp
   have e1:decide (((([33]:List UInt8).length:Nat):Int)≤(((x.length:Nat):Int)))=true:=by simp; omega
   have e2:IntKind.wrap .i64 ((((x.length:Nat):Int)) - ((([33]:List UInt8).length:Nat):Int))=((x.length - 1:Nat):Int):=by
     simp only [List.length_cons,List.length_nil]; rw [w64 (by omega) (by omega)]; omega
   simp only [e1,e2,cond_true]
   rw [b0 (by omega) (by omega) (by omega),b0 (by omega) (by omega) (by omega)]
   simp only [Option.bind_some,Int.toNat_natCast,List.take_length,q1,q2,q3,show ((0:Int).toNat)=0 from rfl,List.drop_zero]
   by_cases hc:x[x.length - 1]=33
   . simp [hc]
   . simp [hc]
theorem sS {s:Wd} (hn:s.length≤1000000):∀ p∈ai 47 s,p.length≤1000000:=gT 47 _ s hn
theorem r8 {x:Wd} {n:Nat} (h:x.length≤n):x.dropLast.length≤n:=by rw [List.length_dropLast]; omega
theorem vo {x:Wd} {n:Nat} {b:Bool} (h:x.length≤n):(if b=true then x.dropLast else x).length≤n:=by split; exact r8 h; exact h
theorem hY (c:UInt8) (s:Wd) (hn:s.length≤4000000):b9 s [c]=some (ai c s):=by
 unfold b9
 rw [if_pos ⟨by omega,by simp⟩,Lib.splitB_data]
 congr 1
 show Lib.splitK [c] 0 (Lib.count s [c]) s=_
 rw [Lib.count_one]
 exact nM c _ s rfl
theorem uO (l:List Wd) (hl:l.length≤1000001) (hs:∀ p∈l,p.length≤1000000):∀ (m k:Nat) (acc:List St),k + m=l.length→acc.length=k →
   loop (gI l) ((k:Int),acc)=some (if (pgo (l.drop k) acc).2=0 then .inl (pgo (l.drop k) acc).1 else .inr (pgo (l.drop k) acc)):=by
 intro m
 induction m with
 | zero =>
   intro k acc hk ha
   refine bh ?_
   unfold gI
   rw [List.drop_eq_nil_of_le (by omega)]
   simp only [dge (show ¬ k < l.length by omega),cond_false,pgo,if_true]
 | succ m ih =>
   intro k acc hk ha
   have hk':k < l.length:=by omega
   have hx:=hs _ (List.getElem_mem hk')
   have hp:=fH (if decide (l[k].getLast? = some 33)=true then l[k].dropLast else l[k]) 1048576 (vo hx) (by omega) (by omega)
   rw [List.drop_eq_getElem_cons hk']
   by_cases h1:(pSl l[k]).2=0
   . have e:pgo (l[k] :: l.drop (k + 1)) acc=pgo (l.drop (k + 1)) (acc++[(pSl l[k]).1]):=by simp [pgo,h1]
     rw [e,cv (s':=(((k + 1:Nat):Int),acc++[(pSl l[k]).1])),ih (k + 1) _ (by omega) (by simp [ha])]
     unfold gI
     simp only [dlt hk',cond_true,aR hk',Option.bind_some,ro _ hx,hp,aY hk' (by omega)]
     unfold pSl at h1
     simp only at h1
     rw [h1]
     simp only [decide_true,Bool.not_true,cond_false]
     rw [b7 (by simp; omega)]
     rfl
   . have e:pgo (l[k] :: l.drop (k + 1)) acc=([],(pSl l[k]).2):=by simp [pgo,h1]
     rw [e]
     simp only [h1,if_false]
     refine bh ?_
     unfold gI
     simp only [dlt hk',cond_true,aR hk',Option.bind_some,ro _ hx,hp]
     unfold pSl at h1 ⊢
     simp only at h1 ⊢
     rw [decide_eq_false h1]; rfl
theorem vy (s:Wd) (hn:s.length≤1000000):jd s=some (pTy s):=by
 unfold jd pTy
 by_cases h0:s=[45]
 . subst h0; rfl
 . rw [if_neg h0,decide_eq_false h0,cond_false,hY 47 s (by omega)]
   have:=uO (ai 47 s) (by have:=cJ 47 s; omega) (sS hn) (ai 47 s).length 0 [] (by omega) rfl
   rw [show ((0:Nat):Int)=0 from rfl,List.drop_zero] at this
   simp only [Option.bind_some]
   rw [this]
   by_cases h1:(pgo (ai 47 s) []).2=0
   . simp only [h1,if_true,Option.bind_some]; rw [← h1]
   . simp only [h1,if_false,Option.bind_some]
end
section
open Go.RowKit Nu
abbrev aB:=Int×List (Int×Int)×List (List St)×List St
abbrev aA:=List fi×eD
abbrev PS:=Int×Int×List (Int×Int)×List (List St)×List St×List aB×List aA×Int
abbrev R38:=Int×Int×List (Int×Int)×List (List St)×List St×List aB×List aA×Int×Int
def cR (ws:List Wd) (p:PS):Option (Int×PS):=cU ws p.1 p.2.1 p.2.2.1 p.2.2.2.1 p.2.2.2.2.1 p.2.2.2.2.2.1 p.2.2.2.2.2.2.1 p.2.2.2.2.2.2.2
def wds (l:Wd):List Wd:=(ai 32 l).filter (fun w=>!decide (w=[]))
def bp:List Wd→Bool
 | []=>true
 | w :: _=>decide (w.head? = some 35)
def jS (l:Wd) (p:PS):Option (Int×PS):=if bp (wds l) then some (0,p) else cR (wds l) p
def kA (p:PS):R38:=if p.2.2.2.2.2.2.2=3∨p.2.2.2.2.2.2.2=5∨p.2.2.2.2.2.2.2=7 then (p.1,p.2.1,p.2.2.1,p.2.2.2.1,p.2.2.2.2.1,p.2.2.2.2.2.1,p.2.2.2.2.2.2.1,0,0) else (0,0,[],[],[],[],[],0,14)
def ga:List Wd→PS→Int→Option R38
 | [],p,n=>some (kA p)
 | l :: ls,p,n=>(jS l p).bind fun r=>if r.1=0 then ga ls r.2 (n + 1) else some (0,0,[],[],[],[],[],n + 1,r.1)
theorem tM (l:List Wd) (hn:l.length≤4000000):iS l=some (match l.findIdx? (fun w=>decide (w=[])) with | some k=>(k:Int) | none=>-1):=by
 unfold iS
 rw [eN (body:=iN l) l (fun w=>decide (w=[])) (fun k => .inr (k:Int)) (.inl ()) (fun k hk=>by
   unfold iN gN
   simp only [dlt hk,cond_true,aR hk,Option.bind_some,aY hk (by omega)]
   by_cases h:l[k]=[] <;> simp [h]) (by unfold iN; simp only [dge (show ¬ l.length < l.length by omega),cond_false])]
 cases l.findIdx? (fun w=>decide (w=[])) <;> rfl
theorem qw (l:List Wd) (hn:l.length≤4000000):fu l=some (l.filter (fun w=>!decide (w=[]))):=by
 unfold fu
 rw [tM l hn,Option.bind_some]
 cases hf:l.findIdx? (fun w=>decide (w=[])) with
 | none =>
   have h:=List.findIdx?_eq_none_iff.1 hf
   have e:l.filter (fun w=>!decide (w=[]))=l:=List.filter_eq_self.2 (fun w hw=>by have:=h w hw; simpa using this)
   rw [e]; rfl
 | some k =>
   obtain ⟨hk,hp,hmin⟩:=List.findIdx?_eq_some_iff_getElem.1 hf
   have hpk:l[k]=[]:=by simpa using hp
   have hd:decide ((k:Int) = -1)=false:=decide_eq_false (by omega)
   dsimp only
   rw [hd,cond_false]
   have htk:(l.take k).filter (fun w=>!decide (w=[]))=l.take k:=List.filter_eq_self.2 (fun w hw=>by
     obtain ⟨j,hj,rfl⟩:=List.getElem_of_mem hw
     rw [List.length_take] at hj
     have:=hmin j (by omega)
     rw [List.getElem_take]; simpa using this)
   obtain ⟨b,hb,hq⟩:=pv (body:=kQ) (fun s=>∃ i j:Nat,s.2.1=(i:Int)∧s.2.2=(j:Int)∧i < j∧j≤l.length∧s.1.length=l.length∧s.1.take i=(l.take j).filter (fun w=>!decide (w=[]))∧s.1.drop j=l.drop j) (fun s=>l.length - s.2.2.toNat)
     (Q:=fun b=>∃ i:Nat,b.2=(i:Int)∧i≤l.length∧b.1.length=l.length∧b.1.take i=l.filter (fun w=>!decide (w=[])))
     (fun s hs=>by
       obtain ⟨q,i',j'⟩:=s
       obtain ⟨i,j,rfl,rfl,hij,hj,hl,ht,hdr⟩:=hs
       dsimp only at hl ht hdr ⊢
       unfold kQ gN
       by_cases hjl:j < l.length
       . left
         have hjq:j < q.length:=by omega
         have hiq:i < q.length:=by omega
         have ej:q[j]=l[j]:=by
           have:=congrArg List.head? hdr
           rw [List.head?_drop,List.head?_drop,List.getElem?_eq_getElem hjq,List.getElem?_eq_getElem hjl] at this
           exact Option.some.inj this
         have w1:IntKind.wrap .i64 ((j:Int) + 1)=((j + 1:Nat):Int):=aY hjl (by omega)
         have w2:IntKind.wrap .i64 ((i:Int) + 1)=((i + 1:Nat):Int):=aY hiq (by omega)
         have hdr':q.drop (j + 1)=l.drop (j + 1):=by
           rw [← List.drop_drop (i:=1),hdr,List.drop_drop]
         simp only [dlt hjq,cond_true,aR hjq,aR hiq,Option.bind_some,w1,w2,Int.toNat_natCast]
         by_cases hz:l[j]=[]
         . rw [show decide (q[j]=[])=true from by rw [ej]; simp [hz]]
           refine ⟨(q,(i:Int),((j + 1:Nat):Int)),rfl,⟨i,j + 1,rfl,rfl,by omega,by omega,hl,?_,hdr'⟩,by dsimp only; omega⟩
           rw [dx hjl,List.filter_append,ht]
           simp [hz]
         . rw [show decide (q[j]=[])=false from by rw [ej]; simp [hz]]
           refine ⟨(q.set i q[j],((i + 1:Nat):Int),((j + 1:Nat):Int)),rfl,⟨i + 1,j + 1,rfl,rfl,by omega,by omega,by simp [hl],?_,?_⟩,by dsimp only; omega⟩
           . dsimp only
             rw [dx (by rw [List.length_set]; omega),List.take_set_of_le (by omega),ht,List.getElem_set_self,dx hjl,List.filter_append,ej]
             simp [hz]
           . dsimp only
             rw [List.drop_set_of_lt (by omega),hdr']
       . right
         have hjq:¬ j < q.length:=by omega
         have ejl:j=l.length:=by omega
         refine ⟨(q,(i:Int)),by simp only [dge hjq,cond_false],i,rfl,by omega,hl,?_⟩
         dsimp only; rw [ht,ejl,List.take_length])
     (s:=(l,(k:Int),IntKind.wrap .i64 ((k:Int) + 1))) ⟨k,k + 1,rfl,by dsimp only; exact aY hk (by omega),by omega,by omega,rfl,by rw [dx hk,List.filter_append,htk]; simp [hpk],rfl⟩
   obtain ⟨q,z⟩:=b
   obtain ⟨i,rfl,hi,hl,ht⟩:=hq
   dsimp only at hi hl ht
   rw [hb]
   simp only [Option.bind_some]
   rw [b0 (by omega) (by omega) (by omega)]
   simp only [Option.bind_some,Int.toNat_natCast]
   rw [b0 (by omega) (by omega) (by simp [cpy]; omega)]
   simp only [Option.bind_some,Int.toNat_natCast,show ((0:Int).toNat)=0 from rfl,List.drop_zero]
   unfold cpy
   rw [List.take_append_of_le_length (by rw [List.length_take]; omega),List.take_take,Nat.min_self,ht]
theorem mf (ws:List Wd):(cond (decide (((ws.length:Nat):Int)=0)) (some true) ((ab ws 0).bind fun x=>(dm x [35]).bind fun t=>some t))=some (bp ws):=by
 cases ws with
 | nil=>rfl
 | cons w ws =>
   have e1:decide ((((w :: ws).length:Nat):Int)=0)=false:=decide_eq_false (by simp; omega)
   have e2:ab (w :: ws) 0=some w:=rfl
   rw [e1,cond_false,e2,Option.bind_some]
   unfold dm kR bp
   cases w with
   | nil=>rfl
   | cons c w =>
     have e3:decide (((([35]:List UInt8).length:Nat):Int)≤(((c :: w).length:Nat):Int))=true:=by simp; omega
     rw [e3,cond_true,b0 (by omega) (by omega) (by simp; omega)]
     simp
def cD (p:PS) (n:Int) (s:Wd):Int×Int×List (Int×Int)×List (List St)×List St×List aB×List aA×Int×Int×Wd:=(p.1,p.2.1,p.2.2.1,p.2.2.2.1,p.2.2.2.2.1,p.2.2.2.2.2.1,p.2.2.2.2.2.2.1,p.2.2.2.2.2.2.2,n,s)
theorem xD (s:Wd) (c:UInt8) (hn:s.length≤2000000):gC s [c]=some (match s.findIdx? (fun x=>decide (x=c)) with | some k=>(k:Int) | none=>-1):=by
 unfold gC; rw [if_pos (by omega)]; exact (congrArg some (jp c s)).trans (by cases s.findIdx? (fun x=>decide (x=c)) <;> rfl)
theorem wc:∀ (m:Nat) (s:Wd) (p:PS) (n:Nat) (r:R38),s.length≤m→n + m≤2000000→ga (ai 10 s) p n=some r →
   loop (eL [10] 0) (cD p n s)=some (.inr r)∨∃ (p':PS) (n':Nat) (s':Wd),loop (eL [10] 0) (cD p n s)=some (.inl (cD p' n' s'))∧n'≤2000000∧s'.length≤2000000∧ga [s'] p' n'=some r:=by
 intro m
 induction m with
 | zero =>
   intro s p n r hs hn h
   right
   obtain rfl:s=[]:=List.length_eq_zero_iff.1 (by omega)
   refine ⟨p,n,[],bh ?_,by omega,by simp,h⟩
   unfold eL cD
   rfl
 | succ m ih =>
   intro s p n r hs hn h
   have hx:=xD s 10 (by omega)
   cases hf:s.findIdx? (fun x=>decide (x=10)) with
   | none =>
     right
     rw [jj 10 s hf] at h
     rw [hf] at hx
     refine ⟨p,n,s,bh ?_,by omega,by omega,h⟩
     unfold eL cD
     simp only [hx,Option.bind_some]
     rfl
   | some k =>
     obtain ⟨hk,_,_⟩:=List.findIdx?_eq_some_iff_getElem.1 hf
     rw [lj 10 s k hf] at h
     rw [hf] at hx
     dsimp only at hx
     have q1:IntKind.wrap .i64 ((k:Int) + 0)=(k:Int):=w64 (by omega) (by omega)
     have q2:IntKind.wrap .i64 ((k:Int) + ((([10]:List UInt8).length:Nat):Int))=((k + 1:Nat):Int):=aY hk (by omega)
     have q3:IntKind.wrap .i64 ((n:Int) + 1)=((n + 1:Nat):Int):=aY (n:=2000000) (by omega) (by omega)
     have hkl:(s.take k).length≤2000000:=by rw [List.length_take]; omega
     have hsp:=hY 32 (s.take k) (by omega)
     have hde:=qw (ai 32 (s.take k)) (by have:=cJ 32 (s.take k); omega)
     have hsub:subL s ((k + 1:Nat):Int) ((s.length:Nat):Int)=some (s.drop (k + 1)):=by rw [b0 (by omega) (by omega) (by omega)]; simp
     have hsub0:subL s 0 (k:Int)=some (s.take k):=by rw [b0 (by omega) (by omega) (by omega)]; simp
     obtain ⟨y,hy,h⟩:=ob h
     obtain ⟨e,p1⟩:=y
     unfold jS at hy
     have hbody:∀ (b:(Int×Int×List (Int×Int)×List (List St)×List St×List aB×List aA×Int×Int×Wd)⊕((Int×Int×List (Int×Int)×List (List St)×List St×List aB×List aA×Int×Int×Wd)⊕R38)),
         (if bp (wds (s.take k))=true then b = .inl (cD p ((n + 1:Nat):Int) (s.drop (k + 1))) else b=(if e=0 then .inl (cD p1 ((n + 1:Nat):Int) (s.drop (k + 1))) else .inr (.inr (0,0,[],[],[],[],[],((n + 1:Nat):Int),e)))) →
         eL [10] 0 (cD p n s)=some b:=by
       intro b hb
       unfold eL cD
       have hneg:decide ((k:Int) < 0)=false:=decide_eq_false (by omega)
       simp only [hx,Option.bind_some,hneg,cond_false,q1,q2,q3,hsub0,hsp,hde,hsub]
       rw [show (cond (decide (((((ai 32 (s.take k)).filter (fun w=>!decide (w=[]))).length:Nat):Int)=0)) (some true) ((ab ((ai 32 (s.take k)).filter (fun w=>!decide (w=[]))) 0).bind fun x=>(dm x [35]).bind fun t=>some t))=some (bp (wds (s.take k))) from mf _]
       cases hsk:bp (wds (s.take k)) with
       | true =>
         rw [hsk,if_pos rfl] at hb
         rw [hb]; rfl
       | false =>
         rw [hsk] at hb hy
         simp only [Bool.false_eq_true,if_false] at hb hy
         rw [hb]
         have hy':cU ((ai 32 (s.take k)).filter (fun w=>!decide (w=[]))) p.1 p.2.1 p.2.2.1 p.2.2.2.1 p.2.2.2.2.1 p.2.2.2.2.2.1 p.2.2.2.2.2.2.1 p.2.2.2.2.2.2.2=some (e,p1):=hy
         simp only [Option.bind_some,cond_false,hy']
         by_cases h0:e=0
         . simp only [h0,decide_true,Bool.not_true,cond_false,if_true]; rfl
         . simp only [h0,decide_false,Bool.not_false,cond_true,if_false]
     have hdl:(s.drop (k + 1)).length≤m:=by rw [List.length_drop]; omega
     by_cases h0:e=0
     . simp only [h0,if_true] at h
       have hp1:bp (wds (s.take k))=true→p1=p:=fun hsk=>by
         rw [if_pos hsk] at hy
         injection hy with hy
         exact (congrArg Prod.snd hy).symm
       have hb:=hbody (.inl (cD p1 ((n + 1:Nat):Int) (s.drop (k + 1)))) (by
         split
         . rename_i hsk; rw [hp1 hsk]
         . first | rfl | rw [if_pos h0])
       rw [cv hb]
       exact ih _ p1 (n + 1) r hdl (by omega) h
     . simp only [h0,if_false] at h
       injection h with h
       left
       have hns:¬ bp (wds (s.take k))=true:=fun hsk=>by
         rw [if_pos hsk] at hy
         injection hy with hy
         exact h0 (congrArg Prod.fst hy).symm
       have hb:=hbody (.inr (.inr r)) (by
         rw [if_neg hns,if_neg h0,← h]; rfl)
       exact bh hb
theorem pW (s:Wd) (r:R38) (hn:s.length≤1048576) (h:ga (ai 10 s) (0,0,[],[],[],[],[],0) 0=some r):gR s=some r:=by
 unfold gR
 have e1:decide (1048576 < ((s.length:Nat):Int))=false:=decide_eq_false (by omega)
 rw [e1,cond_false]
 have e2:kZ s [10]=some ([10],s,0):=rfl
 rw [e2,Option.bind_some]
 dsimp only
 rw [show decide (((([10]:List UInt8).length:Nat):Int)=0)=false from rfl,cond_false]
 have key:=wc s.length s (0,0,[],[],[],[],[],0) 0 r (Nat.le_refl _) (by omega) h
 have hst:cD (0,0,[],[],[],[],[],0) ((0:Nat):Int) s=(0,0,[],[],[],[],[],0,0,s):=rfl
 rw [hst] at key
 rcases key with key | ⟨p,n,s',key,hn',hs',hr⟩
 . rw [key]; rfl
 . rw [key]
   unfold cD
   simp only [Option.bind_some]
   obtain ⟨y,hy,hr⟩:=ob hr
   obtain ⟨e,p1⟩:=y
   unfold jS at hy
   have q3:IntKind.wrap .i64 ((n:Int) + 1)=((n + 1:Nat):Int):=aY (n:=3000000) (by omega) (by omega)
   have hsp:=hY 32 s' (by omega)
   have hde:=qw (ai 32 s') (by have:=cJ 32 s'; omega)
   simp only [hsp,hde,Option.bind_some,q3]
   rw [show (cond (decide (((((ai 32 s').filter (fun w=>!decide (w=[]))).length:Nat):Int)=0)) (some true) ((ab ((ai 32 s').filter (fun w=>!decide (w=[]))) 0).bind fun x=>(dm x [35]).bind fun t=>some t))=some (bp (wds s')) from mf _]
   have fin:∀ p:PS,(((fv p.1 p.2.1 p.2.2.1 p.2.2.2.1 p.2.2.2.2.1 p.2.2.2.2.2.1 p.2.2.2.2.2.2.1 p.2.2.2.2.2.2.2).bind fun (t5069,l5070,l5071,l5072,l5073,l5074)=>cond (!t5069) (some ((0,0,[],[],[],[],[],0,14))) (some ((p.1,p.2.1,l5070,l5071,l5072,l5073,l5074,0,0)))):Option R38)=some (kA p):=by
     intro p
     unfold fv kA
     simp only [Option.bind_some]
     by_cases hc:p.2.2.2.2.2.2.2=3∨p.2.2.2.2.2.2.2=5∨p.2.2.2.2.2.2.2=7
     . rw [if_pos hc]
       have:(decide (p.2.2.2.2.2.2.2=3)||decide (p.2.2.2.2.2.2.2=5)||decide (p.2.2.2.2.2.2.2=7))=true:=by simp only [Bool.or_eq_true,decide_eq_true_eq]; omega
       rw [this]; rfl
     . rw [if_neg hc]
       have:(decide (p.2.2.2.2.2.2.2=3)||decide (p.2.2.2.2.2.2.2=5)||decide (p.2.2.2.2.2.2.2=7))=false:=by simp only [Bool.or_eq_false_iff,decide_eq_false_iff_not]; omega
       rw [this]; rfl
   cases hsk:bp (wds s') with
   | true =>
     rw [hsk,if_pos rfl] at hy
     injection hy with hy
     obtain ⟨rfl,rfl⟩:0=e∧p=p1:=⟨congrArg Prod.fst hy,congrArg Prod.snd hy⟩
     simp only [if_true] at hr
     simp only [Option.bind_some,cond_true]
     rw [← hr]
     exact fin p
   | false =>
     rw [hsk] at hy
     simp only [Bool.false_eq_true,if_false] at hy
     have hy':cU ((ai 32 s').filter (fun w=>!decide (w=[]))) p.1 p.2.1 p.2.2.1 p.2.2.2.1 p.2.2.2.2.1 p.2.2.2.2.2.1 p.2.2.2.2.2.2.1 p.2.2.2.2.2.2.2=some (e,p1):=hy
     simp only [Option.bind_some,cond_false,hy']
     by_cases h0:e=0
     . simp only [h0,if_true] at hr
       simp only [h0,decide_true,Bool.not_true,cond_false]
       rw [← hr]
       exact fin p1
     . simp only [h0,if_false] at hr
       simp only [h0,decide_false,Bool.not_false,cond_true]
       rw [← hr]; rfl
def rdL (w:Wd):List Int×Int:=if w=[45] then ([],0) else cw w 1048576
section
variable {w:Wd} {ws:List Wd} (hw:w.length≤1000000) (hl:ws.length≤4000000)
include hw hl
theorem take1:subL (w :: ws) 1 ((((w :: ws).length:Nat)):Int)=some ws:=by rw [m9 (by simp)]; rfl
theorem xV:aZ (w :: ws) 0=some ((an w 1048576).1,ws,(an w 1048576).2):=by
 unfold aZ iT kW
 have e:ab (w :: ws) 0=some w:=rfl
 simp only [decide_true,Bool.not_true,cond_false,e,Option.bind_some,fH w 1048576 hw (by omega) (by omega),take1 hw hl]
theorem kE:bL (w :: ws) 0=some ((pTy w).1,ws,(pTy w).2):=by
 unfold bL iU
 have e:ab (w :: ws) 0=some w:=rfl
 simp only [decide_true,Bool.not_true,cond_false,e,Option.bind_some,vy w hw,take1 hw hl]
theorem xu:cG (w :: ws) 0=some ((rdL w).1,ws,(rdL w).2):=by
 unfold cG iV kY
 have e:ab (w :: ws) 0=some w:=rfl
 have h1:(cond (decide (w=[45])) (some (([]:List Int),(0:Int))) ((gH w 1048576).bind fun (l23,i24)=>some (l23,i24)))=some (rdL w):=by
   unfold rdL
   by_cases h0:w=[45]
   . rw [if_pos h0,decide_eq_true h0]; rfl
   . rw [if_neg h0,decide_eq_false h0,cond_false,so w 1048576 hw (by omega) (by omega)]; rfl
 simp only [decide_true,Bool.not_true,cond_false,e,Option.bind_some,take1 hw hl]
 rw [h1]; rfl
theorem wD:iP (w :: ws) 0=some ((aG w 1048576).1,(aG w 1048576).2.1,ws,(aG w 1048576).2.2):=by
 unfold iP kX
 have e:ab (w :: ws) 0=some w:=rfl
 simp only [decide_true,Bool.not_true,cond_false,e,Option.bind_some,oa w 1048576 hw (by omega) (by omega),take1 hw hl]
end
theorem xX {α:Type} (x:α) (l:List α):decide ((0:Int) < (((x :: l).length:Nat):Int))=true:=by simp
structure WdOk (w:Wd):Prop where
 ne:w≠[]
 sp:(32:UInt8)∉w
 nl:(10:UInt8)∉w
theorem WdOk.pair {b:Int×Int} (h1:0≤b.1) (h2:0≤b.2):WdOk (pair b):=by
 unfold Go.Proofs.YtbheedkpbbmlcaaDoor.pair
 rw [if_neg (by omega)]
 refine ⟨by simp,?_,?_⟩ <;> (simp only [List.mem_append,List.mem_cons,not_or]; exact ⟨pX rfl,by decide,pX rfl⟩)
end
section
open Go.RowKit Nu
abbrev eC:Wd:=[114,101,103,105,111,110,115]
abbrev er:Wd:=[98,111,117,110,100,115]
abbrev eG:Wd:=[108,111,99,97,108]
abbrev ew:Wd:=[103,105,118,101,115]
abbrev bH:Wd:=[115,105,103]
abbrev ek:Wd:=[110,101,101,100,115]
abbrev eo:Wd:=[97,114,103]
abbrev bg:Wd:=[98,108,111,99,107]
def cz (a:Int):List Wd:=if a=0 then [eC] else if a=1 then [er] else if a=2 then [eG,ew] else if a=3 then [bH,bg] else if a=4 then [ek] else if a=5 then [eo,bH,bg]
 else if a=6 then [cq,cg,cu,ck,cj,ce,dG,kSw,dJ,dH] else if a=7 then [bg] else []
theorem dq (l : List Wd) (x : Wd) (hn : l.length ≤ 1000) : aX l x = some (decide (x ∈ l)) := by
 unfold aX kU
 rw [eN (body:=iY l x) l (fun w=>decide (x=w)) (fun k => .inr (k:Int)) (.inl ()) (fun k hk=>by
   unfold iY
   simp only [dlt hk,cond_true,aR hk,Option.bind_some,aY hk (by omega)]
   by_cases h:x=l[k] <;> simp [h]) (by unfold iY; simp only [dge (show ¬ l.length < l.length by omega),cond_false])]
 cases hf:l.findIdx? (fun w=>decide (x=w)) with
 | none =>
   have h:=List.findIdx?_eq_none_iff.1 hf
   have:¬ x∈l:=fun hx=>by have:=h x hx; simp at this
   rw [decide_eq_false this]; rfl
 | some k =>
   obtain ⟨hk,hp,_⟩:=List.findIdx?_eq_some_iff_getElem.1 hf
   have : x ∈ l := by have e : x = l[k] := by simpa using hp
                      rw [e]; exact List.getElem_mem hk
   rw [decide_eq_true this]
   have:decide ((0:Int)≤(k:Int))=true:=decide_eq_true (by omega)
   simp only [Option.bind_some,this]
theorem lY (w:Wd) (u n:Int) (B:List (Int×Int)) (L:List (List St)) (R:List St) (S:List aB) (X:List aA) (a:Int) :
   iW w u n B L R S X a=some (decide (w∈cz a),B,L,R,S,X):=by
 unfold iW cz
 simp only [dq _ w (show [eC].length≤1000 by decide),dq _ w (show [er].length≤1000 by decide),dq _ w (show [eG,ew].length≤1000 by decide),dq _ w (show [bH,bg].length≤1000 by decide),dq _ w (show [ek].length≤1000 by decide),dq _ w (show [eo,bH,bg].length≤1000 by decide),dq _ w (show [bg].length≤1000 by decide),dq _ w (show ([]:List Wd).length≤1000 by decide),Option.bind_some]
 by_cases h0:a=0
 . simp only [h0,decide_true,cond_true,if_true]
 rw [decide_eq_false h0,cond_false,if_neg h0]
 by_cases h1:a=1
 . simp only [h1,decide_true,cond_true,if_true]
 rw [decide_eq_false h1,cond_false,if_neg h1]
 by_cases h2:a=2
 . simp only [h2,decide_true,cond_true,if_true]
 rw [decide_eq_false h2,cond_false,if_neg h2]
 by_cases h3:a=3
 . simp only [h3,decide_true,cond_true,if_true]
 rw [decide_eq_false h3,cond_false,if_neg h3]
 by_cases h4:a=4
 . simp only [h4,decide_true,cond_true,if_true]
 rw [decide_eq_false h4,cond_false,if_neg h4]
 by_cases h5:a=5
 . simp only [h5,decide_true,cond_true,if_true]
 rw [decide_eq_false h5,cond_false,if_neg h5]
 by_cases h6:a=6
 . rw [decide_eq_true h6,cond_true,if_pos h6]
   have:=dq [cq,cg,cu,ck,cj,ce,dG,kSw,dJ,dH] w (by decide)
   rw [show aX [[110,111,112],[97,115,115,105,103,110],[98,111,114,114,111,119],[114,101,98,111,114,114,111,119],[117,115,101],[100,101,97,100],[103,111,116,111],[115,119,105,116,99,104],[114,101,116,117,114,110],[99,97,108,108]] w=_ from this]; rfl
 rw [decide_eq_false h6,cond_false,if_neg h6]
 by_cases h7:a=7
 . simp only [h7,decide_true,cond_true,if_true]
 rw [decide_eq_false h7,cond_false,if_neg h7]
section
variable {w:Wd} {ws:List Wd} {u n:Int} {B:List (Int×Int)} {L:List (List St)} {R:List St} {S:List aB} {X:List aA} {a bQ most:Int}
 (hm:aL w=some (bQ,most)) (hs:decide (w∈cz a)=true) (h1:bQ≤((w :: ws).length:Nat)) (h2:(((w :: ws).length:Nat):Int)≤most)
include hm hs h1 h2
theorem ef (ha:a≠6) {u' n':Int} {B':List (Int×Int)} {L':List (List St)} {R':List St} {S':List aB} {X':List aA} {a' e:Int} {q:List Wd}
   (h:cF w u n B L R S X a ws 0=some (u',n',B',L',R',S',X',a',q,e)):cR (w :: ws) (u,n,B,L,R,S,X,a)=some (e,u',n',B',L',R',S',X',a'):=by
 unfold cR cU
 have g0:ab (w :: ws) 0=some w:=rfl
 have d1:decide ((((w :: ws).length:Nat):Int) < bQ)=false:=decide_eq_false (by omega)
 have d2:decide (most < (((w :: ws).length:Nat):Int))=false:=decide_eq_false (by omega)
 have d3:subL (w :: ws) 1 ((((w :: ws).length:Nat)):Int)=some ws:=by rw [m9 (by simp)]; rfl
 simp only [g0,Option.bind_some,hm,lY,hs,d1,d2,Bool.not_true,Bool.or_self,cond_false,d3,decide_eq_false ha,h]
theorem mR (ha:a=6) {B':List (Int×Int)} {L':List (List St)} {R':List St} {S':List aB} {X':List aA} {a' e:Int} {q:List Wd}
   (h:eH (w :: ws) u n B L R S X a ws 0=some (B',L',R',S',X',a',q,e)):cR (w :: ws) (u,n,B,L,R,S,X,a)=some (e,u,n,B',L',R',S',X',a'):=by
 unfold cR cU
 have g0:ab (w :: ws) 0=some w:=rfl
 have d1:decide ((((w :: ws).length:Nat):Int) < bQ)=false:=decide_eq_false (by omega)
 have d2:decide (most < (((w :: ws).length:Nat):Int))=false:=decide_eq_false (by omega)
 have d3:subL (w :: ws) 1 ((((w :: ws).length:Nat)):Int)=some ws:=by rw [m9 (by simp)]; rfl
 simp only [g0,Option.bind_some,hm,lY,hs,d1,d2,Bool.not_true,Bool.or_self,cond_false,d3,decide_eq_true ha,cond_true,h]
end
theorem iv {α:Type} (X:List α) (x:α) (h:X.length≤1000000):IntKind.wrap .i64 (((((X++[x]).length:Nat)):Int) - 1)=((X.length:Nat):Int):=by
 rw [List.length_append,List.length_singleton,w64 (by omega) (by omega)]; omega
theorem ix {α:Type} (X:List α) (x:α):ab (X++[x]) ((X.length:Nat):Int)=some x:=by rw [aR (by simp)]; simp
theorem iu {α:Type} (X:List α) (x y:α):(X++[x]).set X.length y=X++[y]:=by rw [List.set_append_right _ _ (Nat.le_refl _)]; simp
theorem hI (i:Int):az i i=some ():=by unfold az; simp
theorem dk {α:Type} (x:α) (l:List α):ab (x :: l) 0=some x:=rfl
abbrev In (n:Int):Prop:=0≤n∧n≤1048576
section
variable {u n:Int} {B:List (Int×Int)} {L:List (List St)} {R:List St} {S:List aB} {X:List aA} {a:Int}
structure StOk (x:fi):Prop where
 kind:0≤x.1∧x.1≤5
 dst:In x.2.1
 src:In x.2.2.1
 reg:In x.2.2.2.1
 d0:x.1=0∨x.1=4→x.2.1=0
 s0:x.1=0∨x.1=5→x.2.2.1=0
 r0:x.1≠2→x.1≠3→x.2.2.2.1=0∧x.2.2.2.2=false
structure TmOk (x:eD):Prop where
 kind:1≤x.1∧x.1≤4
 sig:In x.2.1
 dst:In x.2.2.1
 tos:∀ n∈x.2.2.2.1,In n
 args:∀ n∈x.2.2.2.2.1,In n
 par:∀ n∈x.2.2.2.2.2,In n
 nto:x.2.2.2.1.length≤1000
 nargs:x.2.2.2.2.1.length≤1000
 npar:x.2.2.2.2.2.length≤1000
 c0:x.1≠4→x.2.1=0∧x.2.2.1=0∧x.2.2.2.2.2=[]
 t0:x.1=3→x.2.2.2.1=[]
 a0:x.1=1∨x.1=3→x.2.2.2.2.1=[]
end
end
section
open Go.RowKit Nu
abbrev ya:=Int×Int×List (Int×Int)×List (List St)×List St×List aB×List aA
structure SgOk (s:aB):Prop where
 par:In s.1
 bnd:∀ b∈s.2.1,In b.1∧In b.2
 nb:s.2.1.length≤1000
 args:∀ t∈s.2.2.1,(∀ x∈t,In x.1)∧t.length≤1000
 na:s.2.2.1.length≤900
 ret:(∀ x∈s.2.2.2,In x.1)∧s.2.2.2.length≤1000
structure BkOk (x:aA):Prop where
 st:∀ s∈x.1,StOk s
 ns:x.1.length≤900
 tm:TmOk x.2
structure BoOk (b:ya):Prop where
 uni:In b.1
 reg:In b.2.1
 bnd:∀ c∈b.2.2.1,In c.1∧In c.2
 nb:b.2.2.1.length≤1000
 loc:∀ t∈b.2.2.2.1,(∀ x∈t,In x.1)∧t.length≤1000
 nl:b.2.2.2.1.length≤900
 ret:(∀ x∈b.2.2.2.2.1,In x.1)∧b.2.2.2.2.1.length≤1000
 sig:∀ s∈b.2.2.2.2.2.1,SgOk s
 nsg:b.2.2.2.2.2.1.length≤900
 blk:∀ x∈b.2.2.2.2.2.2,BkOk x
 nx:b.2.2.2.2.2.2.length≤900
theorem w2 {a b:Wd} (ha:WdOk a) (hb:WdOk b):∀ q∈[a,b],WdOk q:=fun q hq=>by
 simp only [List.mem_cons,List.mem_nil_iff,or_false] at hq
 rcases hq with rfl | rfl
 . exact ha
 . exact hb
theorem w3 {a b c:Wd} (ha:WdOk a) (hb:WdOk b) (hc:WdOk c):∀ q∈[a,b,c],WdOk q:=fun q hq=>by
 simp only [List.mem_cons,List.mem_nil_iff,or_false] at hq
 rcases hq with rfl | rfl | rfl
 . exact ha
 . exact hb
 . exact hc
section
variable {u n:Int} {B:List (Int×Int)} {L:List (List St)} {R:List St} {S:List aB} {X:List aA} {a:Int}
theorem ox (k:Nat) (h:k≤900000):(1:Int)≤((k + 1:Nat):Int)∧((k + 1:Nat):Int)≤9223372036854775807:=by omega
end
end
section
open Go.RowKit Nu
theorem p6:∀ (l:List Wd) (acc:List St),(pgo l acc).1.length≤acc.length + l.length
 | [],acc=>by simp [pgo]
 | p :: l,acc=>by
   unfold pgo
   split
   . simp
   . have:=p6 l (acc++[(pSl p).1])
     rw [List.length_append,List.length_singleton] at this
     rw [List.length_cons]; omega
theorem pK (s:Wd):(pTy s).1.length≤s.length + 1:=by
 unfold pTy; split
 . simp
 . have:=p6 (ai 47 s) []; have:=cJ 47 s
   simp only [List.length_nil] at *; omega
end
end
end Go.Proofs.YtbheedkpbbmlcaaDoor
