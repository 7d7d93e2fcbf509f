/- A part of the proof: what lies ahead of the law. Nothing is claimed here. -/
import Derived.Test.YtbheedkpbbmlcaaGreatDoorZ3
import Derived.Shelf.Strings.Builder1
import Derived.Shelf.Strings.Builder2
import Derived.Shelf.Strings.OnBuilder
import Derived.Shelf.Small.Wraps
import Derived.Shelf.Strings.BuilderF
import Derived.Shelf.Strings.BuilderK
import Derived.Shelf.Utf8.RuneCount
import Derived.Shelf.Strings.Builder2Cap
import Derived.Shelf.Strings.Search1
import Derived.Shelf.Strings.Search2
import Derived.Shelf.Strings.Search3
import Derived.Shelf.Strings.Cut
import Derived.Shelf.Strings.Count
import Derived.Shelf.LaysM
import Derived.Shelf.Strings.Shaped
import Derived.Shelf.Strings.Prefix
import Derived.Shelf.Strings.Split
import Derived.Shelf.Strings.SplitShaped
import Derived.Shelf.Unicode.Decode
import Derived.Shelf.Strings.RuneCount
import Derived.Shelf.Strings.Explode
import Derived.Shelf.Unicode.DecodeSlow
import Derived.Shelf.Unicode.DecodeAny
import Derived.Shelf.Strings.BuilderCap
import Derived.Shelf.Slices.Turned
import Derived.Shelf.Slices.Equal
import Derived.Shelf.Slices.Empties2
import Derived.Test.YtbheedkpbbmlcaaGreatDoorProg
import Derived.Shelf.Vars
import Derived.Test.YtbheedkpbbmlcaaGreatDoorRows
import Derived.Lib.SplitLaws
import Derived.Lib.IndexMore
import Derived.Lib.Join
namespace Go.Proofs.YtbheedkpbbmlcaaGreatDoor
noncomputable section
set_option linter.unusedVariables false
set_option linter.unusedSimpArgs false
set_option linter.unnecessarySimpa false
set_option linter.unusedSectionVars false
open Go.RowKit
section
variable [BldA]
section
variable {R:Type} {P:Program} {E:En} {n:Nat} {m m':List M} {K K':Hp} {fr:Frz} {σ σ':Zt} {ρ ρ':Sl1} {w w':World}
theorem rh {c:Code} {f:Hn P→Zt→(R:Type)→(Exit→Hn P→Zt→Option R)→Option R} (hf:Fok P n c f) (hrd:ic E fr) {s:Sh} {act W:List Nat} {a b:Hn P} {k:Hn P→Zt→Option R} {r:R} {Q:Exit→Act→World→Prop} (h:g8 f s act W a b σ k=some r) (hr:Rel E fr σ m K ρ w)
   (hQ:∀ h' σ' m' K' ρ' w',Rel E fr σ' m' K' ρ' w'→Same σ σ'→k h' σ'=some r→Q .normal (Go.Proofs.YtbheedkpbbmlcaaGreatDoor.act1 n ρ') w'):c.wpIn (ay E.rd) 0 P Q (Go.Proofs.YtbheedkpbbmlcaaGreatDoor.act1 n ρ) w:=by
 unfold g8 at h
 obtain ⟨x,hx,h⟩:=ob h
 refine hf _ E ⟨m,K,ρ,fun _=>false,fr.F,fr.k0⟩ hrd a (σ.frz act) _ x m K ρ w Q hx (hr.frz act) (fun e h' σ' m' K' ρ' w' h1 h2 h3=>?_)
 cases e with
 | normal =>
   obtain ⟨h'',σ2,m2,K2,g1,g2,g3⟩:=aP h' h3 h1
   have hi:Inn σ fr ⟨m,K,ρ,fun _=>false,fr.F,fr.k0⟩ m K ρ (bQ σ.H act) σ2 W:=⟨rfl,rfl,rfl,rfl,rfl,(g2.2.trans h2.2),fC,fun _ _=>rfl⟩
   obtain ⟨σ3,m3,q1,q2,q3⟩:=lG hr hi g3 g1 h
   exact hQ b σ3 m3 K2 ρ' w' q3 q2 q1
 | _=>cases h3
theorem rG {c:Code} {f:Hn P→Zt→(R:Type)→(Exit→Hn P→Zt→Option R)→Option R} (hf:Fok P n c f) (hrd:ic E fr) {s:Sh} {act W:List Nat} {a b:Hn P} {k:Exit→Hn P→Zt→Option R} {r:R} {Q:Exit→Act→World→Prop} (h:gV f s act W a b σ k=some r) (hr:Rel E fr σ m K ρ w)
   (hQ:∀ e h' σ' m' K' ρ' w',Rel E fr σ' m' K' ρ' w'→Same σ σ'→k e h' σ'=some r→Q e (Go.Proofs.YtbheedkpbbmlcaaGreatDoor.act1 n ρ') w'):c.wpIn (ay E.rd) 0 P Q (Go.Proofs.YtbheedkpbbmlcaaGreatDoor.act1 n ρ) w:=by
 unfold gV at h
 obtain ⟨o,ho,h⟩:=ob h
 refine hf _ E ⟨m,K,ρ,fun _=>false,fr.F,fr.k0⟩ hrd a (σ.frz act) _ o m K ρ w Q ho (hr.frz act) (fun e h' σ' m' K' ρ' w' h1 h2 h3=>?_)
 have other:(k e h' (σ.thaw σ' (bQ σ.H act) [])).map Sum.inr=some o→Q e (Go.Proofs.YtbheedkpbbmlcaaGreatDoor.act1 n ρ') w':=fun h3=>by
   rw [Option.map_eq_some_iff] at h3
   obtain ⟨r',h4,rfl⟩:=h3
   cases h
   have hi:Inn σ fr ⟨m,K,ρ,fun _=>false,fr.F,fr.k0⟩ m K ρ (bQ σ.H act) σ' []:=⟨rfl,rfl,rfl,rfl,rfl,h2.2,fC,fun _ _=>rfl⟩
   obtain ⟨q1,q2⟩:=nT hr hi h1
   exact hQ e h' _ m' K' ρ' w' q2 q1 h4
 cases e with
 | normal =>
   obtain ⟨h'',σ2,m2,K2,g1,g2,g3⟩:=aP h' h3 h1
   rw [Option.map_eq_some_iff] at g1
   obtain ⟨x,g1,rfl⟩:=g1
   have hi:Inn σ fr ⟨m,K,ρ,fun _=>false,fr.F,fr.k0⟩ m K ρ (bQ σ.H act) σ2 W:=⟨rfl,rfl,rfl,rfl,rfl,(g2.2.trans h2.2),fC,fun _ _=>rfl⟩
   obtain ⟨σ3,m3,q1,q2,q3⟩:=lG hr hi g3 g1 h
   exact hQ .normal b σ3 m3 K2 ρ' w' q3 q2 q1
 | _=>exact other h3
theorem w8 {s:Sh} {W:List Nat} {rest:List HA} {x:TL s.ts} (hr:Rel E fr σ m K ρ w) {g:Gt} {f:Nat→SV} {H:List HA} {us:List ab}
   (hg:s.get f H=some g) (hx:TL.of s.ts g.ds=some x) (hok:∀ a∈H,HA.ok m' K' a) (hf:∀ i,SV.rel m' K' (f i) (ρ' i)) (hmm:m <+: m') (hKK:K.le K') (hrest:∀ a∈rest,a∈σ.H) (hs:Sep E K' (H.map (HA.conc m')++(us++(rest.map (HA.conc m)++σ.fz fr))) w')
   (hds:MOk fr.k0 K' ρ'.ds) (hold:∀ i,i∉W→ρ' i=ρ i) {vs:List (Nat×SV)} {u:Un} (hu:s.un (TL.list s.ts x) σ.nx=some (vs,u)) :
   ∃ m'',Rel E ⟨m,K,ρ,fun i=>W.contains i,fr.F,fr.k0⟩ ⟨fun i=>bif W.contains i then .any else σ.get i,bp (bK σ) vs,u.H.map (HA.sub (bK σ)),rest++σ.Hf,u.nx,false⟩ m'' K' ρ' w':=by
 rw [TL.of_list hx] at hu
 have hoo:bE s.bl m.length=true:=by
   unfold Sh.un at hu
   rw [hr.nx]
   cases ho:bE s.bl σ.nx with
   | true=>rfl
   | false=>rw [ho] at hu; cases hu
 obtain ⟨vs',u',ms,e1,e2,e3,e4,e5,e6,e7,e8⟩:=Sh.get_un hg hok hmm hoo
 rw [hr.nx,hu] at e1
 cases e1
 have hp':=au m ms
 refine ⟨m++ms,Rel.subs (σ:=⟨fun i=>bif W.contains i then .any else σ.get i,vs,u.H,rest++σ.Hf,u.nx,false⟩) (kJ hr.toPur (m':=m++ms) (fun _ _ k=>aj hp' k) hKK) ⟨⟨au m ms,hKK,e2,fun e=>(by cases e),fun i=>?_,fun i hi=>?_,fun i hi=>?_,fun i sv hi=>kV e3 hi _ (hf i),e4,fun a ha=>?_,hds⟩,?_⟩⟩
 . show SV.rel m K (bif W.contains i then .any else σ.get i) (ρ i)
   cases W.contains i with
   | true=>exact trivial
   | false=>exact hr.toPur.get i
 . show (bif W.contains i then SV.any else σ.get i) = .any
   have hi:W.contains i=true:=hi
   rw [hi]; rfl
 . by_cases hW:i∈W
   . exact .inl (by simpa using hW)
   . exact .inr (hold i hW)
 . refine hr.toPur.all a ?_
   rcases List.mem_append.1 ha with ha | ha
   . exact List.mem_append_left _ (hrest a ha)
   . exact List.mem_append_right _ ha
 . have s1:=e6 E _ w' hs
   have s2:Sep E K' ((g.H.map (HA.conc m')++us)++(u.H.map (HA.conc (m++ms))++(rest.map (HA.conc m)++σ.fz fr))) w':=Sep.perm (by
     rw [List.append_assoc]
     refine (gW _ _ _).trans (List.Perm.append_left _ (gW _ _ _)) ) s1
   show Sep E K' (u.H.map (HA.conc (m++ms))++((rest++σ.Hf).map (HA.conc m)++fr.F)) w'
   rw [List.map_append,hr.toPur.fz',List.append_assoc]
   exact Sep.drops s2
theorem qF {s:Sh} {ds:List Dat} {nx:Nat} {o:List (Nat×SV)×Un} (h:s.un ds nx=some o):bE s.bl nx=true:=by
 unfold Sh.un at h
 cases ho:bE s.bl nx with
 | true=>rfl
 | false=>rw [ho] at h; cases h
theorem we {c:Code} {f:Hn P→Zt→(R:Type)→(Exit→Hn P→Zt→Option R)→Option R} (hf:Fok P n c f) (hrd:ic E fr) {s:Sh} {W:List Nat} {a:Hn P} {k:Exit→Hn P→Zt→Option R} {r:R} {Q:Exit→Act→World→Prop} (h:lJ f s W a σ k=some r) (hr:Rel E fr σ m K ρ w)
   (hQ:∀ e h' σ' m' K' ρ' w',Rel E fr σ' m' K' ρ' w'→Same σ σ'→k e h' σ'=some r→Q e (Go.Proofs.YtbheedkpbbmlcaaGreatDoor.act1 n ρ') w'):(Code.loop c).wpIn (ay E.rd) 0 P Q (Go.Proofs.YtbheedkpbbmlcaaGreatDoor.act1 n ρ) w:=by
 unfold lJ at h
 split at h
 . rename_i g hg
   split at h
   . rename_i x0 hx0
     obtain ⟨N,hN⟩:=kI h
     refine wpIn_loop_rounds N ?_
     -- a round's head
     have round:∀ (N:Nat) (x:TL s.ts) (m1:List M) (K1:Hp) (ρ1:Sl1) (w1:World) (vs:List (Nat×SV)) (u:Un),ci (jg f s W g a σ k) N x=some r→s.un (TL.list s.ts x) σ.nx=some (vs,u) →
         Rel E ⟨m,K,ρ,fun i=>W.contains i,fr.F,fr.k0⟩ ⟨fun i=>bif W.contains i then .any else σ.get i,bp (bK σ) vs,u.H.map (HA.sub (bK σ)),g.H++σ.Hf,u.nx,false⟩ m1 K1 ρ1 w1→Code.roundsIn (ay E.rd) 0 P c Q N (Go.Proofs.YtbheedkpbbmlcaaGreatDoor.act1 n ρ1) w1:=by
       intro N
       induction N with
       | zero=>intro x m1 K1 ρ1 w1 vs u hi; cases hi
       | succ N ih =>
         intro x m1 K1 ρ1 w1 vs u hi hu hrel
         unfold ci at hi
         obtain ⟨o,ho,hi⟩:=ob hi
         rw [roundsIn_succ]
         unfold jg at ho
         rw [hu] at ho
         simp only at ho
         have hgsub:∀ a∈g.H,a∈σ.H:=by
           obtain ⟨_,_,_,_,_,_,_,e5,_⟩:=Sh.get_un (m:=m) (K:=K) hg hr.okH (List.prefix_refl m) (by rw [hr.nx]; exact qF hu)
           exact e5
         refine hf _ E ⟨m,K,ρ,fun i=>W.contains i,fr.F,fr.k0⟩ hrd a _ _ o m1 K1 ρ1 w1 _ ho hrel (fun e h' σ' m' K' ρ' w' h1 h2 h3=>?_)
         have other:e ≠ .normal→(k e h' (σ.thaw σ' g.H W)).map Sum.inr=some o→Q e (Go.Proofs.YtbheedkpbbmlcaaGreatDoor.act1 n ρ') w':=fun _ h3=>by
           rw [Option.map_eq_some_iff] at h3
           obtain ⟨r',h4,rfl⟩:=h3
           cases hi
           have hii:Inn σ fr ⟨m,K,ρ,fun i=>W.contains i,fr.F,fr.k0⟩ m K ρ g.H σ' W:=⟨rfl,rfl,rfl,rfl,rfl,h2.2,hgsub,fun i hi=>by simpa using hi⟩
           obtain ⟨q1,q2⟩:=nT hr hii h1
           exact hQ e h' _ m' K' ρ' w' q2 q1 h4
         cases e with
         | normal =>
           obtain ⟨h'',σ2,m2,K2,g1,g2,g3⟩:=aP h' h3 h1
           rw [Option.map_eq_some_iff] at g1
           obtain ⟨x',g1,rfl⟩:=g1
           have hsame:=h2.trans g2
           unfold Zt.pack at g1
           replace g1:=ah g1; obtain ⟨hk,g1⟩:=g1
           split at g1
           . rename_i g' hg'
             cases hu':s.un (TL.list s.ts x') σ.nx with
             | none =>
               -- the next round would not run
               cases N with
               | zero=>cases hi
               | succ N =>
                 unfold ci at hi
                 obtain ⟨o2,ho2,_⟩:=ob hi
                 unfold jg at ho2
                 rw [hu'] at ho2
                 cases ho2
             | some q =>
               obtain ⟨vs',u'⟩:=q
               have hii:Inn σ fr ⟨m,K,ρ,fun i=>W.contains i,fr.F,fr.k0⟩ m K ρ g.H σ2 W:=⟨rfl,rfl,rfl,rfl,rfl,hsame.2,hgsub,fun i hi=>by simpa using hi⟩
               obtain ⟨m'',hrel'⟩:=w8 (W:=W) (rest:=g.H) (us:=[]) hr hg' g1 g3.okH g3.toPur.get g3.hm g3.hK hgsub (by rw [List.nil_append]; exact hii.sep hr g3) g3.mks (fun i hi=>by
                 have:=g3.old i (kB hk hi)
                 rcases this with h4 | h4
                 . exact absurd (by simpa using h4) hi
                 . exact h4) hu'
               exact ih x' m'' K2 ρ' w' vs' u' hi hu' hrel'
           . cases g1
         | exit i=>exact other nofun h3
         | goto l=>exact other nofun h3
         | ret=>exact other nofun h3
         | panic c=>exact other nofun h3
         | outgrown=>exact other nofun h3
     cases hu:s.un (TL.list s.ts x0) σ.nx with
     | none =>
       cases N with
       | zero=>cases hN
       | succ N =>
         unfold ci at hN
         obtain ⟨o2,ho2,_⟩:=ob hN
         unfold jg at ho2
         rw [hu] at ho2
         cases ho2
     | some q =>
       obtain ⟨vs,u⟩:=q
       have hu2:=hu
       rw [TL.of_list hx0] at hu2
       obtain ⟨vs',u',ms,e1,e2,e3,e4,e5,e6,e7,e8⟩:=Sh.get_un (m:=m) (K:=K) hg hr.okH (List.prefix_refl m) (by rw [hr.nx]; exact qF hu2)
       rw [hr.nx,hu2] at e1
       cases e1
       have hp':=au m ms
       refine round N x0 (m++ms) K ρ w vs u hN hu (Rel.subs (σ:=⟨fun i=>bif W.contains i then .any else σ.get i,vs,u.H,g.H++σ.Hf,u.nx,false⟩) (kJ hr.toPur (m':=m++ms) (fun _ _ k=>aj hp' k) (Hp.le_refl K)) ⟨⟨au m ms,Hp.le_refl K,e2,fun e=>(by cases e),fun i=>?_,fun i hi=>?_,fun i hi => .inr rfl,fun i sv hi=>kV e3 hi _ (hr.toPur.get i),e4,fun a ha=>?_,hr.mks⟩,?_⟩)
       . show SV.rel m K (bif W.contains i then .any else σ.get i) (ρ i)
         cases W.contains i with
         | true=>exact trivial
         | false=>exact hr.toPur.get i
       . show (bif W.contains i then SV.any else σ.get i) = .any
         have hi:W.contains i=true:=hi
         rw [hi]; rfl
       . refine hr.toPur.all a ?_
         rcases List.mem_append.1 ha with ha | ha
         . exact List.mem_append_left _ (e5 a ha)
         . exact List.mem_append_right _ ha
       . have s1:=e6 E _ w hr.toSep
         show Sep E K (u.H.map (HA.conc (m++ms))++((g.H++σ.Hf).map (HA.conc m)++fr.F)) w
         rw [List.map_append,hr.toPur.fz',List.append_assoc]
         exact s1
   . cases h
 . cases h
theorem qB {c:Code} {f:Hn P→Zt→(R:Type)→(Exit→Hn P→Zt→Option R)→Option R} (hf:Fok P n c f) (hrd:ic E fr) {k:Exit→Hn P→Zt→Option R} {r:R} {Q:Exit→Act→World→Prop}
   (hQ:∀ e h' σ' m' K' ρ' w',Rel E fr σ' m' K' ρ' w'→Same σ σ'→k e h' σ'=some r→Q e (Go.Proofs.YtbheedkpbbmlcaaGreatDoor.act1 n ρ') w'):∀ (N:Nat) {h:Hn P} {σ1:Zt} {m:List M} {K:Hp} {ρ:Sl1} {w:World},jj (fun h σ k=>f h σ _ k) k N h σ1=some r→Rel E fr σ1 m K ρ w→Same σ σ1→Code.roundsIn (ay E.rd) 0 P c Q N (Go.Proofs.YtbheedkpbbmlcaaGreatDoor.act1 n ρ) w
 | 0,h,σ1,m,K,ρ,w,hh,hr,hs=>by cases hh
 | N + 1,h,σ1,m,K,ρ,w,hh,hr,hs=>by
   rw [roundsIn_succ]
   unfold jj at hh
   refine hf _ E fr hrd h σ1 _ r m K ρ w _ hh hr (fun e h' σ' m' K' ρ' w' h1 h2 h3=>?_)
   cases e with
   | normal=>exact qB hf hrd hQ N h3 h1 (hs.trans h2)
   | exit i=>exact hQ _ h' σ' m' K' ρ' w' h1 (hs.trans h2) h3
   | goto i=>exact hQ _ h' σ' m' K' ρ' w' h1 (hs.trans h2) h3
   | ret=>exact hQ _ h' σ' m' K' ρ' w' h1 (hs.trans h2) h3
   | panic i=>exact hQ _ h' σ' m' K' ρ' w' h1 (hs.trans h2) h3
   | outgrown=>exact hQ _ h' σ' m' K' ρ' w' h1 (hs.trans h2) h3
theorem qw {y:Code} {k:Exit→Hn P→Zt→Option R} {f:Hn P→Zt→Option R} {r:R} {Q:Exit→Act→World→Prop} {σ0:Zt} (hf:∀ h' σ' m' K' ρ' w',Rel E fr σ' m' K' ρ' w'→Same σ0 σ'→f h' σ'=some r→y.wpIn (ay E.rd) 0 P Q (Go.Proofs.YtbheedkpbbmlcaaGreatDoor.act1 n ρ') w')
   (hQ:∀ e h' σ' m' K' ρ' w',Rel E fr σ' m' K' ρ' w'→Same σ0 σ'→k e h' σ'=some r→Q e (Go.Proofs.YtbheedkpbbmlcaaGreatDoor.act1 n ρ') w'):∀ e h' σ' m' K' ρ' w',Rel E fr σ' m' K' ρ' w'→Same σ0 σ'→gR k f e h' σ'=some r→Exit.then (y.wpIn (ay E.rd) 0 P Q) Q e (Go.Proofs.YtbheedkpbbmlcaaGreatDoor.act1 n ρ') w':=by
 intro e h' σ' m' K' ρ' w' h1 h2 h3
 cases e with
 | normal=>exact hf h' σ' m' K' ρ' w' h1 h2 h3
 | exit i=>exact hQ _ h' σ' m' K' ρ' w' h1 h2 h3
 | goto i=>exact hQ _ h' σ' m' K' ρ' w' h1 h2 h3
 | ret=>exact hQ _ h' σ' m' K' ρ' w' h1 h2 h3
 | panic i=>exact hQ _ h' σ' m' K' ρ' w' h1 h2 h3
 | outgrown=>exact hQ _ h' σ' m' K' ρ' w' h1 h2 h3
theorem cz {J:Rn P} (hJ:JOk J):∀ (c:Code),Fok P n c (fun h σ R k=>exec J n c h σ k)
 | .skip=>fun R E fr hrd h σ k r m K ρ w Q hh hr hQ=>wpIn_skip (hQ _ h σ m K ρ w hr Same.rfl' hh)
 | .ret=>fun R E fr hrd h σ k r m K ρ w Q hh hr hQ=>wpIn_ret (hQ _ h σ m K ρ w hr Same.rfl' hh)
 | .exit id=>fun R E fr hrd h σ k r m K ρ w Q hh hr hQ=>wpIn_exit (hQ _ h σ m K ρ w hr Same.rfl' hh)
 | .label l=>fun R E fr hrd h σ k r m K ρ w Q hh hr hQ=>wpIn_label (hQ _ h σ m K ρ w hr Same.rfl' hh)
 | .scope b=>fun R E fr hrd h σ k r m K ρ w Q hh hr hQ=>by
   refine uf (cz hJ b R E fr hrd h σ _ r m K ρ w _ (show exec J n b h σ (r4 k)=some r from hh) hr (fun e h' σ' m' K' ρ' w' h1 h2 h3=>?_))
   cases e with
   | goto l=>cases h3
   | normal=>exact hQ _ h' σ' m' K' ρ' w' h1 h2 h3
   | exit i=>exact hQ _ h' σ' m' K' ρ' w' h1 h2 h3
   | ret=>exact hQ _ h' σ' m' K' ρ' w' h1 h2 h3
   | panic i=>exact hQ _ h' σ' m' K' ρ' w' h1 h2 h3
   | outgrown=>exact hQ _ h' σ' m' K' ρ' w' h1 h2 h3
 | .region id ops draw=>fun R E fr hrd h σ k r m K ρ w Q hh hr hQ=>by
   change (bif !ops.toList.all bZ then none else bif draw then aw h σ fun h σ=>ip n ops.toList h σ fun h σ=>(match h with | .mix plan fin tail act r=>pe n ops plan fin tail act r σ (k .normal) | .tr t s act a b=>trS n ops t s act a b σ (k .normal) | _=>none) else aw h σ fun h σ=>pq J n ops h σ (k .normal))=some r at hh
   replace hh:=dI hh; obtain ⟨hn,hh⟩:=hh
   have hn:ops.toList.all bZ=true:=by simpa using hn
   cases draw with
   | false =>
     simp only [cond_false] at hh
     obtain ⟨h1,σ1,m1,K1,hh,g1,hr⟩:=aP h hh hr
     replace hQ:∀ e h' σ' m' K' ρ' w',Rel E fr σ' m' K' ρ' w'→Same σ1 σ'→k e h' σ'=some r→Q e (act1 n ρ') w':=fun e h' σ' m' K' ρ' w' q1 q2 q3=>hQ e h' σ' m' K' ρ' w' q1 (g1.trans q2) q3
     clear g1
     unfold pq at hh
     split at hh
     . rename_i q h2
       have key:wpListIn (ay E.rd) 0 P ops Q (ops.toList.take q++ops.toList.drop q) (act1 n ρ) w:=by
         have hn1:(ops.toList.take q).all bZ=true:=List.all_eq_true.2 (fun x hx=>List.all_eq_true.1 hn x (List.mem_of_mem_take hx))
         have hn2:(ops.toList.drop q).all bZ=true:=List.all_eq_true.2 (fun x hx=>List.all_eq_true.1 hn x (List.mem_of_mem_drop hx))
         refine mT hn1 ?_
         have:=gJ (ops:=ops) (Q:=fun e a w=>e = .normal∧wpListIn (ay E.rd) 0 P ops Q (ops.toList.drop q) a w) (ops.toList.take q) 0 hh hr (fun h' σ' m' K' ρ' w' h1 h2 h3=>?_)
         . simpa using this
         . refine ⟨rfl,?_⟩
           split at h3
           . rename_i o rest hd
             rw [hd] at hn2 ⊢
             simp only [List.all_cons,Bool.and_eq_true] at hn2
             obtain ⟨dst,op,t,pos,af,gu⟩:=o
             obtain ⟨h4,σ4,s4,hr4,hg⟩:=gO h3 h1
             rcases hg with ⟨hw,hg⟩ | ⟨hw,hg⟩
             . refine yE hJ hg hr4 hw (fun h'' σ'' m'' K'' ρ'' w'' g1 g2 g3=>?_)
               have:=gJ (ops:=ops) (Q:=Q) rest 0 g3 g1 (fun h3 σ3 m3 K3 ρ3 w3 b1 b2 b3=>hQ _ h3 σ3 m3 K3 ρ3 w3 b1 (((h2.trans s4).trans g2).trans b2) b3)
               exact fy hn2.2 (by simpa using this)
             . unfold wpListIn
               rw [if_neg (by rw [hw]; exact Bool.false_ne_true)]
               refine ⟨fun _ _=>trivial,?_⟩
               cases dst with
               | none =>
                 have:=gJ (ops:=ops) (Q:=Q) rest 0 hg hr4 (fun h3 σ3 m3 K3 ρ3 w3 b1 b2 b3=>hQ _ h3 σ3 m3 K3 ρ3 w3 b1 ((h2.trans s4).trans b2) b3)
                 exact fy hn2.2 (by rw [List.drop_zero] at this; exact this)
               | some d =>
                 show wpListIn _ _ _ _ _ _ ((act1 n ρ').put (some d) undef) _
                 rw [bV]
                 have:=gJ (ops:=ops) (Q:=Q) rest 0 hg (hr4.set (d:=d) (sv := .raw undef) (v:=undef) rfl) (fun h3 σ3 m3 K3 ρ3 w3 b1 b2 b3=>hQ _ h3 σ3 m3 K3 ρ3 w3 b1 (((h2.trans s4).trans ⟨rfl,rfl⟩).trans b2) b3)
                 exact fy hn2.2 (by simpa using this)
           . cases h3
       rw [List.take_append_drop] at key
       have:=wpIn_region_lit (id:=id) (l:=ops.toList) (by simpa using key)
       simpa using this
     . have:=wpIn_region_lit (id:=id) (fy (r:=E.rd) (n:=0) hn (gJ (Q:=Q) (ops:=ops.toList.toArray) ops.toList 0 (by simpa using hh) hr (fun h' σ' m' K' ρ' w' h1 h2 h3=>hQ _ h' σ' m' K' ρ' w' h1 h2 h3)))
       simpa using this
   | true =>
     simp only [cond_true] at hh
     obtain ⟨h1,σ1,m1,K1,hh,g1,hr⟩:=aP h hh hr
     obtain ⟨h2,σ2,m2,hh,g2,hr⟩:=sw h1 hh hr
     replace hQ:∀ e h' σ' m' K' ρ' w',Rel E fr σ' m' K' ρ' w'→Same σ2 σ'→k e h' σ'=some r→Q e (act1 n ρ') w':=fun e h' σ' m' K' ρ' w' q1 q2 q3=>hQ e h' σ' m' K' ρ' w' q1 ((g1.trans g2).trans q2) q3
     clear g1 g2
     generalize K1=K at hr
     generalize m2=m at hr
     generalize σ2=σ at hr hh hQ
     split at hh
     . rename_i plan fin tail act' h0
       unfold pe at hh
       replace hh:=bX hh; obtain ⟨hm,hB,hh⟩:=hh
       have hB':jM .any ops.toList.toArray plan fin tail=true:=by simpa using hB
       have hfr:=(hr.frz act').drew
       have hplan:∀ s i,(s,i)∈plan→i < ops.toList.length:=by
         intro s i hi
         have h0:=hB
         unfold jM at h0
         simp only [Bool.and_eq_true] at h0
         obtain ⟨_,h1⟩:=h0
         split at h1
         . rename_i l1 hl1
           simpa using p9 plan _ _ hl1 s i hi
         . cases h1
       have key:=lf (l:=ops.toList) (Q:=Q) plan hh hfr rfl hplan (fun h' σ' m' K' ρ' w' h1 h2 h3=>by
         have hi:Inn σ fr ⟨m,K,ρ,fun _=>false,fr.F,fr.k0⟩ m K ρ (bQ σ.H act') σ' []:=⟨rfl,rfl,rfl,rfl,rfl,h2.2,fC,fun _ _=>rfl⟩
         obtain ⟨z1,z2⟩:=nT hr hi h1
         have:=gJ (ops:=ops.toList.toArray) (Q:=Q) (bg ops.toList tail) 0 (by simpa using h3) z2 (fun h'' σ'' m'' K'' ρ'' w'' b1 b2 b3=>hQ .normal h'' σ'' m'' K'' ρ'' w'' b1 (z1.trans b2) b3)
         rwa [List.drop_zero] at this)
       have:=uz (id:=id) (Q:=Q) plan fin tail hm hB' _ hfr.cfz rfl rfl rfl key hn (r:=E.rd) (n:=0)
       simpa using this
     . rename_i t s act' a b
       unfold trS at hh
       replace hh:=bX hh; obtain ⟨hm,hB,hh⟩:=hh
       obtain ⟨x,hx,hh⟩:=ob hh
       have hfr:=(hr.frz act').drew
       have key:=li (l:=ops.toList) (F:=fun a' w'=>ak P ops.toList.toArray Q (bg ops.toList []) a' w') t hx hfr rfl (fun h' σ' m' K' ρ' w' h1 h2 h3=>by
         obtain ⟨h'',σ2,m2,K2,g1,g2,g3⟩:=aP h' h3 h1
         have hi:Inn σ fr ⟨m,K,ρ,fun _=>false,fr.F,fr.k0⟩ m K ρ (bQ σ.H act') σ2 (s.sl.map (·.1)++aq ops.toList):=⟨rfl,rfl,rfl,rfl,rfl,(g2.2.trans h2.2),fC,fun _ _=>rfl⟩
         obtain ⟨σ3,m3,q1,q2,q3⟩:=lG hr hi g3 g1 hh
         exact hQ .normal b σ3 m3 K2 ρ' w' q3 q2 q1)
       have:=uv (id:=id) (Q:=Q) t [] hm hB _ hfr.cfz rfl key hn (r:=E.rd) (n:=0)
       simpa using this
     . cases hh
 | .seq a b=>fun R E fr hrd h σ k r m K ρ w Q hh hr hQ=>by
   have plain:∀ h0,exec J n a h0 σ (gR k (fun h σ=>exec J n b h σ k))=some r→(Code.seq a b).wpIn (ay E.rd) 0 P Q (act1 n ρ) w:=fun h0 hh =>
     wpIn_seq (cz hJ a R E fr hrd h0 σ _ r m K ρ w _ hh hr (qw (σ0:=σ) (fun h' σ' m' K' ρ' w' h1 h2 h3=>cz hJ b R E fr hrd h' σ' k r m' K' ρ' w' Q h3 h1 (fun e h'' σ'' m'' K'' ρ'' w'' q1 q2 q3=>hQ e h'' σ'' m'' K'' ρ'' w'' q1 (h2.trans q2) q3)) hQ))
   cases h with
   | sq mk s act ha hb =>
     have hh:(match Zt.mcs mk σ with | some σ=>g8 (fun h σ R k=>exec J n a h σ k) s act (s.sl.map (·.1)++bY a) ha hb σ (fun h σ=>exec J n b h σ k) | none=>none)=some r:=hh
     split at hh
     . rename_i σ1 hm
       obtain ⟨m1,k1,k2⟩:=jq hm hr
       refine wpIn_seq (rh (cz hJ a) hrd hh k2 (fun h' σ' m' K' ρ' w' h1 h2 h3=>?_))
       exact cz hJ b R E fr hrd h' σ' k r m' K' ρ' w' Q h3 h1 (fun e h'' σ'' m'' K'' ρ'' w'' q1 q2 q3=>hQ e h'' σ'' m'' K'' ρ'' w'' q1 ((k1.trans h2).trans q2) q3)
     . cases hh
   | sx mk s act ha hb =>
     have hh:(match Zt.mcs mk σ with | some σ=>gV (fun h σ R k=>exec J n a h σ k) s act (s.sl.map (·.1)++bY a) ha hb σ (gR k (fun h σ=>exec J n b h σ k)) | none=>none)=some r:=hh
     split at hh
     . rename_i σ1 hm
       obtain ⟨m1,k1,k2⟩:=jq hm hr
       refine wpIn_seq (rG (cz hJ a) hrd hh k2 ?_)
       exact qw (σ0:=σ1) (fun h' σ' m' K' ρ' w' h1 h2 h3=>cz hJ b R E fr hrd h' σ' k r m' K' ρ' w' Q h3 h1 (fun e h'' σ'' m'' K'' ρ'' w'' q1 q2 q3=>hQ e h'' σ'' m'' K'' ρ'' w'' q1 ((k1.trans h2).trans q2) q3)) (fun e h' σ' m' K' ρ' w' q1 q2 q3=>hQ e h' σ' m' K' ρ' w' q1 (k1.trans q2) q3)
     . cases hh
   | pl h=>exact plain h hh
   | nil=>exact plain _ hh
   | two _ _ _=>exact plain _ hh
   | tw _ _ _=>exact plain _ hh
   | jn _ _ _ _ _=>exact plain _ hh
   | jx _ _ _ _ _=>exact plain _ hh
   | lp _ _=>exact plain _ hh
   | un _ _=>exact plain _ hh
   | per _ _ _=>exact plain _ hh
   | perb _ _ _ _=>exact plain _ hh
   | mc _ _ _ _=>exact plain _ hh
   | ms _ _=>exact plain _ hh
   | wt _ _=>exact plain _ hh
   | cl _ _ _=>exact plain _ hh
   | c2 _ _ _ _=>exact plain _ hh
   | gp _ _=>exact plain _ hh
   | gj _ _ _ _ _=>exact plain _ hh
   | mix _ _ _ _ _=>exact plain _ hh
   | opn _ _ _=>exact plain _ hh
   | opb _ _ _=>exact plain _ hh
   | cls _ _ _=>exact plain _ hh
   | opp _ _ _ _=>exact plain _ hh
   | ot _ _=>exact plain _ hh
   | cm _ _ _ _=>exact plain _ hh
   | cm2 _ _ _ _ _=>exact plain _ hh
   | tr _ _ _ _ _=>exact plain _ hh
   | tru _=>exact plain _ hh
   | yl _ _=>exact plain _ hh
   | rg _ _=>exact plain _ hh
 | .cond c x y=>fun R E fr hrd h σ k r m K ρ w Q hh hr hQ=>by
   obtain ⟨h1,σ1,m1,K1,g1,g2,g3⟩:=aP h (show aw h σ (fun h σ=>oL c (σ.evr n c) h σ (fun h σ=>exec J n x h σ k) (fun h σ=>exec J n y h σ k))=some r from hh) hr
   have hv:=g3.toPur.evr n c
   have goX:∀ h2 σ2,Rel E fr σ2 m1 K1 ρ w→Same σ σ2→exec J n x h2 σ2 k=some r→x.wpIn (ay E.rd) 0 P Q (act1 n ρ) w:=fun h2 σ2 q1 q2 q3 =>
     cz hJ x R E fr hrd h2 σ2 k r m1 K1 ρ w Q q3 q1 (fun e h'' σ'' m'' K'' ρ'' w'' p1 p2 p3=>hQ e h'' σ'' m'' K'' ρ'' w'' p1 (q2.trans p2) p3)
   have goY:∀ h2 σ2,Rel E fr σ2 m1 K1 ρ w→Same σ σ2→exec J n y h2 σ2 k=some r→y.wpIn (ay E.rd) 0 P Q (act1 n ρ) w:=fun h2 σ2 q1 q2 q3 =>
     cz hJ y R E fr hrd h2 σ2 k r m1 K1 ρ w Q q3 q1 (fun e h'' σ'' m'' K'' ρ'' w'' p1 p2 p3=>hQ e h'' σ'' m'' K'' ρ'' w'' p1 (q2.trans p2) p3)
   have slot:∀ (d:Nat) (sv:SV),c = .tmp d→σ1.evr n c=sv→sv ≠ .any→σ1.get d=sv:=fun d sv hc he hne=>by
     subst hc
     cases hh:Nat.blt d n with
     | false =>
       have:σ1.evr n (.tmp d) = .any:=by show (bif Nat.blt d n then σ1.get d else .any)=_; rw [hh]; rfl
       rw [this] at he; exact absurd he.symm hne
     | true =>
       have:σ1.evr n (.tmp d)=σ1.get d:=by show (bif Nat.blt d n then σ1.get d else .any)=_; rw [hh]; rfl
       rw [← this]; exact he
   unfold oL at g1
   split at g1
   . rename_i jm w0 e
     rw [e] at hv
     obtain ⟨hj,hv⟩:=hv
     split at g1
     . rename_i t
       have hb:ev n ρ c = .bool t:=hv
       rw [hb] at hj
       refine wpIn_cond_split (t:=t) (by rw [cb]; exact hb) (fun ht=>?_) (fun ht=>?_)
       . subst ht
         split at g1
         . exact goX _ _ (g3.fix (v := .bool true) hj rfl) (g2.trans ⟨rfl,rfl⟩) g1
         . exact goX _ σ1 g3 g2 g1
         . exact goX _ σ1 g3 g2 g1
       . subst ht
         split at g1
         . exact goY _ _ (g3.fix (v := .bool false) hj rfl) (g2.trans ⟨rfl,rfl⟩) g1
         . exact goY _ σ1 g3 g2 g1
         . exact goY _ σ1 g3 g2 g1
     . cases g1
   . rename_i t e
     rw [e] at hv
     have hb:ev n ρ c = .bool t:=hv
     refine wpIn_cond_split (t:=t) (by rw [cb]; exact hb) (fun ht=>?_) (fun ht=>?_)
     . subst ht
       split at g1
       . rename_i ha hbn d _
         have hg:=slot d _ rfl e nofun
         exact goX ha _ (g3.ref (fun _ _ u hu=>by rw [hg] at hu; exact hu) (by rw [hg]; nofun)) (g2.trans ⟨rfl,fS.2⟩) g1
       . exact goX _ σ1 g3 g2 g1
       . exact goX _ σ1 g3 g2 g1
     . subst ht
       split at g1
       . rename_i ha hbn d _
         have hg:=slot d _ rfl e nofun
         exact goY hbn _ (g3.ref (fun _ _ u hu=>by rw [hg] at hu; exact hu) (by rw [hg]; nofun)) (g2.trans ⟨rfl,fS.2⟩) g1
       . exact goY _ σ1 g3 g2 g1
       . exact goY _ σ1 g3 g2 g1
   . rename_i tp l ng e
     rw [e] at hv
     obtain ⟨q,hb,hl⟩:=hv
     refine wpIn_cond_split (t:=q ^^ ng) (by rw [cb]; exact hb) (fun ht=>?_) (fun ht=>?_)
     . split at g1
       . rename_i ha hbn _
         cases ng with
         | true =>
           rw [Bool.xor_true] at ht
           simp only [cond_true] at g1
           exact goX ha _ g3 g2 (qV g1)
         | false =>
           rw [Bool.xor_false] at ht
           simp only [cond_false] at g1
           exact goX ha _ g3 g2 (rF (hl ht) g1)
       . cases g1
     . split at g1
       . rename_i ha hbn _
         cases ng with
         | true =>
           rw [Bool.xor_true] at ht
           simp only [cond_true] at g1
           exact goY hbn _ g3 g2 (rF (hl (by simpa using ht)) g1)
         | false =>
           rw [Bool.xor_false] at ht
           simp only [cond_false] at g1
           exact goY hbn _ g3 g2 (qV g1)
       . cases g1
   . cases g1
 | .block id b=>fun R E fr hrd h σ k r m K ρ w Q hh hr hQ=>by
   have blk:∀ {R:Type} {k:Exit→Hn P→Zt→Option R} {r:R} {Q:Exit→Act→World→Prop} {fr:Frz} {σ:Zt},(∀ e h' σ' m' K' ρ' w',Rel E fr σ' m' K' ρ' w'→Same σ σ'→k e h' σ'=some r→Q e (act1 n ρ') w') →
       ∀ e h' σ' m' K' ρ' w',Rel E fr σ' m' K' ρ' w'→Same σ σ'→eU id k e h' σ'=some r→Exit.inBlock id Q e (act1 n ρ') w':=by
     intro R k r Q fr σ hQ e h' σ' m' K' ρ' w' h1 h2 h3
     cases e with
     | exit i =>
       change (bif Nat.beq i id then k .normal h' σ' else k (.exit i) h' σ')=some r at h3
       show if i=id then _ else _
       cases hb:Nat.beq i id with
       | true =>
         rw [hb] at h3
         rw [if_pos (Nat.eq_of_beq_eq_true hb)]
         exact hQ _ h' σ' m' K' ρ' w' h1 h2 h3
       | false =>
         rw [hb] at h3
         rw [if_neg (fun e=>by rw [e,Nat.beq_refl] at hb; cases hb)]
         exact hQ _ h' σ' m' K' ρ' w' h1 h2 h3
     | normal=>exact hQ _ h' σ' m' K' ρ' w' h1 h2 h3
     | goto l=>exact hQ _ h' σ' m' K' ρ' w' h1 h2 h3
     | ret=>exact hQ _ h' σ' m' K' ρ' w' h1 h2 h3
     | panic i=>exact hQ _ h' σ' m' K' ρ' w' h1 h2 h3
     | outgrown=>exact hQ _ h' σ' m' K' ρ' w' h1 h2 h3
   have fb:Fok P n (.block id b) (fun h σ R k=>exec J n b h σ (eU id k)):=fun R E fr hrd h σ k r m K ρ w Q hh hr hQ=>by
     refine wpIn_block (cz hJ b R E fr hrd h σ _ r m K ρ w _ hh hr ?_)
     intro e h' σ' m' K' ρ' w' h1 h2 h3
     cases e with
     | exit i =>
       change (bif Nat.beq i id then k .normal h' σ' else k (.exit i) h' σ')=some r at h3
       show if i=id then _ else _
       cases hb:Nat.beq i id with
       | true =>
         rw [hb] at h3
         rw [if_pos (Nat.eq_of_beq_eq_true hb)]
         exact hQ _ h' σ' m' K' ρ' w' h1 h2 h3
       | false =>
         rw [hb] at h3
         rw [if_neg (fun e=>by rw [e,Nat.beq_refl] at hb; cases hb)]
         exact hQ _ h' σ' m' K' ρ' w' h1 h2 h3
     | normal=>exact hQ _ h' σ' m' K' ρ' w' h1 h2 h3
     | goto l=>exact hQ _ h' σ' m' K' ρ' w' h1 h2 h3
     | ret=>exact hQ _ h' σ' m' K' ρ' w' h1 h2 h3
     | panic i=>exact hQ _ h' σ' m' K' ρ' w' h1 h2 h3
     | outgrown=>exact hQ _ h' σ' m' K' ρ' w' h1 h2 h3
   have plain:∀ h0,exec J n b h0 σ (eU id k)=some r→(Code.block id b).wpIn (ay E.rd) 0 P Q (act1 n ρ) w:=fun h0 hh=>fb R E fr hrd h0 σ k r m K ρ w Q hh hr hQ
   cases h with
   | jn mk s act ha hb =>
     have hh:(match Zt.mcs mk σ with | some σ=>g8 (fun h σ R k=>exec J n b h σ (eU id k)) s act (s.sl.map (·.1)++bY b) ha hb σ (k .normal) | none=>none)=some r:=hh
     split at hh
     . rename_i σ1 hm
       obtain ⟨m1,k1,k2⟩:=jq hm hr
       exact rh fb hrd hh k2 (fun h' σ' m' K' ρ' w' h1 h2 h3=>hQ _ h' σ' m' K' ρ' w' h1 (k1.trans h2) h3)
     . cases hh
   | jx mk s act ha hb =>
     have hh:(match Zt.mcs mk σ with | some σ=>gV (fun h σ R k=>exec J n b h σ (eU id k)) s act (s.sl.map (·.1)++bY b) ha hb σ k | none=>none)=some r:=hh
     split at hh
     . rename_i σ1 hm
       obtain ⟨m1,k1,k2⟩:=jq hm hr
       exact rG fb hrd hh k2 (fun e h' σ' m' K' ρ' w' q1 q2 q3=>hQ e h' σ' m' K' ρ' w' q1 (k1.trans q2) q3)
     . cases hh
   | pl h=>exact plain _ hh
   | nil=>exact plain _ hh
   | two _ _ _=>exact plain _ hh
   | tw _ _ _=>exact plain _ hh
   | sq _ _ _ _ _=>exact plain _ hh
   | sx _ _ _ _ _=>exact plain _ hh
   | lp _ _=>exact plain _ hh
   | un _ _=>exact plain _ hh
   | per _ _ _=>exact plain _ hh
   | perb _ _ _ _=>exact plain _ hh
   | mc _ _ _ _=>exact plain _ hh
   | ms _ _=>exact plain _ hh
   | wt _ _=>exact plain _ hh
   | cl _ _ _=>exact plain _ hh
   | c2 _ _ _ _=>exact plain _ hh
   | gp _ _=>exact plain _ hh
   | gj _ _ _ _ _=>exact plain _ hh
   | mix _ _ _ _ _=>exact plain _ hh
   | opn _ _ _=>exact plain _ hh
   | opb _ _ _=>exact plain _ hh
   | cls _ _ _=>exact plain _ hh
   | opp _ _ _ _=>exact plain _ hh
   | ot _ _=>exact plain _ hh
   | cm _ _ _ _=>exact plain _ hh
   | cm2 _ _ _ _ _=>exact plain _ hh
   | tr _ _ _ _ _=>exact plain _ hh
   | tru _=>exact plain _ hh
   | yl _ _=>exact plain _ hh
   | rg _ _=>exact plain _ hh
 | .loop b=>fun R E fr hrd h σ k r m K ρ w Q hh hr hQ=>by
   obtain ⟨h1,σ1,m1,K1,g1,g2,g3⟩:=aP h (show aw h σ (fun h σ=>match h with
     | .un m r=>jj (fun h σ k=>exec J n b h σ k) k m r σ
     | .lp s ha=>lJ (fun h σ R k=>exec J n b h σ k) s (s.sl.map (·.1)++bY b) ha σ k
     | _=>none)=some r from hh) hr
   have hQ':∀ e h' σ' m' K' ρ' w',Rel E fr σ' m' K' ρ' w'→Same σ1 σ'→k e h' σ'=some r→Q e (act1 n ρ') w':=fun e h'' σ'' m'' K'' ρ'' w'' p1 p2 p3=>hQ e h'' σ'' m'' K'' ρ'' w'' p1 (g2.trans p2) p3
   split at g1
   . exact wpIn_loop_rounds _ (qB (cz hJ b) hrd hQ' _ g1 g3 Same.rfl')
   . exact we (cz hJ b) hrd g1 g3 hQ'
   . cases g1
 | .rangeFunc g ps ao bo=>fun R E fr hrd h σ k r m K ρ w Q hh hr hQ=>by
   obtain ⟨h1,σ1,m1,K1,g1,g2,g3⟩:=aP h (show aw h σ (fun h σ=>lW J n g ps ao bo h σ k)=some r from hh) hr
   exact vW hJ hrd g1 g3 (fun e h'' σ'' m'' K'' ρ'' w'' p1 p2 p3=>hQ e h'' σ'' m'' K'' ρ'' w'' p1 (g2.trans p2) p3)
 | .goto l=>fun R E fr hrd h σ k r m K ρ w Q hh hr hQ=>by cases hh
 | .refuse s=>fun R E fr hrd h σ k r m K ρ w Q hh hr hQ=>by cases hh
theorem ra:∀ d:Nat,JOk (oI (P:=P) d)
 | 0=>fun n c R E fr hrd h σ k r m K ρ w Q hh hr hQ=>by cases hh
 | d + 1=>fun n c=>cz (ra d) c
end
end
section
variable [BldA]
def dH (P:Program) (n:Nat) (σ:Zt):List ResultVar→Option (List SV)
 | []=>some []
 | .tmp t :: r=>(match dH P n σ r with | some vs=>some (σ.ev n (.tmp t) :: vs) | none=>none)
 | .cell a ty :: r=>(match σ.ev n (.tmp a) with
   | .ptr i o=>(match aT (HA.blkR i) (σ.H++σ.Hf) with
     | some q=>(match ldv P ty q.cs o,dH P n σ r with | some v,some vs=>some (v :: vs) | _,_=>none)
     | none=>none)
   | _=>none)
def tJ:List SV→SV
 | [v]=>v
 | vs => .tup vs
def fc (σ:Zt) (rs:List SV) (o:Sh):Option (TL o.ts):=bif (match rs,o.sl with | [],[]=>true | _ :: _,[p]=>Nat.beq p.1 0 | _,_=>false) then (match o.get (fun _=>tJ rs) σ.H with | some g=>TL.of o.ts g.ds | none=>none) else none
def me {P:Program} (σ:Zt) (rs:List SV):(os:List Sh)→Hn P→Option (cM os)
 | [a],_=>fc σ rs a
 | [a,b],h=>(match h with | .pl _=>(fc σ rs b).map Sum.inr | _=>(fc σ rs a).map Sum.inl)
 | _,_=>none
def mf {P:Program} (n:Nat) (fn:Func) (os:List Sh) (h:Hn P) (σ:Zt):Option (cM os):=aw h σ fun h σ=>match dH P n σ fn.results.toList with | some rs=>me σ rs os h | none=>none
def fin {P:Program} (n:Nat) (fn:Func) (os:List Sh) (e:Exit) (h:Hn P) (σ:Zt):Option (cM os):=match e with
 | .normal=>mf n fn os h σ
 | .ret=>mf n fn os h σ
 | _=>none
def o7 {P:Program} (n:Nat) (fn:Func) (c:Code) (inn:Sh) (os:List Sh) (h:Hn P) (x:TL inn.ts):Option (cM os):=match inn.un (TL.list inn.ts x) 0 with
 | some (vs,u)=>aw h ⟨fun _ => .any,vs,u.H,[],u.nx,false⟩ fun h σ=>exec (oI 4) n c h σ (fin n fn os)
 | none=>none
section
variable {P:Program} {E:En} {n:Nat} {m:List M} {K:Hp} {fr:Frz} {σ:Zt} {ρ:Sl1} {w:World}
theorem nN (hr:Rel E fr σ m K ρ w):∀ {l:List ResultVar} {rs:List SV},dH P n σ l=some rs→∃ us:List Value,SV.relL m K rs us∧l.length=us.length∧∀ (j:Nat) (r:ResultVar) (v:Value),l[j]? = some r→us[j]? = some v→jJ P n (Hold E K (σ.atoms fr m)) ρ r v
 | [],rs,h=>by cases h; exact ⟨[],rfl,rfl,fun j r v h=>by simp at h⟩
 | .tmp t :: l,rs,h=>by
   unfold dH at h
   split at h
   . rename_i vs hvs
     cases h
     obtain ⟨us,h1,h2,h3⟩:=nN hr hvs
     refine ⟨ev n ρ (.tmp t) :: us,⟨_,us,rfl,hr.toPur.ev n (.tmp t),h1⟩,by simp [h2],fun j r v hj hv=>?_⟩
     cases j with
     | zero=>simp at hj hv; subst hj hv; rfl
     | succ j=>exact h3 j r v (by simpa using hj) (by simpa using hv)
   . cases h
 | .cell a ty :: l,rs,h=>by
   unfold dH at h
   split at h
   . rename_i i o e
     split at h
     . rename_i q hq
       split at h
       . rename_i v vs hv hvs
         cases h
         obtain ⟨us,h1,h2,h3⟩:=nN hr hvs
         obtain ⟨x,hx,hmem⟩:=bx hq
         obtain rfl:=cP hx
         obtain ⟨b,ws,g1,g2,g3⟩:=hr.cls.blk hmem
         obtain ⟨u,g4,g5⟩:=jp (P:=P) (o0:=0) hv g2 (fun j u hu=>by rw [Nat.zero_add]; exact g3 j u hu)
         rw [Nat.zero_add] at g4
         have hev:=hr.toPur.ev n (.tmp a)
         rw [e] at hev
         obtain ⟨b',q1,q2⟩:=hev
         rw [g1] at q1; cases q1
         refine ⟨u :: us,⟨_,us,rfl,g5,h1⟩,by simp [h2],fun j r v hj hv=>?_⟩
         cases j with
         | zero=>simp at hj hv; subst hj hv; exact ⟨b,o,q2,g4⟩
         | succ j=>exact h3 j r v (by simpa using hj) (by simpa using hv)
       . cases h
     . cases h
   . cases h
theorem rB {C:World→Prop} {w:World} (hw:C w):∀ {l:List ResultVar} {us:List Value},l.length=us.length→(∀ (j:Nat) (r:ResultVar) (v:Value),l[j]? = some r→us[j]? = some v→jJ P n C ρ r v)→(l.mapM (rvS (frm n ρ))).run P w = .ok us w
 | [],us,h,_=>by
   obtain rfl:us=[]:=List.length_eq_zero_iff.1 h.symm
   simp
 | r :: l,us,h,hr=>by
   cases us with
   | nil=>cases h
   | cons u us =>
     have h1:=sU (hr 0 r u rfl rfl) hw
     have h2:=rB hw (l:=l) (us:=us) (by simpa using h) (fun j r v hj hv=>hr (j + 1) r v (by simpa using hj) (by simpa using hv))
     simp [List.mapM_cons,h1,h2]
def jG:List Value→Value
 | [v]=>v
 | vs => .tuple vs.toArray
theorem xJ {C:World→Prop} {w:World} (hw:C w) {fn:Func} {us:List Value} (hl:fn.results.toList.length=us.length) (h:∀ (j:Nat) (r:ResultVar) (v:Value),fn.results.toList[j]? = some r→us[j]? = some v→jJ P n C ρ r v):(results fn (frm n ρ)).run P w = .ok (jG us) w:=by
 have h1:=rB hw hl h
 rw [pX]
 simp only [Array.mapM_eq_mapM_toList]
 simp only [Sem.run_bind,Sem.run_map,h1,Result.andThen_ok,Sem.run_pure]
 match us with
 | []=>rfl
 | [u]=>rfl
 | u :: v :: r =>
   rw [dif_neg (by simp)]
   rfl
theorem wH {rs:List SV} {us:List Value} (h:SV.relL m K rs us) (hne:rs≠[]):SV.rel m K (tJ rs) (jG us):=by
 match rs,us,h with
 | [],_,_=>exact absurd rfl hne
 | [v],us,h =>
   obtain ⟨u,q,rfl,h1,h2⟩:=aJ h
   obtain rfl:=aV h2
   exact h1
 | v :: v2 :: r,us,h =>
   obtain ⟨u,q,rfl,h1,h2⟩:=aJ h
   obtain ⟨u2,q2,rfl,h3,h4⟩:=aJ h2
   exact ⟨_,rfl,u,_,rfl,h1,u2,q2,rfl,h3,h4⟩
theorem nO {rs:List SV} {us:List Value} {o:Sh} {x:TL o.ts} {K0:Hp} {m0:List M} (h:fc σ rs o=some x) (hr:Rel E fr σ m K ρ w) (hrel:SV.relL m K rs us) (hm:m0 <+: m) (ho:bE o.bl m0.length=true) (hF:σ.Hf=[]) :
   ∃ vs' u' m',o.un (TL.list o.ts x) m0.length=some (vs',u')∧m0 <+: m'∧m'.length=u'.nx∧(∀ a∈u'.H,HA.ok m' K a)∧hU m' K vs' (jG us)∧Sep E K (u'.H.map (HA.conc m')++fr.F) w:=by
 unfold fc at h
 replace h:=ah h; obtain ⟨hs,h⟩:=h
 split at h
 . rename_i g hg
   obtain ⟨vs,u,ms,e1,e2,e3,e4,e5,e6,e7,e8⟩:=Sh.get_un hg hr.okH hm ho
   rw [TL.of_list h]
   refine ⟨vs,u,m0++ms,e1,au _ _,e2,e4,?_,?_⟩
   . split at hs
     . rename_i hsl
       rw [hsl] at e3
       obtain rfl:vs=[]:=e3
       obtain rfl:=aV hrel
       rfl
     . rename_i v r p hsl
       rw [hsl] at e3
       obtain ⟨sv,q,rfl,g1,g2⟩:=e3
       obtain rfl:q=[]:=g2
       exact g1 _ (wH hrel (by simp))
     . cases hs
   . have:=e6 E _ w hr.toSep
     have h2:σ.fz fr=fr.F:=by unfold Zt.fz; rw [hF]; rfl
     rw [h2] at this
     have h3:Sep E K (g.H.map (HA.conc m)++(u.H.map (HA.conc (m0++ms))++fr.F)) w:=Sep.perm (gW _ _ _) this
     exact Sep.drops h3
 . cases h
theorem xF {rs:List SV} {us:List Value} {m0:List M} (hr:Rel E fr σ m K ρ w) (hrel:SV.relL m K rs us) (hm:m0 <+: m) (hF:σ.Hf=[]):∀ {os:List Sh} {h0:Hn P} {r:cM os},(∀ o∈os,bE o.bl m0.length=true)→me σ rs os h0=some r →
   ∃ vs' u' m',(dn os r).1.un (dn os r).2 m0.length=some (vs',u')∧m0 <+: m'∧m'.length=u'.nx∧(∀ a∈u'.H,HA.ok m' K a)∧hU m' K vs' (jG us)∧Sep E K (u'.H.map (HA.conc m')++fr.F) w
 | [],h0,r,_,h=>Empty.elim r
 | [a],h0,r,ho,h=>nO (K0:=K) (show fc σ rs a=some r from h) hr hrel hm (ho a (by simp)) hF
 | [a,b],h0,r,ho,h=>by
   have key:(fc σ rs b).map Sum.inr=some r∨(fc σ rs a).map Sum.inl=some r:=by
     cases h0 <;> first | exact .inl h | exact .inr h
   clear h
   rcases key with h | h
   . rw [Option.map_eq_some_iff] at h
     obtain ⟨x,h,rfl⟩:=h
     exact nO (K0:=K) h hr hrel hm (ho b (by simp)) hF
   . rw [Option.map_eq_some_iff] at h
     obtain ⟨x,h,rfl⟩:=h
     exact nO (K0:=K) h hr hrel hm (ho a (by simp)) hF
 | a :: b :: c :: os,h0,r,_,h=>by cases h
theorem qI:∀ {sl:List (Nat×Kd)} {vs:List (Nat×SV)} {us:List Value} {j N:Nat},slN j sl N=true→vs.map (·.1)=sl.map (·.1)→slR m K vs us→∀ i sv,ap vs i=some sv→∃ k u,i=j + k∧us[k]? = some u∧SV.rel m K sv u
 | [],vs,us,j,N,h1,h2,h3,i,sv,hl=>by
   have:vs=[]:=by cases vs with | nil=>rfl | cons a b=>cases h2
   subst this; cases hl
 | p :: sl,vs,us,j,N,h1,h2,h3,i,sv,hl=>by
   cases vs with
   | nil=>cases h2
   | cons q vs =>
     simp only [List.map_cons,List.cons.injEq] at h2
     simp only [slN,Bool.and_eq_true] at h1
     have hj:=Nat.eq_of_beq_eq_true h1.1
     obtain ⟨u,r,rfl,g1,g2⟩:=h3
     change (bif Nat.beq q.1 i then some q.2 else ap vs i)=some sv at hl
     cases hb:Nat.beq q.1 i with
     | true =>
       rw [hb] at hl; cases hl
       have:=Nat.eq_of_beq_eq_true hb
       exact ⟨0,u,by rw [← this,h2.1,hj]; rfl,rfl,g1⟩
     | false =>
       rw [hb] at hl
       obtain ⟨k,u',e1,e2,e3⟩:=qI h1.2 h2.2 g2 i sv hl
       exact ⟨k + 1,u',by omega,by simpa using e2,e3⟩
theorem rL {bi:List Nat}:∀ {sl:List (Nat×Kd)} {u u':Un} {vs:List (Nat×SV)},unS bi sl u=some (vs,u')→vs.map (·.1)=sl.map (·.1)
 | [],u,u',vs,h=>by cases h; rfl
 | p :: sl,u,u',vs,h=>by
   unfold unS at h
   split at h
   . split at h
     . rename_i h2
       cases h
       simp [rL h2]
     . cases h
   . cases h
theorem xC {s:Sh} {ds:List Dat} {nx:Nat} {vs:List (Nat×SV)} {u:Un} (h:s.un ds nx=some (vs,u)):vs.map (·.1)=s.sl.map (·.1):=by
 unfold Sh.un at h
 replace h:=(ah h).2
 split at h
 split at h
 . rename_i h1
   split at h
   . cases h; exact rL h1
   . cases h
 . cases h
theorem sh:∀ {vs:List (Nat×SV)} {us:List Value},slR m K vs us→us.length=vs.length
 | [],us,h=>by obtain rfl:us=[]:=h; rfl
 | p :: vs,us,⟨u,r,e,_,h⟩=>by subst e; simp [sh h]
end
section
variable {P:Program} {E:En} {n:Nat} {m:List M} {K:Hp} {fr:Frz} {σ:Zt} {ρ:Sl1} {w:World}
theorem nW {b:Bool}:∀ l:List ResultVar,dH P n ⟨σ.base,σ.top,σ.H,σ.Hf,σ.nx,b⟩ l=dH P n σ l
 | []=>rfl
 | .tmp t :: r=>by unfold dH; rw [nW r]; rfl
 | .cell a ty :: r=>by unfold dH; rw [nW r]; rfl
theorem xH {b:Bool} {rs:List SV}:∀ {os:List Sh} {h:Hn P},me ⟨σ.base,σ.top,σ.H,σ.Hf,σ.nx,b⟩ rs os h=me σ rs os h
 | [],h=>rfl
 | [a],h=>rfl
 | [a,b],h=>by cases h <;> rfl
 | a :: b :: c :: os,h=>rfl
end
section
variable {P:Program} {n:Nat}
theorem yU {s:Spec} {fn:Func} {c:Code} (hf:P.funcs[s.f]? = some fn) (hb:fn.body=some c) (hn:fn.ntmps=n) (h:Hn P) (hc:(slN 0 s.inn.sl s.inn.sl.length&&Nat.ble s.inn.sl.length n)=true) (hold:∀ ds vs u,s.inn.un ds 0=some (vs,u)→∀ o∈s.outs,bE o.bl u.nx=true)
   (hex:∀ (x:TL s.inn.ts) r,s.fn x=some r→o7 n fn c s.inn s.outs h x=some r):cB P s:=by
 intro x r hx vs u hu m K args hgk hm hok hsl E w F hs
 rw [Bool.and_eq_true] at hc
 obtain ⟨hc1,hc2⟩:=hc
 have hkeys:=xC hu
 have hlen:args.toArray.size≤n:=by
   have h1:=sh hsl
   have h2:vs.length=s.inn.sl.length:=by have:=congrArg List.length hkeys; simpa using this
   simp only [List.size_toArray]
   have:=Nat.le_of_ble_eq_true hc2
   omega
 refine callsIn_wide.1 (callsIn_of_wp_marks (F:=Fence.wide) (n:=0) hf hb trivial ?_)
 rw [hn,nH hlen]
 have hrun:=hex x r hx
 unfold o7 at hrun
 rw [hu] at hrun
 simp only at hrun
 have hrel:Rel E.out0 ⟨m,K,ef args.toArray,fun _=>false,F,K⟩ ⟨fun _ => .any,vs,u.H,[],u.nx,false⟩ m K (ef args.toArray) w:=by
   refine ⟨⟨List.prefix_refl m,Hp.le_refl K,hm,fun e=>(by cases e),fun i=>trivial,fun i e=>rfl,fun i _ => .inr rfl,fun i sv hi=>?_,hok,fun a ha=>by simp at ha,MOk.nil hgk (Hp.le_refl K)⟩,?_⟩
   . obtain ⟨k,v,e1,e2,e3⟩:=qI hc1 hkeys hsl i sv hi
     have:ef args.toArray i=v:=by
       show eR args.toArray i=v
       unfold eR
       rw [e1,Nat.zero_add]
       simp [e2]
     rw [this]; exact e3
   . exact hs.out0
 obtain ⟨hp,σp,mp,Kp,p1,p2,p3⟩:=aP h hrun hrel
 refine cz (ra 4) c (cM s.outs) E.out0 ⟨m,K,ef args.toArray,fun _=>false,F,K⟩ (fun l e=>by cases e) hp σp (fin n fn s.outs) r mp Kp _ w _ p1 p3 (fun e h' σ' m' K' ρ' w' h1 h2 h3=>?_)
 have fini:mf n fn s.outs h' σ'=some r→LeavesInM Fence.wide 0 P fn (act1 n ρ').tmps (fun e w'=>∃ v K' L',e = .returned v∧(∃ vs' u' m',(dn s.outs r).1.un (dn s.outs r).2 u.nx=some (vs',u')∧m <+: m'∧m'.length=u'.nx∧(∀ a∈u'.H,HA.ok m' K' a)∧hU m' K' vs' v∧L'=u'.H.map (HA.conc m'))∧K.le K'∧Sep E K' (L'++F) w') (act1 n ρ').defers .returning w':=fun h3=>by
   unfold mf at h3
   obtain ⟨h'',σ2,m2,K2,g1,g2,g3⟩:=aP h' h3 h1
   split at g1
   . rename_i rs hrs
     refine mV ρ'.ds g3.mks g3.toSep (fun K3 w3 c1 c2 c3=>?_)
     have g4:=g3.unmark c1 c2 c2 c3
     rw [← nW (b:=false)] at hrs
     rw [← xH (b:=false)] at g1
     obtain ⟨us,q1,q2,q3⟩:=nN g4 hrs
     refine ⟨jG us,xJ (ρ:=(⟨ρ'.f,[]⟩:Sl1)) g4.hold q2 q3,?_⟩
     obtain ⟨vs',u',m'',z1,z2,z3,z4,z5,z6⟩:=xF (m0:=m) g4 q1 g4.hm (((p2.trans h2).trans g2).2) (fun o ho=>by rw [hm]; exact hold _ _ _ hu o ho) g1
     rw [hm] at z1
     exact ⟨_,K3,_,rfl,⟨vs',u',m'',z1,z2,z3,z4,z5,rfl⟩,g4.hK,z6.back⟩
   . cases g1
 cases e with
 | normal=>exact fini h3
 | ret=>exact fini h3
 | _=>cases h3
end
end
section
variable [BldA]
mutual
theorem lP {bi:List Nat}:∀ (k:Kd) {u u':Un} {v:SV},Kd.un bi k u=some (v,u')→u.nx≤u'.nx
 | .any,u,u',v,h=>by cases h; exact Nat.le_refl _
 | .dat t,u,u',v,h=>by unfold Kd.un at h; split at h <;> cases h; exact Nat.le_refl _
 | .nilp,u,u',v,h=>by cases h; exact Nat.le_refl _
 | .nils,u,u',v,h=>by cases h; exact Nat.le_refl _
 | .nilf,u,u',v,h=>by cases h; exact Nat.le_refl _
 | .ptr j o,u,u',v,h=>by unfold Kd.un at h; split at h <;> cases h; exact Nat.le_refl _
 | .own e t,u,u',v,h=>by unfold Kd.un at h; split at h <;> cases h; exact Nat.le_add_right _ _
 | .al j,u,u',v,h=>by unfold Kd.un at h; split at h <;> cases h; exact Nat.le_refl _
 | .fsl j m,u,u',v,h=>by unfold Kd.un at h; split at h <;> cases h; exact Nat.le_refl _
 | .agg ks,u,u',v,h=>by
   unfold Kd.un at h; split at h
   . cases h; exact jk ks (by assumption)
   . cases h
 | .tup ks,u,u',v,h=>by
   unfold Kd.un at h; split at h
   . cases h; exact jk ks (by assumption)
   . cases h
 | .fn f ks,u,u',v,h=>by
   unfold Kd.un at h; split at h
   . cases h; exact jk ks (by assumption)
   . cases h
 | .kat t o,u,u',v,h=>by
   unfold Kd.un at h; split at h
   . split at h
     . cases h; exact Nat.le_refl _
     . cases h
   . cases h
 | .ifc t k,u,u',v,h=>by
   unfold Kd.un at h; split at h
   . cases h; exact lP k (by assumption)
   . cases h
 | .lit w,u,u',v,h=>by cases h; exact Nat.le_refl _
 | .od o,u,u',v,h=>by
   unfold Kd.un at h
   replace h:=(ah h).2
   split at h
   . split at h
     . cases h; exact Nat.le_add_right _ _
     . cases h
   . cases h
 | .rp j,u,u',v,h=>by unfold Kd.un at h; split at h <;> cases h; exact Nat.le_refl _
 | .is j k,u,u',v,h=>by
   unfold Kd.un at h; split at h
   . split at h
     . cases h; exact lP k (by assumption)
     . cases h
   . cases h
theorem jk {bi:List Nat}:∀ (ks:List Kd) {u u':Un} {vs:List SV},Kd.unL bi ks u=some (vs,u')→u.nx≤u'.nx
 | [],u,u',vs,h=>by cases h; exact Nat.le_refl _
 | k :: ks,u,u',vs,h=>by
   unfold Kd.unL at h; split at h
   . rename_i h1
     split at h
     . rename_i h2; cases h; exact Nat.le_trans (lP k h1) (jk ks h2)
     . cases h
   . cases h
end
theorem sT {bi:List Nat}:∀ (sl:List (Nat×Kd)) {u u':Un} {vs:List (Nat×SV)},unS bi sl u=some (vs,u')→u.nx≤u'.nx
 | [],u,u',vs,h=>by cases h; exact Nat.le_refl _
 | p :: sl,u,u',vs,h=>by
   unfold unS at h; split at h
   . rename_i h1
     split at h
     . rename_i h2; cases h; exact Nat.le_trans (lP p.2 h1) (sT sl h2)
     . cases h
   . cases h
theorem sN {bi:List Nat}:∀ (bl:List Bk) (is:List Nat) {u u':Un},unB bi bl is u=some u'→u.nx≤u'.nx
 | [],[],u,u',h=>by cases h; exact Nat.le_refl _
 | [],i :: is,u,u',h=>by cases h
 | b :: bl,[],u,u',h=>by cases h
 | b :: bl,i :: is,u,u',h=>by
   unfold unB at h; split at h
   . rename_i u1 h1
     refine Nat.le_trans ?_ (sN bl is h)
     unfold fg at h1
     cases hn:b.nu with
     | true=>rw [hn] at h1; cases h1; exact Nat.le_refl _
     | false =>
       rw [hn] at h1; simp only [cond_false] at h1
       cases hlp:b.lp with
       | true=>rw [hlp] at h1; simp only [cond_true] at h1; cases h1; exact Nat.le_refl _
       | false =>
       rw [hlp] at h1; simp only [cond_false] at h1
       cases hr:b.rw with
       | some o =>
         rw [hr] at h1
         dsimp only at h1
         split at h1
         . split at h1
           . cases h1; exact Nat.le_succ _
           . cases h1
         . cases h1
       | none =>
       rw [hr] at h1
       dsimp only at h1
       cases hb:b.bu with
       | true =>
         rw [hb] at h1; simp only [cond_true] at h1
         split at h1 <;> cases h1
         exact Nat.le_refl _
       | false =>
         rw [hb] at h1; simp only [cond_false] at h1
         split at h1
         . rename_i h2
           cases h1
           exact Nat.le_trans (jk b.ks h2) (Nat.le_succ _)
         . cases h1
   . cases h
theorem sn:∀ (bl:List Bk) (nx:Nat),dA bl=true→(be bl nx).2=nx + bl.length
 | [],nx,_=>rfl
 | b :: bl,nx,h=>by
   simp only [dA,Bool.and_eq_true] at h
   cases hb:b.old with
   | some i=>rw [hb] at h; cases h.1
   | none =>
     simp only [be,hb,List.length_cons]
     rw [sn bl (nx + 1) h.2]
     omega
theorem y9 {s:Sh} {ds:List Dat} {vs:List (Nat×SV)} {u:Un} (h:s.un ds 0=some (vs,u)) (ho:dA s.bl=true):s.bl.length≤u.nx:=by
 unfold Sh.un at h
 replace h:=(ah h).2
 have hn:=sn s.bl 0 ho
 split at h
 rename_i bi nx he
 rw [he] at hn
 simp only [Nat.zero_add] at hn
 split at h
 . rename_i h1
   split at h
   . rename_i h2
     cases h
     have:=sT s.sl h1
     have:=sN s.bl bi h2
     simp only at *
     omega
   . cases h
 . cases h
theorem rT:∀ (bl:List Bk) {a b:Nat},bE bl a=true→a≤b→bE bl b=true
 | [],a,b,h,hab=>rfl
 | x :: bl,a,b,h,hab=>by
   simp only [bE,Bool.and_eq_true] at h ⊢
   refine ⟨?_,rT bl h.2 hab⟩
   cases ho:x.old with
   | none=>rfl
   | some i =>
     have h1:=h.1
     rw [ho] at h1
     simp only [Nat.blt_eq] at h1 ⊢
     omega
def oe (fn:Func):Code:=match fn.body with | some c=>c | none => .skip
def sO (s:Spec) (fn:Func):Bool:=fn.body.isSome&&(slN 0 s.inn.sl s.inn.sl.length&&Nat.ble s.inn.sl.length fn.ntmps)&&(dA s.inn.bl&&s.outs.all fun o=>bE o.bl s.inn.bl.length)
theorem ae {P:Program} {s:Spec} {fn:Func} (hf:P.funcs[s.f]? = some fn) (h:Hn P) (hc:sO s fn=true) (hex:(fun x=>o7 fn.ntmps fn (oe fn) s.inn s.outs h x)=s.fn):cB P s:=by
 unfold sO at hc
 simp only [Bool.and_eq_true] at hc
 obtain ⟨⟨h1,h2,h2'⟩,h3,h4⟩:=hc
 have hb:fn.body=some (oe fn):=by
   unfold oe
   cases hbd:fn.body with
   | none=>rw [hbd] at h1; cases h1
   | some c=>rfl
 refine yU hf hb rfl h (by rw [h2,h2']; rfl) (fun ds vs u hu o ho=>rT o.bl (List.all_eq_true.1 h4 o ho) (y9 hu h3)) (fun x r hx=>?_)
 rw [← hx]
 exact congrFun hex x
end
theorem yW [BldA] {P:Program} {s:Spec} {W:World} (hs:cB P s) {x:TL s.inn.ts} {r:cM s.outs} (hr:s.fn x=some r) (hgk:BldA.gk (Hp.of W)) {vs:List (Nat×SV)} (hun:s.inn.un (TL.list _ x) 0=some (vs,⟨[],0,[],[]⟩))
   (hout:(dn s.outs r).1.un (dn s.outs r).2 0=some ([(0,.bool true)],⟨[],0,[],[]⟩)) {args:List Value} (hsl:slR [] (Hp.of W) vs args) :
   Calls P s.f args.toArray W fun e W'=>e = .returned (.bool true)∧Below W.heap.size W W':=by
 have h:=hs x r hr vs _ hun [] (Hp.of W) args hgk rfl (fun a ha=>by cases ha) hsl (En.of W) W [] (Sep.start W)
 refine h.mono fun e W' h=>?_
 obtain ⟨v,K',L',rfl,⟨vs',u',m',h1,_,_,_,h2,_⟩,h3,h4⟩:=h
 have h1:=h1.symm.trans hout
 cases h1
 obtain rfl:v = .bool true:=h2
 exact ⟨rfl,h4.below h3⟩
end
end Go.Proofs.YtbheedkpbbmlcaaGreatDoor
namespace Go.Proofs
open Go.Shelf
def Tryz.lays156_ren:Go.Shelf.Ren:=⟨fun | 156=>26 | 165=>59 | 166=>60 | 169=>61 | 240=>96 | 241=>97 | 276=>126 | 277=>127 | n=>n,fun | 31=>55 | 9=>9 | 3=>3 | 4=>4 | 0=>0 | 20=>20 | 72=>105 | 76=>109 | 70=>102 | 37=>103 | 75=>108 | 127=>153 | 164=>191 | 5=>5 | 80=>111 | n=>n,fun | n=>n⟩
theorem Tryz.lays156:Go.Proofs.Lays.n156 Tryz.prog Tryz.lays156_ren:={
  mixed:=by kernel_rfl
  f156:=Tryz.func26.trans (congrArg some (by kernel_rfl))
  f165:=Tryz.func59.trans (congrArg some (by kernel_rfl))
  f166:=Tryz.func60.trans (congrArg some (by kernel_rfl))
  f169:=Tryz.func61.trans (congrArg some (by kernel_rfl))
  f240:=Tryz.func96.trans (congrArg some (by kernel_rfl))
  f241:=Tryz.func97.trans (congrArg some (by kernel_rfl))
  f276:=Tryz.func126.trans (congrArg some (by kernel_rfl))
  f277:=Tryz.func127.trans (congrArg some (by kernel_rfl))
  t0:=Tryz.underlying0
  a0:=Tryz.isAgg0
  z0:=Tryz.sizeOf0
  v0:=Tryz.zeroValue0
  t3:=Tryz.underlying3
  a3:=Tryz.isAgg3
  z3:=Tryz.sizeOf3
  v3:=Tryz.zeroValue3
  t4:=Tryz.underlying4
  a4:=Tryz.isAgg4
  z4:=Tryz.sizeOf4
  v4:=Tryz.zeroValue4
  t9:=Tryz.underlying9
  a9:=Tryz.isAgg9
  z9:=Tryz.sizeOf9
  v9:=Tryz.zeroValue9
  t20:=Tryz.underlying20
  a20:=Tryz.isAgg20
  z20:=Tryz.sizeOf20
  v20:=Tryz.zeroValue20
  t31:=Tryz.underlying55
  a31:=Tryz.isAgg55
  z31:=Tryz.sizeOf55
  v31:=Tryz.zeroValue55
  t37:=Tryz.underlying103
  a37:=Tryz.isAgg103
  z37:=Tryz.sizeOf103
  v37:=Tryz.zeroValue103
  t70:=Tryz.underlying102
  a70:=Tryz.isAgg102
  z70:=Tryz.sizeOf102
  v70:=Tryz.zeroValue102
  t72:=Tryz.underlying105
  a72:=Tryz.isAgg105
  z72:=Tryz.sizeOf105
  v72:=Tryz.zeroValue105
  t75:=Tryz.underlying108
  a75:=Tryz.isAgg108
  z75:=Tryz.sizeOf108
  v75:=Tryz.zeroValue108
  t76:=Tryz.underlying109
  a76:=Tryz.isAgg109
  z76:=Tryz.sizeOf109
  v76:=Tryz.zeroValue109
  t127:=Tryz.underlying153
  a127:=Tryz.isAgg153
  z127:=Tryz.sizeOf153
  v127:=Tryz.zeroValue153
  t164:=Tryz.underlying191
  a164:=Tryz.isAgg191
  z164:=Tryz.sizeOf191
  v164:=Tryz.zeroValue191 }
theorem Tryz.Builder_Extra_156:Builder.Extra Tryz.prog Tryz.lays156_ren:={
  sizeBuilder:=by kernel_rfl
  liesBuilder:=by kernel_rfl
  t5:=Tryz.underlying5
  a5:=Tryz.isAgg5
  z5:=Tryz.sizeOf5
  v5:=Tryz.zeroValue5
  infoByte:=by kernel_rfl
  cellsByte:=by kernel_rfl
  sizeByte:=by kernel_rfl
  neB5:=by decide }
open Go.RowKit in
/-- No element: the empty string; the g9 is as it was. (Whatever the slice's address and capacity: a nil slice too.) (LAID: no walk: one application.) -/
theorem Tryz.strings_Join_none (a:Option Addr) (c:Nat) (sep:ByteArray) (w:World) :
    Calls Tryz.prog 26 #[.slice a 0 c,.string sep] w fun e w'=>e = .returned (.string ⟨#[]⟩)∧w'=w:=Any.strings_Join_none Tryz.lays156 Tryz.Builder_Extra_156 a c sep w
open Go.RowKit in
/-- strings.Join: "Join concatenates the elements of its first argument to create a single string. The separator string sep is placed between elements in the resulting string.": HOWEVER MANY ELEMENTS. Below the heap's end the g9 is as it was. (LAID: no walk: one application.) -/
theorem Tryz.strings_Join (bk o c:Nat) (xs:List ByteArray) (sep:ByteArray) (w:World) (hcells:∀ (j:Nat) x,xs[j]? = some x→w.cell? ⟨bk,o + j,none⟩=some (.string x)) (hbk:bk < w.heap.size) (hN:xs.length≤140737488355328) (hcap:xs.length≤c) (hlen:(Lib.join (xs.map (·.data.toList)) sep.data.toList).length≤140737488355328) :
    Calls Tryz.prog 26 #[.slice (some ⟨bk,o,none⟩) xs.length c,.string sep] w fun e w'=>e = .returned (.string ⟨(Lib.join (xs.map (·.data.toList)) sep.data.toList).toArray⟩)∧Below w.heap.size w w':=Any.strings_Join Tryz.lays156 Tryz.Builder_Extra_156 bk o c xs sep w hcells hbk hN hcap hlen
def Tryz.lays143_ren:Go.Shelf.Ren:=⟨fun | 143=>89 | 219=>118 | 217=>142 | 225=>143 | 224=>144 | 267=>145 | 266=>159 | 314=>160 | n=>n,fun | 9=>9 | 3=>3 | 4=>4 | 5=>5 | 46=>203 | 146=>222 | 51=>221 | n=>n,fun | 1=>0 | n=>n⟩
theorem Tryz.lays143:Go.Proofs.Lays.n143 Tryz.prog Tryz.lays143_ren:={
  mixed:=by kernel_rfl
  f143:=Tryz.func89.trans (congrArg some (by kernel_rfl))
  f217:=Tryz.func142.trans (congrArg some (by kernel_rfl))
  f219:=Tryz.func118.trans (congrArg some (by kernel_rfl))
  f224:=Tryz.func144.trans (congrArg some (by kernel_rfl))
  f225:=Tryz.func143.trans (congrArg some (by kernel_rfl))
  f266:=Tryz.func159.trans (congrArg some (by kernel_rfl))
  f267:=Tryz.func145.trans (congrArg some (by kernel_rfl))
  f314:=Tryz.func160.trans (congrArg some (by kernel_rfl))
  t3:=Tryz.underlying3
  a3:=Tryz.isAgg3
  z3:=Tryz.sizeOf3
  v3:=Tryz.zeroValue3
  t4:=Tryz.underlying4
  a4:=Tryz.isAgg4
  z4:=Tryz.sizeOf4
  v4:=Tryz.zeroValue4
  t5:=Tryz.underlying5
  a5:=Tryz.isAgg5
  z5:=Tryz.sizeOf5
  v5:=Tryz.zeroValue5
  t9:=Tryz.underlying9
  a9:=Tryz.isAgg9
  z9:=Tryz.sizeOf9
  v9:=Tryz.zeroValue9
  t46:=Tryz.underlying203
  a46:=Tryz.isAgg203
  z46:=Tryz.sizeOf203
  v46:=Tryz.zeroValue203
  t51:=Tryz.underlying221
  a51:=Tryz.isAgg221
  z51:=Tryz.sizeOf221
  v51:=Tryz.zeroValue221
  t146:=Tryz.underlying222
  a146:=Tryz.isAgg222
  z146:=Tryz.sizeOf222
  v146:=Tryz.zeroValue222
  g1:=by kernel_rfl }
open Go.RowKit Go.Lib in
/-- strings.Index: "Index returns the index of the first instance of substr in s, or -1 if substr is not present in s.": IT RETURNS 'Lib.index s substr'; the g9 is as it was. (LAID: no walk: one application.) -/
theorem Tryz.strings_Index (s sub:ByteArray) (m:Int) (w:World) (hs:s.size < 4294967281) (hm:w.cell? ⟨0,0,none⟩=some (.int .i64 m)) :
    Calls Tryz.prog 89 #[.string s,.string sub] w fun e w'=>e = .returned (.int .i64 (Lib.index s.data.toList sub.data.toList))∧w'=w:=Any.strings_Index Tryz.lays143 s sub m w hs hm
def Tryz.lays145_ren:Go.Shelf.Ren:=⟨fun | 145=>85 | 220=>114 | 219=>118 | 217=>142 | 225=>143 | 224=>144 | 267=>145 | 266=>159 | 314=>160 | n=>n,fun | 9=>9 | 4=>4 | 59=>137 | 3=>3 | 5=>5 | 46=>203 | 146=>222 | 51=>221 | n=>n,fun | 1=>0 | n=>n⟩
theorem Tryz.lays145:Go.Proofs.Lays.n145 Tryz.prog Tryz.lays145_ren:={
  mixed:=by kernel_rfl
  f145:=Tryz.func85.trans (congrArg some (by kernel_rfl))
  f217:=Tryz.func142.trans (congrArg some (by kernel_rfl))
  f219:=Tryz.func118.trans (congrArg some (by kernel_rfl))
  f220:=Tryz.func114.trans (congrArg some (by kernel_rfl))
  f224:=Tryz.func144.trans (congrArg some (by kernel_rfl))
  f225:=Tryz.func143.trans (congrArg some (by kernel_rfl))
  f266:=Tryz.func159.trans (congrArg some (by kernel_rfl))
  f267:=Tryz.func145.trans (congrArg some (by kernel_rfl))
  f314:=Tryz.func160.trans (congrArg some (by kernel_rfl))
  t3:=Tryz.underlying3
  a3:=Tryz.isAgg3
  z3:=Tryz.sizeOf3
  v3:=Tryz.zeroValue3
  t4:=Tryz.underlying4
  a4:=Tryz.isAgg4
  z4:=Tryz.sizeOf4
  v4:=Tryz.zeroValue4
  t5:=Tryz.underlying5
  a5:=Tryz.isAgg5
  z5:=Tryz.sizeOf5
  v5:=Tryz.zeroValue5
  t9:=Tryz.underlying9
  a9:=Tryz.isAgg9
  z9:=Tryz.sizeOf9
  v9:=Tryz.zeroValue9
  t46:=Tryz.underlying203
  a46:=Tryz.isAgg203
  z46:=Tryz.sizeOf203
  v46:=Tryz.zeroValue203
  t51:=Tryz.underlying221
  a51:=Tryz.isAgg221
  z51:=Tryz.sizeOf221
  v51:=Tryz.zeroValue221
  t59:=Tryz.underlying137
  a59:=Tryz.isAgg137
  z59:=Tryz.sizeOf137
  v59:=Tryz.zeroValue137
  t146:=Tryz.underlying222
  a146:=Tryz.isAgg222
  z146:=Tryz.sizeOf222
  v146:=Tryz.zeroValue222
  g1:=by kernel_rfl }
open Go.RowKit Go.Lib in
/-- strings.Cut: "Cut slices s around the first instance of sep, returning the text before and after sep. The found result reports whether sep appears in s. If sep does not appear in s, cut returns s, "", false.": IT RETURNS 'Lib.cut s sep'; the g9 is as it was but for the count of draws. (LAID: no walk: one application.) -/
theorem Tryz.strings_Cut (s sep:ByteArray) (m:Int) (w:World) (hs:s.size < 4294967281) (hm:w.cell? ⟨0,0,none⟩=some (.int .i64 m)) :
    Calls Tryz.prog 85 #[.string s,.string sep] w fun e w'=>e = .returned (.tuple #[.string ⟨(Lib.cut s.data.toList sep.data.toList).1.toArray⟩,.string ⟨(Lib.cut s.data.toList sep.data.toList).2.1.toArray⟩,.bool (Lib.cut s.data.toList sep.data.toList).2.2])∧∃ n,w'=w.drewN n:=Any.strings_Cut Tryz.lays145 s sep m w hs hm
def Tryz.lays146_ren:Go.Shelf.Ren:=⟨fun | 146=>20 | 221=>51 | 268=>87 | 138=>88 | 143=>89 | 195=>115 | 197=>116 | 218=>117 | 219=>118 | 260=>141 | 217=>142 | 225=>143 | 224=>144 | 267=>145 | 266=>159 | 314=>160 | n=>n,fun | 9=>9 | 31=>55 | 3=>3 | 4=>4 | 0=>0 | 105=>178 | 21=>21 | 5=>5 | 46=>203 | 119=>217 | 139=>220 | 138=>219 | 146=>222 | 51=>221 | n=>n,fun | 1=>0 | 3=>1 | 4=>2 | n=>n⟩
theorem Tryz.lays146:Go.Proofs.Lays.n146 Tryz.prog Tryz.lays146_ren:={
  mixed:=by kernel_rfl
  f138:=Tryz.func88.trans (congrArg some (by kernel_rfl))
  f143:=Tryz.func89.trans (congrArg some (by kernel_rfl))
  f146:=Tryz.func20.trans (congrArg some (by kernel_rfl))
  f195:=Tryz.func115.trans (congrArg some (by kernel_rfl))
  f197:=Tryz.func116.trans (congrArg some (by kernel_rfl))
  f217:=Tryz.func142.trans (congrArg some (by kernel_rfl))
  f218:=Tryz.func117.trans (congrArg some (by kernel_rfl))
  f219:=Tryz.func118.trans (congrArg some (by kernel_rfl))
  f221:=Tryz.func51.trans (congrArg some (by kernel_rfl))
  f224:=Tryz.func144.trans (congrArg some (by kernel_rfl))
  f225:=Tryz.func143.trans (congrArg some (by kernel_rfl))
  f260:=Tryz.func141.trans (congrArg some (by kernel_rfl))
  f266:=Tryz.func159.trans (congrArg some (by kernel_rfl))
  f267:=Tryz.func145.trans (congrArg some (by kernel_rfl))
  f268:=Tryz.func87.trans (congrArg some (by kernel_rfl))
  f314:=Tryz.func160.trans (congrArg some (by kernel_rfl))
  t0:=Tryz.underlying0
  a0:=Tryz.isAgg0
  z0:=Tryz.sizeOf0
  v0:=Tryz.zeroValue0
  t3:=Tryz.underlying3
  a3:=Tryz.isAgg3
  z3:=Tryz.sizeOf3
  v3:=Tryz.zeroValue3
  t4:=Tryz.underlying4
  a4:=Tryz.isAgg4
  z4:=Tryz.sizeOf4
  v4:=Tryz.zeroValue4
  t5:=Tryz.underlying5
  a5:=Tryz.isAgg5
  z5:=Tryz.sizeOf5
  v5:=Tryz.zeroValue5
  t9:=Tryz.underlying9
  a9:=Tryz.isAgg9
  z9:=Tryz.sizeOf9
  v9:=Tryz.zeroValue9
  t21:=Tryz.underlying21
  a21:=Tryz.isAgg21
  z21:=Tryz.sizeOf21
  v21:=Tryz.zeroValue21
  t31:=Tryz.underlying55
  a31:=Tryz.isAgg55
  z31:=Tryz.sizeOf55
  v31:=Tryz.zeroValue55
  t46:=Tryz.underlying203
  a46:=Tryz.isAgg203
  z46:=Tryz.sizeOf203
  v46:=Tryz.zeroValue203
  t51:=Tryz.underlying221
  a51:=Tryz.isAgg221
  z51:=Tryz.sizeOf221
  v51:=Tryz.zeroValue221
  t105:=Tryz.underlying178
  a105:=Tryz.isAgg178
  z105:=Tryz.sizeOf178
  v105:=Tryz.zeroValue178
  t119:=Tryz.underlying217
  a119:=Tryz.isAgg217
  z119:=Tryz.sizeOf217
  t138:=Tryz.underlying219
  a138:=Tryz.isAgg219
  z138:=Tryz.sizeOf219
  v138:=Tryz.zeroValue219
  t139:=Tryz.underlying220
  a139:=Tryz.isAgg220
  z139:=Tryz.sizeOf220
  v139:=Tryz.zeroValue220
  t146:=Tryz.underlying222
  a146:=Tryz.isAgg222
  z146:=Tryz.sizeOf222
  v146:=Tryz.zeroValue222
  g1:=by kernel_rfl
  g3:=by kernel_rfl
  g4:=by kernel_rfl }
open Go.RowKit Go.Lib in
/-- strings.Split. (LAID: no walk: one application.) -/
theorem Tryz.strings_Split (s sep:ByteArray) (m:Int) (w:World) (hs:s.size < 4294967281) (hm:w.cell? ⟨0,0,none⟩=some (.int .i64 m)) (h1:1≤sep.size) :
    Calls Tryz.prog 20 #[.string s,.string sep] w fun e w' =>
      e = .returned (.slice (some ⟨w.heap.size,0,none⟩) (Lib.countB s sep + 1) (Lib.countB s sep + 1))∧w'=w.alloc (.cells ((Lib.splitB sep 0 (Lib.countB s sep) s).map Value.string).toArray 9):=Any.strings_Split Tryz.lays146 (by kernel_rfl) s sep m w hs hm h1
end Go.Proofs
namespace Go.Proofs.YtbheedkpbbmlcaaGreatDoor
noncomputable section
set_option linter.unusedVariables false
set_option linter.unusedSimpArgs false
set_option linter.unnecessarySimpa false
open Go.RowKit
theorem Sep.ofBelow {E:En} {K:Hp} {L:List ab} {w w':World} (h:Sep E K L w) (b:Below w.heap.size w w'):Sep E K L w':=h.fr (Fr.of_below b)
def Gk (K:Hp):Prop:=∃ m:Int,aZ K 0 0=some (.int .i64 m)
theorem Gk.mono {K K':Hp} (h:Gk K) (f:K.le K'):Gk K':=let ⟨m,h⟩:=h; ⟨m,dX f h⟩
theorem Gk.of {W:World} (h:W.ShapedOpen Tryz.prog):Gk (Hp.of W) :=
 let ⟨m,hm⟩:=Go.Proofs.cell_of_shapedOpen_int (zero:=#[.int .i64 0]) (t:=3) h (of_decide_eq_true (by kernel_rfl)) (by kernel_rfl) rfl (by kernel_rfl) (by kernel_rfl) Tryz.underlying3
 ⟨m,rJ hm⟩
def jE (s sep:List UInt8):Option (List UInt8×List UInt8×Bool):=if s.length < 4294967281 then some (Lib.cut s sep) else none
theorem uu {K:Hp} {xa xb:List UInt8} (fG:Gk K) {r:List UInt8×List UInt8×Bool} (h:jE xa xb=some r) :
   Tr Tryz.prog 85 #[.string ⟨xa.toArray⟩,.string ⟨xb.toArray⟩] K [] (fun v K' L'=>(∃ (s1 s2:List UInt8) (t3:Bool),(s1,s2,t3)=r∧v = .tuple #[.string ⟨s1.toArray⟩,.string ⟨s2.toArray⟩,.bool t3]∧L'=[])∧K=K'):=by
 refine Tr.k (fun E w F hs=>?_)
 unfold jE at h
 split at h
 . rename_i hlt
   cases h
   obtain ⟨m,hm⟩:=fG
   refine (Tryz.strings_Cut ⟨xa.toArray⟩ ⟨xb.toArray⟩ m w (by simpa [ByteArray.size] using hlt) (db hs.sub hm)).mono ?_
   rintro e w' ⟨rfl,n,rfl⟩
   exact ⟨_,K,[],rfl,⟨_,_,_,rfl,rfl,rfl⟩,Hp.le_refl K,hs.fr ((Fr.refl [] w).drewN n)⟩
 . cases h
def cH (s sep:List UInt8):Option (List (List UInt8)):=if s.length < 4294967281∧1≤sep.length then some ((Lib.splitB ⟨sep.toArray⟩ 0 (Lib.countB ⟨s.toArray⟩ ⟨sep.toArray⟩) ⟨s.toArray⟩).map (·.data.toList)) else none
theorem rA:∀ l:List ByteArray,Els Hp.nil .str (l.map Value.string) (l.map (·.data.toList))
 | []=>rfl
 | x :: l=>⟨[.string x],_,rfl,by simp [Is],rA l⟩
theorem uj {K:Hp} {xa xb:List UInt8} (fG:Gk K) {r:List (List UInt8)} (h:cH xa xb=some r) :
   Tr Tryz.prog 20 #[.string ⟨xa.toArray⟩,.string ⟨xb.toArray⟩] K [] (fun v K' L'=>(∃ (l1:List (List UInt8)) (ad1:Option Addr) (cp1:Nat),l1=r∧v = .slice ad1 l1.length cp1∧L'=[Row Hp.nil 9 .str (.slice ad1 l1.length cp1) l1])∧K=K'):=by
 refine Tr.k (fun E w F hs=>?_)
 unfold cH at h
 split at h
 . rename_i hlt
   cases h
   obtain ⟨m,hm⟩:=fG
   have hs1:(⟨xa.toArray⟩:ByteArray).size < 4294967281:=by simpa [ByteArray.size] using hlt.1
   have h1:1≤(⟨xb.toArray⟩:ByteArray).size:=by simpa [ByteArray.size] using hlt.2
   have hlen:=Lib.splitB_all ⟨xb.toArray⟩ h1 0 _ ⟨xa.toArray⟩ rfl
   have hle:=Lib.countB_le ⟨xb.toArray⟩ h1 _ ⟨xa.toArray⟩ (Nat.le_refl _)
   refine (Tryz.strings_Split ⟨xa.toArray⟩ ⟨xb.toArray⟩ m w hs1 (db hs.sub hm) h1).mono ?_
   rintro e w' ⟨rfl,rfl⟩
   refine ⟨_,K,_,rfl,⟨_,_,_,rfl,by rw [List.length_map,hlen],rfl⟩,Hp.le_refl K,?_⟩
   refine (Sep.alloc hs _ _).mono (fun h0 ha=>?_)
   obtain rfl:h0=_:=ha
   have hl2:((Lib.splitB ⟨xb.toArray⟩ 0 (Lib.countB ⟨xa.toArray⟩ ⟨xb.toArray⟩) ⟨xa.toArray⟩).map (·.data.toList)).length=Lib.countB ⟨xa.toArray⟩ ⟨xb.toArray⟩ + 1:=by rw [List.length_map,hlen]
   refine ⟨_,rA _,by simp [Tp.size],.inr ⟨w.heap.size,_,_,by rw [hl2],rfl,by omega,?_,by simp [Tp.size,hlen],by simp only [Tp.size,Nat.mul_one,List.length_map]; exact List.take_of_length_le (by simp)⟩⟩
   have:=hs1
   unfold maxLen
   omega
 . cases h
def cV (xs:List (List UInt8)) (sep:List UInt8):Option (List UInt8):=if (Lib.join xs sep).length≤140737488355328∧xs.length≤140737488355328 then some (Lib.join xs sep) else none
theorem pQ {K:Hp}:∀ {xs:List (List UInt8)} {cs:List Value},Els K .str cs xs→cs=xs.map fun x=>Value.string ⟨x.toArray⟩
 | [],cs,h=>h
 | x :: xs,cs,h=>by
   obtain ⟨es,r,rfl,h1,h2⟩:=h
   simp only [Is] at h1
   subst h1
   rw [pQ h2]; rfl
theorem um {K:Hp} {xa:List (List UInt8)} {xb:List UInt8} {ad:Option Addr} {cp:Nat} (fa:Is K (.sl .str) [.slice ad xa.length cp] xa) {r:List UInt8} (h:cV xa xb=some r) :
   Tr Tryz.prog 26 #[.slice ad xa.length cp,.string ⟨xb.toArray⟩] K [] (fun v K' L'=>(∃ s1:List UInt8,s1=r∧v = .string ⟨s1.toArray⟩∧L'=[])∧K=K'):=by
 refine Tr.k (fun E w F hs=>?_)
 unfold cV at h
 split at h
 . rename_i hlt
   cases h
   by_cases hx:xa=[]
   . subst hx
     refine (Tryz.strings_Join_none ad cp ⟨xb.toArray⟩ w).mono ?_
     rintro e w' ⟨rfl,rfl⟩
     exact ⟨_,K,[],rfl,⟨[],rfl,rfl,rfl⟩,Hp.le_refl K,hs⟩
   . have fa':=fa
     simp only [Is] at fa
     obtain ⟨ad',cp',e0,a1,a2,a3⟩:=fa
     simp only [List.cons.injEq,Value.slice.injEq,and_true] at e0
     obtain ⟨rfl,_,rfl⟩:=e0
     obtain ⟨b,o,rfl,a4⟩:=a3 hx
     obtain ⟨cs,c1,c2,c3⟩:=fa'.cells (by decide)
     obtain rfl:=pQ c1
     have hc:∀ (j:Nat) x,(xa.map fun x=>(⟨x.toArray⟩:ByteArray))[j]? = some x→w.cell? ⟨b,o + j,none⟩=some (.string x):=fun j x hj=>by
       have:=c3 w hs.sub j (.string x) (by rw [List.getElem?_map] at hj ⊢; cases hq:xa[j]? with
         | none=>rw [hq] at hj; simp at hj
         | some q=>rw [hq] at hj; simp at hj ⊢; exact hj)
       rwa [aS] at this
     have hb:b < w.heap.size:=by
       cases xa with
       | nil=>exact absurd rfl hx
       | cons q xs =>
         have:=hc 0 _ rfl
         unfold World.cell? at this
         simp only at this
         split at this
         . rename_i e; exact lt_of_block e
         . cases this
     have hm:(xa.map fun x=>(⟨x.toArray⟩:ByteArray)).map (·.data.toList)=xa:=by simp [Function.comp_def]
     have hl:(xa.map fun x=>(⟨x.toArray⟩:ByteArray)).length=xa.length:=by simp
     have:=Tryz.strings_Join b o cp (xa.map fun x=>(⟨x.toArray⟩:ByteArray)) ⟨xb.toArray⟩ w hc hb (by rw [hl]; exact hlt.2) (by rw [hl]; exact a1) (by rw [hm]; exact hlt.1)
     rw [hl,hm] at this
     refine this.mono ?_
     rintro e w' ⟨rfl,hbl⟩
     exact ⟨_,K,[],rfl,⟨_,rfl,rfl,rfl⟩,Hp.le_refl K,hs.ofBelow hbl⟩
 . cases h
set_option linter.unusedSectionVars false
section
theorem Gk.monoC {K K':Hp} (h:K.cle K') (g:Gk K):Gk K':=let ⟨m,e⟩:=g; ⟨m,h _ _ _ e⟩
variable [BldA]
def oa:Spec:=⟨85,⟨[(0,.dat .str),(1,.dat .str)],[]⟩,[⟨[(0,.tup [.dat .str,.dat .str,.dat .bool])],[]⟩],fun x=>jE x.1 x.2⟩
theorem xW (hg:∀ K,BldA.gk K→Gk K):cB Tryz.prog oa:=by
 intro x r hr vs u hu m K args hgk hm hH hsl E w F hs
 have hu':oa.inn.un (TL.list _ x) 0=some ([(0,.str x.1),(1,.str x.2)],⟨[],0,[],[]⟩):=rfl
 rw [hu'] at hu
 cases hu
 obtain ⟨v,q,rfl,h1,v2,q2,rfl,h2,rfl⟩:=hsl
 obtain rfl:v = .string ⟨List.toArray (α:=UInt8) x.1⟩:=h1
 obtain rfl:v2 = .string ⟨List.toArray (α:=UInt8) x.2⟩:=h2
 refine (uu (K:=K) (hg K hgk) hr E w F hs).mono ?_
 rintro e w' ⟨v,K',L',rfl,⟨⟨s1,s2,t3,rfl,rfl,rfl⟩,rfl⟩,h1,h2⟩
 exact ⟨_,K,[],rfl,⟨[(0,.tup [.str s1,.str s2,.bool t3])],⟨[],0,[],[]⟩,m,rfl,List.prefix_rfl,hm,fun a h=>(by cases h),⟨_,rfl,_,_,rfl,rfl,_,_,rfl,rfl,_,_,rfl,rfl,rfl⟩,rfl⟩,h1,h2⟩
def nE:Spec:=⟨20,⟨[(0,.dat .str),(1,.dat .str)],[]⟩,[⟨[(0,.own 9 .str)],[]⟩],fun x=>cH x.1 x.2⟩
theorem vR (hg:∀ K,BldA.gk K→Gk K):cB Tryz.prog nE:=by
 intro x r hr vs u hu m K args hgk hm hH hsl E w F hs
 have hu':nE.inn.un (TL.list _ x) 0=some ([(0,.str x.1),(1,.str x.2)],⟨[],0,[],[]⟩):=rfl
 rw [hu'] at hu
 cases hu
 replace hm:m.length=0:=hm
 obtain ⟨v,q,rfl,h1,v2,q2,rfl,h2,rfl⟩:=hsl
 obtain rfl:v = .string ⟨List.toArray (α:=UInt8) x.1⟩:=h1
 obtain rfl:v2 = .string ⟨List.toArray (α:=UInt8) x.2⟩:=h2
 refine (uj (K:=K) (hg K hgk) hr E w F hs).mono ?_
 rintro e w' ⟨v,K',L',rfl,⟨⟨l,ad1,cp1,rfl,rfl,rfl⟩,rfl⟩,h1,h2⟩
 have h2:Sep E K (Row Hp.nil 9 .str (.slice ad1 (List.length (α:=List UInt8) l) cp1) l :: F) w':=h2
 obtain ⟨ad',cap',e1,g2,g3,g4⟩:=h2.fact (fun h k=>Row.form h k)
 cases e1
 obtain ⟨h0,⟨cs,hE,hR⟩,hd,hs2⟩:=h2
 have g5:Els K .str cs l:=Els.flat rfl hE
 have g6:Sep E K (Rw 9 1 (.slice ad1 (List.length (α:=List UInt8) l) cp1) (List.length (α:=List UInt8) l) cs :: F) w':=⟨h0,hR,hd,hs2⟩
 have hm0:(m++[M.val (.slice ad1 (List.length (α:=List UInt8) l) cp1),M.cont .str l cs])[0]? = some (.val (.slice ad1 (List.length (α:=List UInt8) l) cp1)):=by
   rw [List.getElem?_append_right (by omega),hm]; rfl
 have hm1:(m++[M.val (.slice ad1 (List.length (α:=List UInt8) l) cp1),M.cont .str l cs])[1]? = some (.cont .str l cs):=by
   rw [List.getElem?_append_right (by omega),hm]; rfl
 refine ⟨_,K,_,rfl,⟨[(0,.own 0)],⟨[],2,[.row 0 1 9 .str l (List.length (α:=List UInt8) l)],[0]⟩,m++[M.val (.slice ad1 (List.length (α:=List UInt8) l) cp1),M.cont .str l cs],rfl,List.prefix_append _ _,by simp [hm],?_,⟨hm0,rfl⟩,rfl⟩,h1,?_⟩
 . intro a ha
   obtain rfl:=List.mem_singleton.1 ha
   exact ⟨ad1,cp1,cs,hm0,hm1,g5,rfl,g2,g3,g4⟩
 . show Sep E K (HA.conc _ (.row 0 1 9 .str l (List.length (α:=List UInt8) l)) :: F) w'
   simp only [HA.conc,hm0,hm1]
   exact g6
def il (s sub:List UInt8):Option Int:=if s.length < 4294967281 then some (Lib.index s sub) else none
theorem ui {K:Hp} {xa xb:List UInt8} (fG:Gk K) {r:Int} (h:il xa xb=some r) :
   Tr Tryz.prog 89 #[.string ⟨xa.toArray⟩,.string ⟨xb.toArray⟩] K [] (fun v K' L'=>(∃ i1:Int,i1=r∧v = .int .i64 i1∧L'=[])∧K=K'):=by
 refine Tr.k (fun E w F hs=>?_)
 unfold il at h
 split at h
 . rename_i hlt
   cases h
   obtain ⟨m,hm⟩:=fG
   refine (Tryz.strings_Index ⟨xa.toArray⟩ ⟨xb.toArray⟩ m w (by simpa [ByteArray.size] using hlt) (db hs.sub hm)).mono ?_
   rintro e w' ⟨rfl,rfl⟩
   exact ⟨_,K,_,rfl,⟨_,rfl,rfl,rfl⟩,Hp.le_refl K,hs⟩
 . cases h
def nv:Spec:=⟨89,⟨[(0,.dat .str),(1,.dat .str)],[]⟩,[⟨[(0,.dat (.int .i64))],[]⟩],fun x=>il x.1 x.2⟩
theorem wT (hg:∀ K,BldA.gk K→Gk K):cB Tryz.prog nv:=by
 intro x r hr vs u hu m K args hgk hm hH hsl E w F hs
 have hu':nv.inn.un (TL.list _ x) 0=some ([(0,.str x.1),(1,.str x.2)],⟨[],0,[],[]⟩):=rfl
 rw [hu'] at hu
 cases hu
 obtain ⟨v,q,rfl,h1,v2,q2,rfl,h2,rfl⟩:=hsl
 obtain rfl:v = .string ⟨List.toArray (α:=UInt8) x.1⟩:=h1
 obtain rfl:v2 = .string ⟨List.toArray (α:=UInt8) x.2⟩:=h2
 refine (ui (K:=K) (hg K hgk) hr E w F hs).mono ?_
 rintro e w' ⟨v,K',L',rfl,⟨⟨i1,rfl,rfl,rfl⟩,rfl⟩,h1,h2⟩
 exact ⟨_,K,[],rfl,⟨[(0,.int .i64 i1)],⟨[],0,[],[]⟩,m,rfl,List.prefix_rfl,hm,fun a h=>(by cases h),rfl,rfl⟩,h1,h2⟩
end
section
section
variable {E:En} {K K0:Hp} {L:List ab} {w:World}
theorem Sep.arr {b:Nat} {e:TypeId} {t:Tp} {m:Nat} {cs:List Value} {xs:List t.den} (he:Els Hp.nil t cs xs) (hl:xs.length=m) (hm:Nat.ble m 1048576=true) (hs:Sep E K (Cl b e cs :: L) w):Sep E K (Row Hp.nil e t (.slice (some ⟨b,0,none⟩) m m) xs :: L) w:=by
 have hm:=Nat.le_of_ble_eq_true hm
 subst hl
 refine hs.mono (fun h ha=>?_)
 obtain rfl:h=_:=ha
 exact ⟨cs,he,he.len,.inr ⟨b,xs.length,cs.toArray,rfl,rfl,Nat.le_refl _,by unfold maxLen; omega,by rw [List.size_toArray]; exact he.len,by simp [← he.len]⟩⟩
end
section
variable {P:Program} {K0:Hp}
theorem V.subA {tx e:TypeId} {tp:Tp} {b m:Nat} {s z:List tp.den} {l h:Int} (ht:P.underlying tx=some (.array m e)) (hz:(P.info? e).map (·.size)=some tp.size) (hl:s.length=m) (hs:Is K0 (.sl tp) [.slice (some ⟨b,0,none⟩) m m] s) (hy:subL s l h=some z) :
   ∃ ad' cp',(∀ {n:Nat} {C:World→Prop} {ρ:Sl0} {d:Option Nat} {t:TypeId} {pos:String} {af:Array Edge} {g:Option (Nat×Bool)} {x:Operand} {lo hi:Option Operand},ev n ρ x = .pointer (some ⟨b,0,none⟩)→(∀ q,lo=some q→∃ k,ev n ρ q = .int k l)→(lo=none→l=0)→(∀ q,hi=some q→∃ k,ev n ρ q = .int k h)→(hi=none→h=(m:Nat)) →
     Val P n C ρ ⟨d,.slice tx x lo hi none,t,pos,af,g⟩ (.slice ad' z.length cp'))∧Is K0 (.sl tp) [.slice ad' z.length cp'] z:=by
 subst hl
 obtain ⟨a1,a2,a3,rfl⟩:=fA hy
 obtain ⟨l,rfl⟩:=Int.eq_ofNat_of_zero_le a1
 obtain ⟨h,rfl⟩:=Int.eq_ofNat_of_zero_le (show 0≤h by omega)
 have b1:l≤h:=by omega
 have b2:h≤s.length:=by omega
 simp only [Int.toNat_natCast]
 have hlen:((s.take h).drop l).length=h - l:=by rw [List.length_drop,List.length_take]; omega
 refine ⟨some (if s.length=l then ⟨b,0,none⟩ else ⟨b,0 + l * tp.size,none⟩),s.length - l,?_,by rw [hlen]; exact hs.part l h b1 b2⟩
 intro n C ρ d t pos af g x lo hi hx hl hl0 hh hh0 w _
 rw [hlen]
 cases hi':P.info? e with
 | none=>rw [hi'] at hz; simp at hz
 | some i' =>
   rw [hi'] at hz
   simp at hz
   cases lo with
   | none =>
     have:=hl0 rfl
     obtain rfl:l=0:=by omega
     cases hi with
     | none =>
       have:=hh0 rfl
       obtain rfl:h=s.length:=by omega
       simp [execOp,hx,Instr.sliceAt,run_underlying ht,Instr.sureAddr,Instr.sliceBounds,sizeOf,typeInfo,hi',hz,aS]
     | some q =>
       obtain ⟨k,hq⟩:=hh q rfl
       simp [execOp,hx,hq,Instr.sliceAt,run_underlying ht,Instr.sureAddr,Instr.sliceBounds,Instr.sliceBound,asIntOf,b2,sizeOf,typeInfo,hi',hz,aS]
       try (by_cases q:s.length=0 <;> simp [q])
   | some ql =>
     obtain ⟨k1,hq1⟩:=hl ql rfl
     cases hi with
     | none =>
       have:=hh0 rfl
       obtain rfl:h=s.length:=by omega
       simp [execOp,hx,hq1,Instr.sliceAt,run_underlying ht,Instr.sureAddr,Instr.sliceBounds,Instr.sliceBound,asIntOf,b1,sizeOf,typeInfo,hi',hz,aS]
       try (by_cases q:s.length=l <;> simp [q])
     | some q =>
       obtain ⟨k,hq⟩:=hh q rfl
       simp [execOp,hx,hq,hq1,Instr.sliceAt,run_underlying ht,Instr.sureAddr,Instr.sliceBounds,Instr.sliceBound,asIntOf,b1,b2,sizeOf,typeInfo,hi',hz,aS]
       try (by_cases q:s.length=l <;> simp [q])
theorem yn {α:Type} {xs:List α} {i:Int} {m:Nat} (h:i < (xs.length:Nat)) (hl:xs.length=m):i < (m:Nat):=by subst hl; exact h
end
end
set_option maxRecDepth 20000
section
theorem yA:Inf Tryz.prog 141 (.agg #[.int .u8 0,.int .u8 0,.int .u8 0,.int .u8 0,.int .u8 0,.int .u8 0,.int .u8 0,.int .u8 0,.int .u8 0,.int .u8 0,.int .u8 0,.int .u8 0,.int .u8 0,.int .u8 0,.int .u8 0,.int .u8 0,.int .u8 0,.int .u8 0,.int .u8 0,.int .u8 0]) 20 20:=by unfold Inf; kernel_rfl
theorem sz5:(Tryz.prog.info? 5).map (·.size)=some 1:=by kernel_rfl
def iz  : (Int×(List Int)×Int)→Option ((Int×(List Int)×Int)⊕List UInt8):=fun ((i262,l263,i266):(Int×(List Int)×Int))=>(aa l263 (IntKind.wrap .i64 (i266 - 1))).bind fun x295=>(some (l263.set (IntKind.wrap .i64 (i266 - 1)).toNat (IntKind.wrap .u8 (IntKind.wrap .i64 (48 + (Int.tmod i262 10)))))).bind fun z300=>cond (decide ((IntKind.wrap .i64 (Int.tdiv i262 10))=0)) ((subL z300 (IntKind.wrap .i64 (i266 - 1)) (((20:Nat):Int))).bind fun y308=>some (.inr (bL y308))) (some (.inl ((IntKind.wrap .i64 (Int.tdiv i262 10),z300,IntKind.wrap .i64 (i266 - 1)))))
def c9 (xa:Int):Option (List UInt8) :=
  cond (decide (xa < 0)) (some (([]:List UInt8))) (loop (iz) ((xa,([0,0,0,0,0,0,0,0,0,0,0,0,0,0,0,0,0,0,0,0]:List Int),20)))
set_option maxRecDepth 100000 in
set_option maxHeartbeats 4000000 in
theorem uq {K:Hp} {xa:Int}   {r:List UInt8} (h:c9 xa=some r) :
    Tr Tryz.prog 48 #[ii xa] K [] (fun v K' L'=>(∃ (s157:List UInt8),s157=r ∧ .string ⟨s157.toArray⟩=v∧L'=[])∧K=K'):=by
 refine Tr.k <| Tr.of Tryz.func48 rfl Tryz.ntmps48 rfl fun E F=>?_
 unfold c9 at h
 refine cr <| ja (.string ⟨([]:List UInt8).toArray⟩) rfl <| J.nil <| CJ.seq <| CJ.seq <| CJ.region ?_
 refine jm (ii xa) rfl <| jv (.bool (decide (xa < 0))) (V.lss rfl rfl) <| J.nil <| cc rfl h (fun hc158 h=>?_) fun hc158 h=>?_
 . refine cr <| ja (.string ⟨([]:List UInt8).toArray⟩) rfl <| J.nil <| CJ.ret ?_
   obtain rfl:=si h
   exact ⟨_,_,Res.one rfl rfl,⟨([]:List UInt8),rfl,rfl,rfl⟩,(Hp.le_refl _),fun w hs=>hs⟩
 refine CJ.skip <| cr <| jal yA [.int .u8 0,.int .u8 0,.int .u8 0,.int .u8 0,.int .u8 0,.int .u8 0,.int .u8 0,.int .u8 0,.int .u8 0,.int .u8 0,.int .u8 0,.int .u8 0,.int .u8 0,.int .u8 0,.int .u8 0,.int .u8 0,.int .u8 0,.int .u8 0,.int .u8 0,.int .u8 0] rfl fun b159=>?_
 have hl160:([0,0,0,0,0,0,0,0,0,0,0,0,0,0,0,0,0,0,0,0]:List Int).length=20:=rfl
 refine J.by (fun w hs=>Sep.arr (t:=(.int .u8)) (xs:=([0,0,0,0,0,0,0,0,0,0,0,0,0,0,0,0,0,0,0,0]:List Int)) ⟨_,_,rfl,rfl,⟨_,_,rfl,rfl,⟨_,_,rfl,rfl,⟨_,_,rfl,rfl,⟨_,_,rfl,rfl,⟨_,_,rfl,rfl,⟨_,_,rfl,rfl,⟨_,_,rfl,rfl,⟨_,_,rfl,rfl,⟨_,_,rfl,rfl,⟨_,_,rfl,rfl,⟨_,_,rfl,rfl,⟨_,_,rfl,rfl,⟨_,_,rfl,rfl,⟨_,_,rfl,rfl,⟨_,_,rfl,rfl,⟨_,_,rfl,rfl,⟨_,_,rfl,rfl,⟨_,_,rfl,rfl,⟨_,_,rfl,rfl,rfl⟩⟩⟩⟩⟩⟩⟩⟩⟩⟩⟩⟩⟩⟩⟩⟩⟩⟩⟩⟩ hl160 rfl hs) <| J.nil <| cr <| ja (ii 20) rfl <| J.nil <| CJ.block ?_
 refine CJ.loop (fun s ρ K' L'=>∃ (i262:Int) (l263:(List Int)) (i266:Int),(i262,l263,i266)=s∧Fits [(0,ii i262),(3,.pointer (some ⟨b159,0,none⟩)),(4,ii i266)] ρ∧K=K'∧L'=Row Hp.nil 141 (.int .u8) (.slice (some ⟨b159,0,none⟩) 20 20) l263 :: F) h ⟨xa,([0,0,0,0,0,0,0,0,0,0,0,0,0,0,0,0,0,0,0,0]:List Int),20,rfl,⟨rfl,rfl,rfl,trivial⟩,rfl,rfl⟩ ?_
 rintro s ρ _ _ r294 ⟨i262,l263,i266,rfl,hf292,rfl,rfl⟩ h291
 obtain ⟨ρ,rfl⟩:=hf292.ex
 refine CJ.wit Row.len fun hl265=>CJ.block <| cr <| jm (ii i266) rfl <| jv (ii (IntKind.wrap .i64 (i266 - 1))) (V.sub rfl rfl) <| ja (ii (IntKind.wrap .i64 (i266 - 1))) rfl ?_
 refine J.nil <| cr <| jm (ii (IntKind.wrap .i64 (i266 - 1))) rfl <| jm (ii i262) rfl <| jv (ii (Int.tmod i262 10)) (V.rem rfl rfl (by decide)) <| jv (ii (IntKind.wrap .i64 (48 + (Int.tmod i262 10)))) (V.add rfl rfl) ?_
 refine jv (.int .u8 (IntKind.wrap .u8 (IntKind.wrap .i64 (48 + (Int.tmod i262 10))))) (V.conv Tryz.underlying3 Tryz.underlying5 rfl) ?_
 obtain ⟨x295,hx296,h291⟩:=ob h291
 obtain ⟨p297,p298,p299⟩:=dx hx296
 refine jv _ (V.iadA Tryz.underlying141 sz5 rfl rfl p297 (yn p299 hl265)) ?_
 obtain ⟨z300,hz301,h291⟩:=ob h291
 have e302:=Option.some.inj hz301
 have hl303:z300.length=20:=by rw [← e302,List.length_set]; exact hl265
 refine J.op rfl (A.storeR (ty:=(.int .u8)) (q:=0) (y0:=IntKind.wrap .u8 (IntKind.wrap .i64 (48 + (Int.tmod i262 10)))) (zs:=z300) sz5 rfl rfl rfl rfl rfl p298 (by simp [Tp.size]) (by decide) (by rintro _ rfl; exact rfl) e302) ?_
 rintro _ _ _ ⟨rfl,rfl,rfl⟩
 refine J.nil <| cr <| jm (ii i262) rfl <| jv (ii (IntKind.wrap .i64 (Int.tdiv i262 10))) (V.quo rfl rfl (by decide)) <| ja (ii (IntKind.wrap .i64 (Int.tdiv i262 10))) rfl <| J.nil ?_
 refine cr <| jm (ii (IntKind.wrap .i64 (Int.tdiv i262 10))) rfl <| jv (.bool (decide ((IntKind.wrap .i64 (Int.tdiv i262 10))=0))) (V.eql rfl rfl) <| J.nil <| cc rfl h291 (fun hc304 h291=>?_) fun hc304 h291=>?_
 . refine cr <| jm (ii (IntKind.wrap .i64 (i266 - 1))) rfl <| J.persist (Hp.nil_le _) (by decide) fun K305 hK306 f307=>?_
   obtain ⟨y308,hy309,h291⟩:=ob h291
   obtain ⟨ad310,cp311,hv312,f313⟩:=V.subA (tp:=(.int .u8)) Tryz.underlying141 sz5 hl303 f307 hy309
   refine jv (.slice ad310 y308.length cp311) (hv312 rfl (fun _ h=>by cases h; exact ⟨_,rfl⟩) nofun nofun (fun _=>rfl)) <| jv (.string ⟨(bL y308).toArray⟩) (V.b2sK Tryz.underlying103 Tryz.underlying5 Tryz.underlying9 rfl f313 (Hp.le_refl _)) <| ja (.string ⟨(bL y308).toArray⟩) rfl <| J.nil <| CJ.ret ?_
   obtain rfl:=si h291
   refine ⟨nofun,fun e=>?_⟩
   subst e
   exact ⟨_,_,Res.one rfl rfl,⟨bL y308,rfl,rfl,rfl⟩,hK306,fun w hs=>hs⟩
 refine CJ.skip ?_
 obtain rfl:=si h291
 exact ⟨rfl,⟨IntKind.wrap .i64 (Int.tdiv i262 10),z300,IntKind.wrap .i64 (i266 - 1),rfl,⟨rfl,rfl,rfl,trivial⟩,rfl,rfl⟩⟩

variable [BldA]
theorem wC {P:Program} {f:Nat} {fn:Int→Option (List UInt8)} (ok:∀ {K:Hp} {xa:Int} {r:List UInt8},fn xa=some r→Tr P f #[ii xa] K [] (fun v K' L'=>(∃ s:List UInt8,s=r ∧ .string ⟨s.toArray⟩=v∧L'=[])∧K=K')):cB P ⟨f,⟨[(0,.dat (.int .i64))],[]⟩,[⟨[(0,.dat .str)],[]⟩],fn⟩:=by
  intro x r hr vs u hu m K args hgk hm hH hsl E w F hs
  have hu':Sh.un ⟨[(0,.dat (.int .i64))],[]⟩ (TL.list [Tp.int .i64] x) 0=some ([(0,.int .i64 x)],⟨[],0,[],[]⟩):=rfl
  rw [show (Spec.inn ⟨f,⟨[(0,.dat (.int .i64))],[]⟩,[⟨[(0,.dat .str)],[]⟩],fn⟩).un (TL.list _ x) 0=_ from hu'] at hu
  cases hu
  obtain ⟨v,q,rfl,h1,rfl⟩:=hsl
  obtain rfl:v=ii x:=h1
  refine (ok (K:=K) hr E w F hs).mono ?_
  rintro e w' ⟨v,K',L',rfl,⟨⟨s,rfl,rfl,rfl⟩,rfl⟩,h1,h2⟩
  exact ⟨_,K,[],rfl,⟨[(0,.str s)],⟨[],0,[],[]⟩,m,rfl,List.prefix_rfl,hm,fun a h=>(by cases h),rfl,rfl⟩,h1,h2⟩
theorem xP {P:Program} {f:Nat} {fn:List (List UInt8)→List UInt8→Option (List UInt8)} (ok:∀ {K:Hp} {xa:List (List UInt8)} {xb:List UInt8} {ad:Option Addr} {cp:Nat} (fa:Is K (.sl .str) [.slice ad xa.length cp] xa) {r:List UInt8},fn xa xb=some r→Tr P f #[.slice ad xa.length cp,.string ⟨xb.toArray⟩] K [] (fun v K' L'=>(∃ s1:List UInt8,s1=r∧v = .string ⟨s1.toArray⟩∧L'=[])∧K=K')):cB P ⟨f,⟨[(0,.dat (.sl .str)),(1,.dat .str)],[]⟩,[⟨[(0,.dat .str)],[]⟩],fun x=>fn x.1 x.2⟩:=by
  intro x r hr vs u hu m K args hgk hm hH hsl E w F hs
  have hu':Sh.un ⟨[(0,.dat (.sl .str)),(1,.dat .str)],[]⟩ (TL.list [Tp.sl .str,Tp.str] x) 0=some ([(0,.row .str x.1 (List.length (α:=List UInt8) x.1)),(1,.str x.2)],⟨[],0,[],[]⟩):=rfl
  rw [show (Spec.inn ⟨f,⟨[(0,.dat (.sl .str)),(1,.dat .str)],[]⟩,[⟨[(0,.dat .str)],[]⟩],fun x=>fn x.1 x.2⟩).un (TL.list _ x) 0=_ from hu'] at hu
  cases hu
  obtain ⟨v,q,rfl,h1,v2,q2,rfl,h2,rfl⟩:=hsl
  obtain rfl:v2 = .string ⟨x.2.toArray⟩:=h2
  obtain ⟨fa,_⟩:=h1
  have fa0:=fa
  simp only [Is] at fa
  obtain ⟨ad,cp,e0,_⟩:=fa
  simp only [List.cons.injEq,and_true] at e0
  subst e0
  refine (ok (K:=K) fa0 hr E w F hs).mono ?_
  rintro e w' ⟨v,K',L',rfl,⟨⟨s,rfl,rfl,rfl⟩,rfl⟩,h1,h2⟩
  exact ⟨_,K,[],rfl,⟨[(0,.str s)],⟨[],0,[],[]⟩,m,rfl,List.prefix_rfl,hm,fun a h=>(by cases h),rfl,rfl⟩,h1,h2⟩
def pE:Spec:=⟨48,⟨[(0,.dat (.int .i64))],[]⟩,[⟨[(0,.dat .str)],[]⟩],c9⟩
theorem ul:cB Tryz.prog pE:=wC fun h=>uq h
def gm:OkSpec Tryz.prog:=⟨pE,ul,Tryz.call48⟩
def sa:Spec:=⟨26,⟨[(0,.dat (.sl .str)),(1,.dat .str)],[]⟩,[⟨[(0,.dat .str)],[]⟩],fun x=>cV x.1 x.2⟩
theorem xw:cB Tryz.prog sa:=xP um
def jh:OkSpec Tryz.prog:=⟨sa,xw,Tryz.call26⟩
end
set_option maxRecDepth 100000
set_option maxHeartbeats 4000000
section
open Go.RowKit _root_.Go.Proofs.Tryz
abbrev bkO (i:Nat) (o:OT):Bk:=⟨some i,0,[],false,false,some o,false⟩
abbrev bkC (i:Nat) (e:TypeId) (ks:List Kd):Bk:=⟨some i,e,ks,false,false,none,false⟩
abbrev bkN (e:TypeId) (ks:List Kd):Bk:=⟨none,e,ks,false,false,none,false⟩
abbrev bkU (i:Nat):Bk:=⟨some i,0,[],false,true,none,false⟩
abbrev bkM:Bk:=⟨none,0,[],false,true,none,false⟩
abbrev kdI (i:Nat):Nat×Kd:=(i,.dat (.int .i64))
abbrev kdB (i:Nat):Nat×Kd:=(i,.dat .bool)
abbrev Tq1:Type:=((List (Int×Int×Int×Int×Bool))×(Int×Int×Int×(List Int)×(List Int)×(List Int)))
abbrev Yq1:Tp:=(.int .i64)
abbrev Tq2:Type:=(Int×(List (Int×Int))×(List (List (Int×Bool)))×(List (Int×Bool)))
abbrev Yq2:Tp:=(.one (.sl (.cons Yq1 (.one .bool))))
abbrev Yq3:Tp:=(.cons Yq1 (.cons Yq1 (.cons Yq1 (.cons (.sl Yq1) (.cons (.sl Yq1) (.one (.sl Yq1)))))))
abbrev Tq3:Type:=(List (Int×Bool))
abbrev Yq4:Tp:=(.cons Yq1 (.cons Yq1 (.cons Yq1 (.cons Yq1 (.one .bool)))))
abbrev Tq4:Type:=(List UInt8)
abbrev Yq5:Tp:=(.cons Yq1 (.one Yq1))
abbrev Tq5:Type:=(List (Int×Int))
abbrev Tq6:Type:=(List (Int×(Int×Int×Int×Int)))
abbrev Tq7:Type:=(Int×Int×Tq5×(List Tq3)×Tq3×(List Tq2)×(List Tq1)×Int×Int×List UInt8)
abbrev Yq6:Tp:=(.cons Yq1 (.cons Yq1 (.cons (.sl Yq5) (.cons (.sl Yq2) (.cons Yq2 (.cons (.sl (.cons Yq1 (.cons (.sl Yq5) (.cons (.sl Yq2) (.one Yq2))))) (.one (.sl (.cons (.sl Yq4) (.one Yq3))))))))))
abbrev Tq8:Type:=(Int×Int×Tq5×(List Tq3)×Tq3×(List Tq2)×(List Tq1))
abbrev Yq7:Tp:=(.cons Yq1 (.one .bool))
abbrev Yq8:Tp:=(.cons Yq1 (.one (.cons Yq1 (.cons Yq1 Yq5))))
abbrev Tq9:Type:=(Int×Int×Tq5×(List Tq3)×Tq3×(List Tq2)×(List Tq1)×Int×Int)
abbrev ml:Type:=((Int×Int×Tq5×(List Tq3)×Tq3×(List Tq2)×(List Tq1)×Int×(List Tq4)×Int))
abbrev aU:Type:=(Int×Int)
abbrev fY:Type:=(Int×Int×Int×Int×Int)
abbrev pn:Type:=(Int×Int×Int×Tq5×(List Tq3)×Tq3×(List Tq2)×(List Tq1)×Int×Bool)
abbrev oV:Type:=(Int×Int×Tq5×(List Tq3)×Tq3×(List Tq2)×(List Tq1)×Tq6×Int×Int)
abbrev fe:Type:=(Int×Int×Int×Int×Bool)
abbrev ie:Type:=((List Tq4)×Int×Int)
instance nob:BldA:=⟨1000000000,fun b _=>Cl b 1000000000 [.pointer none,.slice none 0 0],fun h=>h,Gk,Gk.monoC⟩
def x8:OkSpec Tryz.prog:=⟨oa,xW (fun _ h=>h),call85⟩
def fH:OkSpec Tryz.prog:=⟨nE,vR (fun _ h=>h),call20⟩
def wl:OkSpec Tryz.prog:=⟨nv,wT (fun _ h=>h),call89⟩

def iD  : Option ((List Tq4)) :=
 some (([([99,104,101,99,107]:List UInt8),([99,111,110,115]:List UInt8),([108,105,118,101]:List UInt8),([118,97,108,117,101]:List UInt8),([119,104,121]:List UInt8),([115,117,103,103,101,115,116]:List UInt8),([116,114,105,109]:List UInt8),([101,100,105,116]:List UInt8),([112,114,111,118,101]:List UInt8),([112,114,105,110,116]:List UInt8)]:List Tq4))
def hQ0:Hn Tryz.prog := .nil
def sQ0:Spec:=⟨42,⟨[],[]⟩,[⟨[(0,.own 9 .str)],[]⟩],fun x=>iD⟩
def oQ0:OkSpec Tryz.prog:=⟨sQ0,ae func42 hQ0 (by kernel_rfl) (by kernel_rfl),call42⟩

def mC (xa:Tq4) (qa0:(List Tq4)):Option Bool :=
 (aa qa0 0).bind fun x11=>some (decide (xa=x11))
def hQ1:Hn Tryz.prog := .nil
def sQ1:Spec:=⟨43,⟨[(0,.dat .str),(1,.ptr 0 0)],[bkN 55 [.is 1 (.dat (.sl .str))],bkM]⟩,[⟨[kdB 0],[bkC 0 55 [.is 1 (.any)],bkU 1]⟩],fun x=>mC x.1 x.2⟩
def oQ1:OkSpec Tryz.prog:=⟨sQ1,ae func43 hQ1 (by kernel_rfl) (by kernel_rfl),call43⟩
def mq (xa:(List Tq4)) (qa0:(List Tq4)):Int→Option (Int⊕(Unit⊕Int)):=fun i1=>cond (decide (i1 < (xa.length:Int))) ((aa xa i1).bind fun x2=>(mC x2 qa0).bind fun t3=>cond (t3) (some (.inr ((.inr (i1))))) (some (.inl (IntKind.wrap .i64 (i1 + 1))))) (some (.inr ((.inl ()))))
def jN (xa:(List Tq4)) (qa0:(List Tq4)):Option Int :=
 (loop (mq xa qa0) 0).bind fun o=>match o with | .inr r=>some r | .inl ()=>some ((-1))
def hQ2:Hn Tryz.prog := .jx [] ⟨[],[bkC 0 55 [.is 1 (.any)],bkU 1]⟩ [0] (.lp ⟨[kdI 8],[bkC 0 55 [.is 1 (.any)],bkU 1]⟩ (.tw 9 (.cl oQ1 [] (.tw 16 .nil .nil)) .nil)) .nil
def sQ2:Spec:=⟨21,⟨[(0,.dat (.sl .str)),(1,.fn 43 [.ptr 0 0])],[bkN 55 [.is 1 (.dat (.sl .str))],bkM]⟩,[⟨[kdI 0],[bkC 0 55 [.is 1 (.any)],bkU 1]⟩],fun x=>jN x.1 x.2⟩
def oQ2:OkSpec Tryz.prog:=⟨sQ2,ae func21 hQ2 (by kernel_rfl) (by kernel_rfl),call21⟩

def ko (xa:Int):Option Int :=
 cond (decide (xa=2)) (some (2)) (cond (decide (xa=3)) (some (2)) (cond (decide (xa=4)) (some (2)) (cond (decide (xa=7)) (some (5)) (some (1)))))
def hQ3:Hn Tryz.prog := .two 4 .nil (.two 4 .nil (.tw 4 .nil (.tw 8 .nil .nil)))
def sQ3:Spec:=⟨44,⟨[kdI 0],[]⟩,[⟨[kdI 0],[]⟩],fun x=>ko x⟩
def oQ3:OkSpec Tryz.prog:=⟨sQ3,ae func44 hQ3 (by kernel_rfl) (by kernel_rfl),call44⟩
def px (xa:Tq4):Int→Option (Int⊕(Unit⊕Bool)):=fun i1=>cond (decide (i1 < (xa.length:Int))) ((aa xa i1).bind fun x2=>(cond (decide ((((x2.toNat:Nat):Int)) < 48)) (some (true)) ((aa xa i1).bind fun x3=>some (decide (57 < (((x3.toNat:Nat):Int)))))).bind fun t4=>cond (t4) (some (.inr ((.inr (false))))) (some (.inl (IntKind.wrap .i64 (i1 + 1))))) (some (.inr ((.inl ()))))
def j7 (xa:Tq4):Option Bool :=
 (cond (decide (xa=([]:List UInt8))) (some (true)) ((cond (decide (1 < (xa.length:Int))) ((aa xa 0).bind fun x1=>some (decide ((((x1.toNat:Nat):Int))=48))) (some (false))).bind fun t2=>some (t2))).bind fun t3=>cond (t3) (some (false)) ((loop (px xa) 0).bind fun o=>match o with | .inr r=>some r | .inl ()=>some (true))
def hQ4:Hn Tryz.prog := .gj 8 ⟨[kdB 15],[]⟩ [] (.two 6 .nil (.wt 10 (.gj 3 ⟨[kdB 14],[]⟩ [] (.two 10 .nil .nil) .nil))) (.tw 15 .nil (.jx [] ⟨[],[]⟩ [] (.lp ⟨[kdI 3],[]⟩ (.tw 19 (.gj 4 ⟨[kdB 31],[]⟩ [] (.two 26 .nil .nil) (.tw 31 .nil .nil)) .nil)) .nil))
def sQ4:Spec:=⟨113,⟨[(0,.dat .str)],[]⟩,[⟨[kdB 0],[]⟩],fun x=>j7 x⟩
def oQ4:OkSpec Tryz.prog:=⟨sQ4,ae func113 hQ4 (by kernel_rfl) (by kernel_rfl),call113⟩
def dP (xa:Tq4) (xb:Int):aU→Option (aU⊕(Int⊕aU)):=fun (i1,i2)=>cond (decide (i2 < (xa.length:Int))) ((aa xa i2).bind fun x3=>cond ((decide (xb < (IntKind.wrap .i64 (IntKind.wrap .u8 ((((x3.toNat:Nat):Int)) - 48)))))||(decide ((IntKind.wrap .i64 (Int.tdiv (IntKind.wrap .i64 (xb - (IntKind.wrap .i64 (IntKind.wrap .u8 ((((x3.toNat:Nat):Int)) - 48))))) 10)) < i1))) (some (.inr ((.inr ((0,5)))))) (some (.inl ((IntKind.wrap .i64 ((IntKind.wrap .i64 (i1 * 10)) + (IntKind.wrap .i64 (IntKind.wrap .u8 ((((x3.toNat:Nat):Int)) - 48)))),IntKind.wrap .i64 (i2 + 1)))))) (some (.inr (.inl i1)))
def dQ (xa:Tq4) (xb:Int):Option aU :=
 (j7 xa).bind fun t88=>cond (!t88) (some ((0,3))) ((loop (dP xa xb) (0,0)).bind fun o=>match o with | .inr r=>some r | .inl i1=>some ((i1,0)))
def hQ5:Hn Tryz.prog := .cl oQ4 [] (.tw 11 .nil (.jx [] ⟨[kdI 6],[]⟩ [] (.lp ⟨[kdI 6,kdI 7],[]⟩ (.tw 15 (.gp 6 (.tw 33 .nil .nil)) .nil)) .nil))
def sQ5:Spec:=⟨84,⟨[(0,.dat .str),kdI 1],[]⟩,[⟨[(0,.tup [.dat Yq1,.dat Yq1])],[]⟩],fun x=>dQ x.1 x.2⟩
def oQ5:OkSpec Tryz.prog:=⟨sQ5,ae func84 hQ5 (by kernel_rfl) (by kernel_rfl),call84⟩

def co (xa:Tq4):Option aU :=
 (dQ xa 1048576).bind fun (i13,i14)=>some ((i13,i14))
def hQ6:Hn Tryz.prog := .cl oQ5 [] .nil
def sQ6:Spec:=⟨45,⟨[(0,.dat .str)],[]⟩,[⟨[(0,.tup [.dat Yq1,.dat Yq1])],[]⟩],fun x=>co x⟩
def oQ6:OkSpec Tryz.prog:=⟨sQ6,ae func45 hQ6 (by kernel_rfl) (by kernel_rfl),call45⟩

def fq (xa:Tq4) (xb:Int):Option (Int×Int×Int) :=
 (jE xa ([58]:List UInt8)).bind fun (s33,s34,t35)=>cond (!t35) (some ((0,0,3))) ((dQ s33 xb).bind fun (i42,i43)=>cond (!decide (i43=0)) (some ((0,0,i43))) ((dQ s34 xb).bind fun (i50,i51)=>cond (!decide (i51=0)) (some ((0,0,i51))) (some ((i42,i50,0)))))
def hQ7:Hn Tryz.prog := .cl x8 [] (.tw 19 .nil (.cl oQ5 [] (.tw 28 .nil (.cl oQ5 [] (.tw 38 .nil .nil)))))
def sQ7:Spec:=⟨46,⟨[(0,.dat .str),kdI 1],[]⟩,[⟨[(0,.tup [.agg [.dat Yq1,.dat Yq1],.dat Yq1])],[]⟩],fun x=>fq x.1 x.2⟩
def oQ7:OkSpec Tryz.prog:=⟨sQ7,ae func46 hQ7 (by kernel_rfl) (by kernel_rfl),call46⟩

def iQ (xa:Int):Option Tq4 :=
 cond (decide (xa=1)) (some (([98,108,97,110,107]:List UInt8))) (cond (decide (xa=2)) (some (([100,114,111,112]:List UInt8))) (cond (decide (xa=3)) (some (([116,119,105,99,101]:List UInt8))) (cond (decide (xa=4)) (some (([115,119,97,112]:List UInt8))) (cond (decide (xa=5)) (some (([114,101,103,105,111,110]:List UInt8))) (cond (decide (xa=6)) (some (([108,111,110,101]:List UInt8))) (cond (decide (xa=7)) (some (([100,101,99,108,97,114,101]:List UInt8))) (cond (decide (xa=8)) (some (([117,110,100,101,99,108,97,114,101]:List UInt8))) (some (([63]:List UInt8))))))))))
def hQ8:Hn Tryz.prog := .tw 4 .nil (.tw 6 .nil (.tw 8 .nil (.tw 10 .nil (.tw 12 .nil (.tw 14 .nil (.tw 16 .nil (.tw 18 .nil .nil)))))))
def sQ8:Spec:=⟨50,⟨[kdI 0],[]⟩,[⟨[(0,.dat .str)],[]⟩],fun x=>iQ x⟩
def oQ8:OkSpec Tryz.prog:=⟨sQ8,ae func50 hQ8 (by kernel_rfl) (by kernel_rfl),call50⟩
def iF (xa:Tq4):Int→Option (Int⊕(Unit⊕(Int×Bool))):=fun i96=>cond (decide (i96≤8)) ((iQ i96).bind fun s1=>cond (decide (s1=xa)) (some (.inr ((.inr ((i96,true)))))) (some (.inl (IntKind.wrap .i64 (i96 + 1))))) (some (.inr ((.inl ()))))
def kz (xa:Tq4):Option (Int×Bool) :=
 (loop (iF xa) 1).bind fun o=>match o with | .inr r=>some r | .inl ()=>some ((0,false))
def hQ9:Hn Tryz.prog := .jx [] ⟨[],[]⟩ [] (.lp ⟨[kdI 4],[]⟩ (.tw 6 (.cl oQ8 [] (.tw 12 .nil .nil)) .nil)) .nil
def sQ9:Spec:=⟨86,⟨[(0,.dat .str)],[]⟩,[⟨[(0,.tup [.dat Yq1,.dat .bool])],[]⟩],fun x=>kz x⟩
def oQ9:OkSpec Tryz.prog:=⟨sQ9,ae func86 hQ9 (by kernel_rfl) (by kernel_rfl),call86⟩
def pA (y1:List Tq4):fY→Option (fY⊕((Int×Int×Int×Int)⊕fY)):=fun (i2,i3,i4,i5,i6)=>cond (decide (i2 < (y1.length:Int))) ((aa y1 i2).bind fun x7=>(co x7).bind fun (i9,i10)=>cond (!decide (i10=0)) (some (.inr ((.inr ((i3,i4,i5,i6,i10)))))) (cond (decide (IntKind.wrap .i64 (i2 + 1)=((0:Nat):Int))) (some (.inl ((IntKind.wrap .i64 (i2 + 1),i9,i4,i5,i6)))) (cond (decide (IntKind.wrap .i64 (i2 + 1)=((1:Nat):Int))) (some (.inl ((IntKind.wrap .i64 (i2 + 1),i3,i9,i5,i6)))) (cond (decide (IntKind.wrap .i64 (i2 + 1)=((2:Nat):Int))) (some (.inl ((IntKind.wrap .i64 (i2 + 1),i3,i4,i9,i6)))) (cond (decide (IntKind.wrap .i64 (i2 + 1)=((3:Nat):Int))) (some (.inl ((IntKind.wrap .i64 (i2 + 1),i3,i4,i5,i9)))) (none)))))) (some (.inr ((.inl (i3,i4,i5,i6)))))
def gg (xa:(List Tq4)):Option fY :=
 (aa xa 0).bind fun x1=>(kz x1).bind fun (i2,t3)=>cond (!t3) (some ((0,0,0,0,3))) ((subL xa 1 (xa.length:Int)).bind fun y4=>(loop (pA y4) (0,i2,0,0,0)).bind fun o=>match o with | .inr r=>some r | .inl (i5,i6,i7,i9)=>some ((i5,i6,i7,i9,0)))
def Ae:Hn Tryz.prog := .cl oQ9 [] (.tw 19 .nil (.jx [] ⟨[],[bkC 0 50 [.lit (.int .i64 0),.lit (.int .i64 0),.lit (.int .i64 0),.lit (.int .i64 0)],bkC 2 50 [.dat Yq1,.dat Yq1,.dat Yq1,.dat Yq1]]⟩ [2,0] (.lp ⟨[kdI 26],[bkC 0 50 [.lit (.int .i64 0),.lit (.int .i64 0),.lit (.int .i64 0),.lit (.int .i64 0)],bkC 2 50 [.dat Yq1,.dat Yq1,.dat Yq1,.dat Yq1]]⟩ (.tw 27 (.cl oQ6 [] (.tw 37 .nil .nil)) .nil)) .nil))
def zi:Spec:=⟨47,⟨[(0,.dat (.sl .str))],[]⟩,[⟨[(0,.tup [.agg [.dat Yq1,.dat Yq1,.dat Yq1,.dat Yq1],.dat Yq1])],[]⟩],fun x=>gg x⟩
def Aa:OkSpec Tryz.prog:=⟨zi,ae func47 Ae (by kernel_rfl) (by kernel_rfl),call47⟩

def ge (xa:(List Tq4)):Option (Int×Int×Int×Int×Int×Int) :=
 cond (decide ((xa.length:Int)=0)) (some ((0,0,0,0,0,3))) ((iD).bind fun l1=>(jN l1 xa).bind fun i2=>cond (decide (i2 < 0)) (some ((0,0,0,0,0,3))) ((ko i2).bind fun i3=>cond (!decide ((xa.length:Int)=i3)) (some ((0,0,0,0,0,3))) (((cond (decide (i2=2)) (some (decide (i2=2))) (some (decide (i2=3))):Option Bool).bind fun t4=>cond (t4) ((aa xa 1).bind fun x5=>(co x5).bind fun (i6,i7)=>some ((i7,i6,0,0,0))) (cond (decide (i2=4)) ((aa xa 1).bind fun x9=>(fq x9 1048576).bind fun (i10,i11,i12)=>some ((i12,i10,i11,0,0))) (cond (decide (i2=7)) ((subL xa 1 (xa.length:Int)).bind fun y13=>(gg y13).bind fun (i14,i15,i16,i17,i18)=>some ((i18,i14,i15,i16,i17))) (some ((0,0,0,0,0))))):Option fY).bind fun (i19,i20,i21,i22,i23)=>cond (!decide (i19=0)) (some ((0,0,0,0,0,i19))) (some ((i2,i20,i21,i22,i23,0))))))
def BW:Hn Tryz.prog := .tw 9 .nil (.cl oQ0 [] (.wt 1000006 (.mc 0 0 1 (.cl oQ2 [4] (.mix [([0,1,2,3,4,5,6,7],8)] [9,10] [] [] (.two 18 .nil (.cl oQ3 [] (.tw 25 .nil (.pl (.sq [(9,0)] ⟨[kdI 5],[bkC 9 59 [.is 1 (.any),.dat Yq1,.dat Yq1,.dat Yq1,.dat Yq1],bkU 12]⟩ [9] (.pl (.sq [] ⟨[kdB 29],[]⟩ [] (.tw 29 .nil .nil) (.tw 29 (.cl oQ6 [] .nil) (.tw 41 (.cl oQ7 [] (.mix [([0,1,2,3,4,5,7],6)] [8] [9] [9] .nil)) (.tw 58 (.cl Aa [] .nil) .nil))))) (.tw 68 .nil .nil)))))))))))
def Bz:Spec:=⟨18,⟨[(0,.dat (.sl .str))],[]⟩,[⟨[(0,.tup [.agg [.dat Yq1,.dat Yq1,.dat Yq1,.dat Yq1,.dat Yq1],.dat Yq1])],[]⟩],fun x=>ge x⟩
def oZ:OkSpec Tryz.prog:=⟨Bz,ae func18 BW (by kernel_rfl) (by kernel_rfl),call18⟩

def kl (xa:aU):Option Tq4 :=
 cond ((decide (xa.1 < 0))||(decide (xa.2 < 0))) (some (([]:List UInt8))) ((c9 xa.1).bind fun s1=>(app s1 ([58]:List UInt8)).bind fun z2=>(c9 xa.2).bind fun s3=>(app z2 s3).bind fun z4=>some (z4))
def zE:Hn Tryz.prog := .gp 3 (.tw 10 .nil (.mix [([0,1,4,5],2),([3],6)] [7,8] [] [] (.cl gm [] (.cl gm [] .nil))))
def zu:Spec:=⟨49,⟨[(0,.dat Yq5)],[]⟩,[⟨[(0,.dat .str)],[]⟩],fun x=>kl x⟩
def zg:OkSpec Tryz.prog:=⟨zu,ae func49 zE (by kernel_rfl) (by kernel_rfl),call49⟩

def kr (xa:(Int×(Int×Int×Int×Int))):Option Tq4 :=
 (iD).bind fun l1=>cond ((decide (xa.1 < 0))||(decide ((l1.length:Int)≤xa.1))) (some (([63]:List UInt8))) ((aa l1 xa.1).bind fun x2=>(cond (decide (xa.1=2)) (some (decide (xa.1=2))) (some (decide (xa.1=3))):Option Bool).bind fun t3=>cond (t3) ((c9 xa.2.1).bind fun s4=>(app (([x2]:List Tq4)) (([s4]:List Tq4))).bind fun z5=>(cV z5 ([32]:List UInt8)).bind fun s6=>some (s6)) (cond (decide (xa.1=4)) ((kl (xa.2.1,xa.2.2.1)).bind fun s7=>(app (([x2]:List Tq4)) (([s7]:List Tq4))).bind fun z9=>(cV z9 ([32]:List UInt8)).bind fun s10=>some (s10)) (cond (decide (xa.1=7)) ((iQ xa.2.1).bind fun s11=>(app (([x2]:List Tq4)) (([s11]:List Tq4))).bind fun z12=>(c9 xa.2.2.1).bind fun s13=>(app z12 (([s13]:List Tq4))).bind fun z14=>(c9 xa.2.2.2.1).bind fun s15=>(app z14 (([s15]:List Tq4))).bind fun z16=>(c9 xa.2.2.2.2).bind fun s17=>(app z16 (([s17]:List Tq4))).bind fun z18=>(cV z18 ([32]:List UInt8)).bind fun s19=>some (s19)) ((cV (([x2]:List Tq4)) ([32]:List UInt8)).bind fun s20=>some (s20)))))
def Cq:Hn Tryz.prog := .cl oQ0 [] (.gp 5 (.tw 17 .nil (.pl (.pl (.pl (.sq [] ⟨[kdB 26],[]⟩ [] (.tw 26 .nil .nil) (.tw 26 (.cl gm [] (.cl jh [8] .nil)) (.tw 36 (.cl zg [] (.cl jh [8] .nil)) (.tw 49 (.cl oQ8 [] (.un 64 (.cl gm [] (.cl gm [] (.cl gm [] (.cl jh [20] .nil)))))) (.cl jh [4] .nil))))))))))
def B9:Spec:=⟨19,⟨[(0,.dat Yq8)],[]⟩,[⟨[(0,.dat .str)],[]⟩],fun x=>kr x⟩
def A2:OkSpec Tryz.prog:=⟨B9,ae func19 Cq (by kernel_rfl) (by kernel_rfl),call19⟩

def iK  : Option Bool :=
 (ge (([([119,104,121]:List UInt8),([49,58,50]:List UInt8)]:List Tq4))).bind fun (i69,i70,i71,i72,i73,i74)=>(ge (([([101,100,105,116]:List UInt8),([100,114,111,112]:List UInt8),([48]:List UInt8),([49]:List UInt8),([48]:List UInt8)]:List Tq4))).bind fun (i87,i88,i89,i90,i91,i92)=>(cond ((((decide (i74=0))&&(decide (i92=0)))&&((decide (i69=4))&&(((decide (i70=1))&&((decide (i71=2))&&((decide (i72=0))&&((decide (i73=0)))))))))&&((decide (i87=7))&&(((decide (i88=2))&&((decide (i89=0))&&((decide (i90=1))&&((decide (i91=0))))))))) ((kr ((i87,(i88,i89,i90,i91)))).bind fun s1=>some (decide (s1=([101,100,105,116,32,100,114,111,112,32,48,32,49,32,48]:List UInt8)))) (some (false))).bind fun t2=>some (t2)
def uB:Hn Tryz.prog := .cl oZ [0] (.cl oZ [5] (.gp 2 (.wt 21 (.gp 4 (.wt 27 (.gp 4 (.wt 33 (.gj 3 ⟨[kdB 37],[]⟩ [] (.two 33 (.cl A2 [] .nil) .nil) .nil))))))))
def pF:Spec:=⟨5,⟨[],[]⟩,[⟨[kdB 0],[]⟩],fun x=>iK⟩
theorem uw:cB Tryz.prog pF:=ae func5 uB (by kernel_rfl) (by kernel_rfl)
def pG:OkSpec Tryz.prog:=⟨pF,uw,call5⟩

def iA (xa:Tq4):Option Bool :=
 some (decide (xa=([]:List UInt8)))
def B0:Hn Tryz.prog := .nil
def B7:Spec:=⟨53,⟨[(0,.dat .str)],[]⟩,[⟨[kdB 0],[]⟩],fun x=>iA x⟩
def tG:OkSpec Tryz.prog:=⟨B7,ae func53 B0 (by kernel_rfl) (by kernel_rfl),call53⟩
def jP (xa:(List Tq4)):Int→Option (Int⊕(Unit⊕Int)):=fun i1=>cond (decide (i1 < (xa.length:Int))) ((aa xa i1).bind fun x2=>(iA x2).bind fun t3=>cond (t3) (some (.inr ((.inr (i1))))) (some (.inl (IntKind.wrap .i64 (i1 + 1))))) (some (.inr ((.inl ()))))
def jT (xa:(List Tq4)):Option Int :=
 (loop (jP xa) 0).bind fun o=>match o with | .inr r=>some r | .inl ()=>some ((-1))
def Cx:Hn Tryz.prog := .jx [] ⟨[],[]⟩ [] (.lp ⟨[kdI 8],[]⟩ (.tw 9 (.cl tG [] (.tw 16 .nil .nil)) .nil)) .nil
def zC:Spec:=⟨21,⟨[(0,.dat (.sl .str)),(1,.fn 53 [])],[]⟩,[⟨[kdI 0],[]⟩],fun x=>jT x⟩
def B5:OkSpec Tryz.prog:=⟨zC,ae func21 Cx (by kernel_rfl) (by kernel_rfl),call21⟩
def mr  : ie→Option (ie⊕((List Tq4)×Int)):=fun (l1,i2,i3)=>cond (decide (i3 < (l1.length:Int))) ((aa l1 i3).bind fun x4=>(iA x4).bind fun t5=>cond (!t5) ((aa l1 i2).bind fun x6=>(some (l1.set i2.toNat x4)).bind fun z7=>some (.inl ((z7,IntKind.wrap .i64 (i2 + 1),IntKind.wrap .i64 (i3 + 1))))) (some (.inl ((l1,i2,IntKind.wrap .i64 (i3 + 1)))))) (some (.inr (((l1,i2)))))
def jR (qxa:(List Tq4)):Option ((List Tq4)) :=
 (jT qxa).bind fun i1=>cond (decide (i1=(-1))) (some (qxa)) ((loop (mr) ((qxa,i1,IntKind.wrap .i64 (i1 + 1)))).bind fun (l2,i3)=>(subL l2 i3 (l2.length:Int)).bind fun _=>(some (cpy l2 (i3:Int).toNat (List.replicate (((l2.length:Int):Int).toNat - (i3:Int).toNat) ([]:List UInt8)))).bind fun z4=>(subL z4 0 i3).bind fun y5=>some (y5))
def B3:Hn Tryz.prog := .cl B5 [0] (.tw 12 (.per 0 1 .nil) (.jn [] ⟨[(0,.own 9 .str),kdI 5,(8,.any)],[]⟩ [0] (.lp ⟨[(0,.own 9 .str),kdI 5,kdI 6],[]⟩ (.tw 19 (.cl tG [] (.tw 29 .nil .nil)) .nil)) (.per 2 4 .nil)))
def CH:Spec:=⟨52,⟨[(0,.own 9 .str),(1,.fn 53 [])],[]⟩,[⟨[(0,.dat (.sl .str))],[]⟩],fun x=>jR x⟩
def AW:OkSpec Tryz.prog:=⟨CH,ae func52 B3 (by kernel_rfl) (by kernel_rfl),call52⟩

def iG (xa:Tq4):Option ((List Tq4)) :=
 (cH xa ([32]:List UInt8)).bind fun l19=>(jR l19).bind fun l25=>some (l25)
def Ak:Hn Tryz.prog := .cl fH [] (.cl AW [] .nil)
def BS:Spec:=⟨24,⟨[(0,.dat .str)],[]⟩,[⟨[(0,.dat (.sl .str))],[]⟩],fun x=>iG x⟩
def tU:OkSpec Tryz.prog:=⟨BS,ae func24 Ak (by kernel_rfl) (by kernel_rfl),call24⟩
def j3 (xa:(List Tq4)) (xb:(List Tq4)):Int→Option (Int⊕(Unit⊕Bool)):=fun i1=>cond (decide (i1 < (xa.length:Int))) ((aa xa i1).bind fun x2=>(aa xb i1).bind fun x3=>cond (!decide (x2=x3)) (some (.inr ((.inr (false))))) (some (.inl (IntKind.wrap .i64 (i1 + 1))))) (some (.inr ((.inl ()))))
def iq (xa:(List Tq4)) (xb:(List Tq4)):Option Bool :=
 cond (!decide ((xa.length:Int)=(xb.length:Int))) (some (false)) ((loop (j3 xa xb) 0).bind fun o=>match o with | .inr r=>some r | .inl ()=>some (true))
def Bt:Hn Tryz.prog := .tw 10 .nil (.jx [] ⟨[],[]⟩ [] (.lp ⟨[kdI 13],[]⟩ (.tw 14 (.mix [] [0,1,2,3,4,5,6,7,8] [] [] (.tw 24 .nil .nil)) .nil)) .nil)
def Ch:Spec:=⟨23,⟨[(0,.dat (.sl .str)),(1,.dat (.sl .str))],[]⟩,[⟨[kdB 0],[]⟩],fun x=>iq x.1 x.2⟩
def Bg:OkSpec Tryz.prog:=⟨Ch,ae func23 Bt (by kernel_rfl) (by kernel_rfl),call23⟩

def kb (xa:Tq4):Option Bool :=
 (iG xa).bind fun l25=>(iq l25 (([([116,104,101,110]:List UInt8)]:List Tq4))).bind fun t40=>some (t40)
def CM:Hn Tryz.prog := .cl tU [] (.cl Bg [0] .nil)
def BU:Spec:=⟨22,⟨[(0,.dat .str)],[]⟩,[⟨[kdB 0],[]⟩],fun x=>kb x⟩
def AK:OkSpec Tryz.prog:=⟨BU,ae func22 CM (by kernel_rfl) (by kernel_rfl),call22⟩
def jO (xa:(List Tq4)):Int→Option (Int⊕(Unit⊕Int)):=fun i1=>cond (decide (i1 < (xa.length:Int))) ((aa xa i1).bind fun x2=>(kb x2).bind fun t3=>cond (t3) (some (.inr ((.inr (i1))))) (some (.inl (IntKind.wrap .i64 (i1 + 1))))) (some (.inr ((.inl ()))))
def jS (xa:(List Tq4)):Option Int :=
 (loop (jO xa) 0).bind fun o=>match o with | .inr r=>some r | .inl ()=>some ((-1))
def Bp:Hn Tryz.prog := .jx [] ⟨[],[]⟩ [] (.lp ⟨[kdI 8],[]⟩ (.tw 9 (.cl AK [] (.tw 16 .nil .nil)) .nil)) .nil
def AC:Spec:=⟨21,⟨[(0,.dat (.sl .str)),(1,.fn 22 [])],[]⟩,[⟨[kdI 0],[]⟩],fun x=>jS x⟩
def BE:OkSpec Tryz.prog:=⟨AC,ae func21 Bp (by kernel_rfl) (by kernel_rfl),call21⟩

def pB (xa:Tq4) (xb:Tq4) (xc:Int):Option (List UInt8×List UInt8×Int) :=
 some ((xb,xa,xc))
def BB:Hn Tryz.prog := .nil
def A8:Spec:=⟨90,⟨[(0,.dat .str),(1,.dat .str),kdI 2],[]⟩,[⟨[(0,.fn 119 [.ptr 0 0,.ptr 1 0,.ptr 2 0])],[bkN 9 [.dat .str],bkN 9 [.dat .str],bkN 3 [.dat Yq1]]⟩],fun x=>pB x.1 x.2.1 x.2.2⟩
def Cy:OkSpec Tryz.prog:=⟨A8,ae func90 BB (by kernel_rfl) (by kernel_rfl),call90⟩

def mH (xa:Tq4) (xb:Tq4):Option (List UInt8×List UInt8×Int) :=
 (pB xa xb 0).bind fun (s20,s21,i22)=>some ((s20,s21,i22))
def An:Hn Tryz.prog := .cl Cy [] .nil
def zW:Spec:=⟨54,⟨[(0,.dat .str),(1,.dat .str)],[]⟩,[⟨[(0,.fn 119 [.ptr 0 0,.ptr 1 0,.ptr 2 0])],[bkN 9 [.dat .str],bkN 9 [.dat .str],bkN 3 [.dat Yq1]]⟩],fun x=>mH x.1 x.2⟩
def AM:OkSpec Tryz.prog:=⟨zW,ae func54 An (by kernel_rfl) (by kernel_rfl),call54⟩
def ub (xa:List UInt8):Option aU:=none
def Cu:Spec:=⟨116,⟨[(0,.dat .str)],[]⟩,[⟨[(0,.tup [.dat (.int .i32),.dat Yq1])],[]⟩],fun _=>none⟩
def CC:OkSpec Tryz.prog:=⟨Cu,fun _ _ h=>(by cases h),call116⟩

def iE (xa:Tq4):Option Bool :=
 some (decide (xa=([]:List UInt8)))
def Ab:Hn Tryz.prog := .nil
def AL:Spec:=⟨55,⟨[(0,.dat .str)],[]⟩,[⟨[kdB 0],[]⟩],fun x=>iE x⟩
def tK:OkSpec Tryz.prog:=⟨AL,ae func55 Ab (by kernel_rfl) (by kernel_rfl),call55⟩
def jQ (xa:(List Tq4)):Int→Option (Int⊕(Unit⊕Int)):=fun i1=>cond (decide (i1 < (xa.length:Int))) ((aa xa i1).bind fun x2=>(iE x2).bind fun t3=>cond (t3) (some (.inr ((.inr (i1))))) (some (.inl (IntKind.wrap .i64 (i1 + 1))))) (some (.inr ((.inl ()))))
def jV (xa:(List Tq4)):Option Int :=
 (loop (jQ xa) 0).bind fun o=>match o with | .inr r=>some r | .inl ()=>some ((-1))
def CG:Hn Tryz.prog := .jx [] ⟨[],[]⟩ [] (.lp ⟨[kdI 8],[]⟩ (.tw 9 (.cl tK [] (.tw 16 .nil .nil)) .nil)) .nil
def Cw:Spec:=⟨21,⟨[(0,.dat (.sl .str)),(1,.fn 55 [])],[]⟩,[⟨[kdI 0],[]⟩],fun x=>jV x⟩
def BR:OkSpec Tryz.prog:=⟨Cw,ae func21 CG (by kernel_rfl) (by kernel_rfl),call21⟩
def mw  : ie→Option (ie⊕((List Tq4)×Int)):=fun (l1,i2,i3)=>cond (decide (i3 < (l1.length:Int))) ((aa l1 i3).bind fun x4=>(iE x4).bind fun t5=>cond (!t5) ((aa l1 i2).bind fun x6=>(some (l1.set i2.toNat x4)).bind fun z7=>some (.inl ((z7,IntKind.wrap .i64 (i2 + 1),IntKind.wrap .i64 (i3 + 1))))) (some (.inl ((l1,i2,IntKind.wrap .i64 (i3 + 1)))))) (some (.inr (((l1,i2)))))
def fZ (qxa:(List Tq4)):Option ((List Tq4)) :=
 (jV qxa).bind fun i1=>cond (decide (i1=(-1))) (some (qxa)) ((loop (mw) ((qxa,i1,IntKind.wrap .i64 (i1 + 1)))).bind fun (l2,i3)=>(subL l2 i3 (l2.length:Int)).bind fun _=>(some (cpy l2 (i3:Int).toNat (List.replicate (((l2.length:Int):Int).toNat - (i3:Int).toNat) ([]:List UInt8)))).bind fun z4=>(subL z4 0 i3).bind fun y5=>some (y5))
def Cp:Hn Tryz.prog := .cl BR [0] (.tw 12 (.per 0 1 .nil) (.jn [] ⟨[(0,.own 9 .str),kdI 5,(8,.any)],[]⟩ [0] (.lp ⟨[(0,.own 9 .str),kdI 5,kdI 6],[]⟩ (.tw 19 (.cl tK [] (.tw 29 .nil .nil)) .nil)) (.per 2 4 .nil)))
def BX:Spec:=⟨52,⟨[(0,.own 9 .str),(1,.fn 55 [])],[]⟩,[⟨[(0,.dat (.sl .str))],[]⟩],fun x=>fZ x⟩
def oS:OkSpec Tryz.prog:=⟨BX,ae func52 Cp (by kernel_rfl) (by kernel_rfl),call52⟩

def my (xa:Tq4) (xb:Tq4):Option Bool :=
 (cond (decide ((xb.length:Int)≤(xa.length:Int))) ((subL xa 0 (xb.length:Int)).bind fun y14=>some (decide (y14=xb))) (some (false))).bind fun t12=>some (t12)
def zR:Hn Tryz.prog := .gj 6 ⟨[kdB 17],[]⟩ [] (.two 10 .nil .nil) .nil
def Ap:Spec:=⟨91,⟨[(0,.dat .str),(1,.dat .str)],[]⟩,[⟨[kdB 0],[]⟩],fun x=>my x.1 x.2⟩
def By:OkSpec Tryz.prog:=⟨Ap,ae func91 zR (by kernel_rfl) (by kernel_rfl),call91⟩

def dN (xa:Tq4) (xb:Tq4):Option Bool :=
 (my xa xb).bind fun t10=>some (t10)
def zY:Hn Tryz.prog := .cl By [] .nil
def AE:Spec:=⟨56,⟨[(0,.dat .str),(1,.dat .str)],[]⟩,[⟨[kdB 0],[]⟩],fun x=>dN x.1 x.2⟩
def ma:OkSpec Tryz.prog:=⟨AE,ae func56 zY (by kernel_rfl) (by kernel_rfl),call56⟩

def aY (xa:Tq4):Option aU :=
 (cond (decide (xa=([98,111,117,110,100,115]:List UInt8))) (some (decide (xa=([98,111,117,110,100,115]:List UInt8)))) (some (decide (xa=([110,101,101,100,115]:List UInt8)))):Option Bool).bind fun t36=>cond (t36) (some ((1,9223372036854775807))) ((cond (decide (xa=([98,108,111,99,107]:List UInt8))) (some (decide (xa=([98,108,111,99,107]:List UInt8)))) (cond (decide (xa=([110,111,112]:List UInt8))) (some (decide (xa=([110,111,112]:List UInt8)))) (some (decide (xa=([114,101,116,117,114,110]:List UInt8))))):Option Bool).bind fun t41=>cond (t41) (some ((1,1))) ((cond (decide (xa=([108,111,99,97,108]:List UInt8))) (some (decide (xa=([108,111,99,97,108]:List UInt8)))) (cond (decide (xa=([103,105,118,101,115]:List UInt8))) (some (decide (xa=([103,105,118,101,115]:List UInt8)))) (cond (decide (xa=([97,114,103]:List UInt8))) (some (decide (xa=([97,114,103]:List UInt8)))) (cond (decide (xa=([117,115,101]:List UInt8))) (some (decide (xa=([117,115,101]:List UInt8)))) (cond (decide (xa=([100,101,97,100]:List UInt8))) (some (decide (xa=([100,101,97,100]:List UInt8)))) (some (decide (xa=([103,111,116,111]:List UInt8)))))))):Option Bool).bind fun t50=>cond (t50) (some ((2,2))) ((cond (decide (xa=([114,101,103,105,111,110,115]:List UInt8))) (some (decide (xa=([114,101,103,105,111,110,115]:List UInt8)))) (cond (decide (xa=([115,105,103]:List UInt8))) (some (decide (xa=([115,105,103]:List UInt8)))) (cond (decide (xa=([97,115,115,105,103,110]:List UInt8))) (some (decide (xa=([97,115,115,105,103,110]:List UInt8)))) (some (decide (xa=([115,119,105,116,99,104]:List UInt8)))))):Option Bool).bind fun t60=>cond (t60) (some ((3,3))) (cond (decide (xa=([98,111,114,114,111,119]:List UInt8))) (some ((4,5))) (cond (decide (xa=([114,101,98,111,114,114,111,119]:List UInt8))) (some ((4,5))) (some ((6,6))))))))
def Cr:Hn Tryz.prog := .pl (.pl (.pl (.sq [] ⟨[kdB 5],[]⟩ [] (.tw 5 .nil .nil) (.tw 5 .nil (.sq [] ⟨[kdB 8],[]⟩ [] (.tw 8 .nil (.tw 8 .nil .nil)) (.tw 8 .nil (.sq [] ⟨[kdB 12],[]⟩ [] (.tw 12 .nil (.tw 12 .nil (.tw 12 .nil (.tw 12 .nil (.tw 12 .nil .nil))))) (.tw 12 .nil (.sq [] ⟨[kdB 19],[]⟩ [] (.tw 19 .nil (.tw 19 .nil (.tw 19 .nil .nil))) (.tw 19 .nil (.two 24 .nil (.tw 24 .nil .nil))))))))))))
def Bq:Spec:=⟨92,⟨[(0,.dat .str)],[]⟩,[⟨[(0,.tup [.dat Yq1,.dat Yq1])],[]⟩],fun x=>aY x⟩
def BC:OkSpec Tryz.prog:=⟨Bq,ae func92 Cr (by kernel_rfl) (by kernel_rfl),call92⟩
def j4 (xa:(List Tq4)) (xb:Tq4):Int→Option (Int⊕(Unit⊕Int)):=fun i1=>cond (decide (i1 < (xa.length:Int))) ((aa xa i1).bind fun x2=>cond (decide (xb=x2)) (some (.inr ((.inr (i1))))) (some (.inl (IntKind.wrap .i64 (i1 + 1))))) (some (.inr ((.inl ()))))
def mB (xa:(List Tq4)) (xb:Tq4):Option Int :=
 (loop (j4 xa xb) 0).bind fun o=>match o with | .inr r=>some r | .inl ()=>some ((-1))
def CB:Hn Tryz.prog := .jx [] ⟨[],[]⟩ [] (.lp ⟨[kdI 8],[]⟩ (.tw 9 (.tw 16 .nil .nil) .nil)) .nil
def Cz:Spec:=⟨146,⟨[(0,.dat (.sl .str)),(1,.dat .str)],[]⟩,[⟨[kdI 0],[]⟩],fun x=>mB x.1 x.2⟩
def BO:OkSpec Tryz.prog:=⟨Cz,ae func146 CB (by kernel_rfl) (by kernel_rfl),call146⟩

def br (xa:(List Tq4)) (xb:Tq4):Option Bool :=
 (mB xa xb).bind fun i10=>some (decide (0≤i10))
def AJ:Hn Tryz.prog := .cl BO [] .nil
def zI:Spec:=⟨120,⟨[(0,.dat (.sl .str)),(1,.dat .str)],[]⟩,[⟨[kdB 0],[]⟩],fun x=>br x.1 x.2⟩
def ek:OkSpec Tryz.prog:=⟨zI,ae func120 AJ (by kernel_rfl) (by kernel_rfl),call120⟩

def ua (xb:Tq4) (qa0:Int) (qa1:Int) (qa2:Tq5) (qa4:Tq3) (qa5:(List Tq2)) (qa6:(List Tq1)) (qa7:Int):Option ((Bool×Tq5×Tq3×(List Tq2)×(List Tq1))) :=
 cond (decide (qa7=0)) ((br (([([114,101,103,105,111,110,115]:List UInt8)]:List Tq4)) xb).bind fun t3=>some ((t3,qa2,qa4,qa5,qa6))) (cond (decide (qa7=1)) ((br (([([98,111,117,110,100,115]:List UInt8)]:List Tq4)) xb).bind fun t9=>some ((t9,qa2,qa4,qa5,qa6))) (cond (decide (qa7=2)) ((br (([([108,111,99,97,108]:List UInt8),([103,105,118,101,115]:List UInt8)]:List Tq4)) xb).bind fun t10=>some ((t10,qa2,qa4,qa5,qa6))) (cond (decide (qa7=3)) ((br (([([115,105,103]:List UInt8),([98,108,111,99,107]:List UInt8)]:List Tq4)) xb).bind fun t11=>some ((t11,qa2,qa4,qa5,qa6))) (cond (decide (qa7=4)) ((br (([([110,101,101,100,115]:List UInt8)]:List Tq4)) xb).bind fun t12=>some ((t12,qa2,qa4,qa5,qa6))) (cond (decide (qa7=5)) ((br (([([97,114,103]:List UInt8),([115,105,103]:List UInt8),([98,108,111,99,107]:List UInt8)]:List Tq4)) xb).bind fun t13=>some ((t13,qa2,qa4,qa5,qa6))) (cond (decide (qa7=6)) ((br (([([110,111,112]:List UInt8),([97,115,115,105,103,110]:List UInt8),([98,111,114,114,111,119]:List UInt8),([114,101,98,111,114,114,111,119]:List UInt8),([117,115,101]:List UInt8),([100,101,97,100]:List UInt8),([103,111,116,111]:List UInt8),([115,119,105,116,99,104]:List UInt8),([114,101,116,117,114,110]:List UInt8),([99,97,108,108]:List UInt8)]:List Tq4)) xb).bind fun t14=>some ((t14,qa2,qa4,qa5,qa6))) (cond (decide (qa7=7)) ((br (([([98,108,111,99,107]:List UInt8)]:List Tq4)) xb).bind fun t15=>some ((t15,qa2,qa4,qa5,qa6))) ((br ([]) xb).bind fun t16=>some ((t16,qa2,qa4,qa5,qa6))))))))))
def ir (xb:Int) (l1:List Tq4):((List Int)×Int)→Option (((List Int)×Int)⊕((List Int)⊕((List Int)×Int))):=fun (l2,i3)=>cond (decide (i3 < (l1.length:Int))) ((aa l1 i3).bind fun x4=>(dQ x4 xb).bind fun (i5,i6)=>cond (!decide (i6=0)) (some (.inr ((.inr (([],i6)))))) ((app l2 ([i5]:List Int)).bind fun z7=>some (.inl ((z7,IntKind.wrap .i64 (i3 + 1)))))) (some (.inr (.inl l2)))
def iv (xa:Tq4) (xb:Int):Option (((List Int)×Int)) :=
 cond (decide (xa=([]:List UInt8))) (some (([],0))) ((cH xa ([44]:List UInt8)).bind fun l1=>(loop (ir xb l1) ([],0)).bind fun o=>match o with | .inr r=>some r | .inl l2=>some ((l2,0)))
def AR:Hn Tryz.prog := .tw 12 .nil (.cl fH [] (.jx [] ⟨[(6,.own 3 Yq1)],[]⟩ [] (.lp ⟨[(6,.own 3 Yq1),kdI 16],[]⟩ (.tw 17 (.cl oQ5 [] (.tw 27 .nil .nil)) .nil)) .nil))
def AG:Spec:=⟨163,⟨[(0,.dat .str),kdI 1],[]⟩,[⟨[(0,.tup [.own 3 Yq1,.dat Yq1])],[]⟩],fun x=>iv x.1 x.2⟩
def Aw:OkSpec Tryz.prog:=⟨AG,ae func163 AR (by kernel_rfl) (by kernel_rfl),call163⟩

def mF (xa:Tq4):Option (((List Int)×Int)) :=
 cond (decide (xa=([45]:List UInt8))) (some (([],0))) ((iv xa 1048576).bind fun (l23,i24)=>some ((l23,i24)))
def Aq:Hn Tryz.prog := .tw 5 .nil (.cl Aw [] .nil)
def CY:Spec:=⟨162,⟨[(0,.dat .str)],[]⟩,[⟨[(0,.tup [.own 3 Yq1,.dat Yq1])],[]⟩],fun x=>mF x⟩
def zk:OkSpec Tryz.prog:=⟨CY,ae func162 Aq (by kernel_rfl) (by kernel_rfl),call162⟩

def jY (qa0:(List Tq4)) (qa1:Int):Option (((List Int)×(List Tq4)×Int)) :=
 cond (!decide (qa1=0)) (some (([],qa0,qa1))) ((aa qa0 0).bind fun x40=>(mF x40).bind fun (l51,i52)=>(subL qa0 1 (qa0.length:Int)).bind fun y60=>some ((l51,y60,i52)))
def AZ:Hn Tryz.prog := .tw 10 .nil (.cl zk [] .nil)
def zz:Spec:=⟨161,⟨[(0,.ptr 0 0),(1,.fn 162 [])],[bkN 150 [.dat (.sl .str),.dat Yq1]]⟩,[⟨[(0,.own 3 Yq1)],[bkC 0 150 [.dat (.sl .str),.dat Yq1]]⟩],fun x=>jY x.1 x.2⟩
def Cf:OkSpec Tryz.prog:=⟨zz,ae func161 AZ (by kernel_rfl) (by kernel_rfl),call161⟩

def c7 (qa0:(List Tq4)) (qa1:Int):Option (((List Int)×(List Tq4)×Int)) :=
 (jY qa0 qa1).bind fun (l28,l29,i30)=>some ((l28,l29,i30))
def AU:Hn Tryz.prog := .cl Cf [] .nil
def Bd:Spec:=⟨147,⟨[(0,.ptr 0 0)],[bkN 150 [.dat (.sl .str),.dat Yq1]]⟩,[⟨[(0,.own 3 Yq1)],[bkC 0 150 [.dat (.sl .str),.dat Yq1]]⟩],fun x=>c7 x.1 x.2⟩
def ib:OkSpec Tryz.prog:=⟨Bd,ae func147 AU (by kernel_rfl) (by kernel_rfl),call147⟩

def mE (xa:Tq4):Option aU :=
 (dQ xa 1048576).bind fun (i13,i14)=>some ((i13,i14))
def Cn:Hn Tryz.prog := .cl oQ5 [] .nil
def B2:Spec:=⟨149,⟨[(0,.dat .str)],[]⟩,[⟨[(0,.tup [.dat Yq1,.dat Yq1])],[]⟩],fun x=>mE x⟩
def Am:OkSpec Tryz.prog:=⟨B2,ae func149 Cn (by kernel_rfl) (by kernel_rfl),call149⟩

def jW (qa0:(List Tq4)) (qa1:Int):Option ((Int×(List Tq4)×Int)) :=
 cond (!decide (qa1=0)) (some ((0,qa0,qa1))) ((aa qa0 0).bind fun x31=>(mE x31).bind fun (i42,i43)=>(subL qa0 1 (qa0.length:Int)).bind fun y47=>some ((i42,y47,i43)))
def zh:Hn Tryz.prog := .tw 10 .nil (.cl Am [] .nil)
def zJ:Spec:=⟨148,⟨[(0,.ptr 0 0),(1,.fn 149 [])],[bkN 150 [.dat (.sl .str),.dat Yq1]]⟩,[⟨[kdI 0],[bkC 0 150 [.dat (.sl .str),.dat Yq1]]⟩],fun x=>jW x.1 x.2⟩
def Ck:OkSpec Tryz.prog:=⟨zJ,ae func148 zh (by kernel_rfl) (by kernel_rfl),call148⟩

def bw (qa0:(List Tq4)) (qa1:Int):Option ((Int×(List Tq4)×Int)) :=
 (jW qa0 qa1).bind fun (i21,l22,i23)=>some ((i21,l22,i23))
def Bo:Hn Tryz.prog := .cl Ck [] .nil
def zP:Spec:=⟨123,⟨[(0,.ptr 0 0)],[bkN 150 [.dat (.sl .str),.dat Yq1]]⟩,[⟨[kdI 0],[bkC 0 150 [.dat (.sl .str),.dat Yq1]]⟩],fun x=>bw x.1 x.2⟩
def cZ:OkSpec Tryz.prog:=⟨zP,ae func123 Bo (by kernel_rfl) (by kernel_rfl),call123⟩

def du (xa:Tq4) (qa0:(List Tq4)) (qa1:Int):Option ((Int×Int×Int×(List Int)×(List Int)×(List Int)×Bool×(List Tq4)×Int)) :=
 cond (decide (xa=([103,111,116,111]:List UInt8))) ((c7 qa0 qa1).bind fun (l2,l3,i4)=>some ((1,0,0,l2,[],[],true,l3,i4))) (cond (decide (xa=([115,119,105,116,99,104]:List UInt8))) ((c7 qa0 qa1).bind fun (l5,l6,i7)=>(c7 l6 i7).bind fun (l9,l10,i11)=>some ((2,0,0,l5,l9,[],true,l10,i11))) (cond (decide (xa=([114,101,116,117,114,110]:List UInt8))) (some ((3,0,0,[],[],[],true,qa0,qa1))) (cond (decide (xa=([99,97,108,108]:List UInt8))) ((bw qa0 qa1).bind fun (i12,l13,i14)=>(bw l13 i14).bind fun (i15,l16,i17)=>(c7 l16 i17).bind fun (l18,l19,i20)=>(c7 l19 i20).bind fun (l21,l22,i23)=>(c7 l22 i23).bind fun (l24,l25,i26)=>some ((4,i12,i15,l18,l24,l21,true,l25,i26))) (some ((0,0,0,[],[],[],false,qa0,qa1))))))
def zw:Hn Tryz.prog := .tw 9 (.cl ib [] .nil) (.tw 15 (.cl ib [] (.cl ib [] .nil)) (.tw 24 .nil (.tw 27 (.cl cZ [] (.cl cZ [] (.cl ib [] (.cl ib [] (.cl ib [] .nil))))) .nil)))
def Bf:Spec:=⟨121,⟨[(0,.dat .str),(1,.ptr 0 0)],[bkN 150 [.dat (.sl .str),.dat Yq1]]⟩,[⟨[(0,.tup [.agg [.dat Yq1,.dat Yq1,.dat Yq1,.own 3 Yq1,.own 3 Yq1,.own 3 Yq1],.dat .bool])],[bkC 0 150 [.dat (.sl .str),.dat Yq1]]⟩],fun x=>du x.1 x.2.1 x.2.2⟩
def AP:OkSpec Tryz.prog:=⟨Bf,ae func121 zw (by kernel_rfl) (by kernel_rfl),call121⟩

def ck (xa:(List Tq4)) (qa0:(List Tq4)) (qa1:Int):Option ((Int×Int×Int×Int×Bool×(List Tq4)×Int)) :=
 (aa xa 0).bind fun x2=>cond (decide (x2=([97,115,115,105,103,110]:List UInt8))) ((bw qa0 qa1).bind fun (i3,l4,i5)=>(bw l4 i5).bind fun (i6,l7,i9)=>some ((1,i3,i6,0,false,l7,i9))) ((cond (decide (x2=([98,111,114,114,111,119]:List UInt8))) (some (decide (x2=([98,111,114,114,111,119]:List UInt8)))) (some (decide (x2=([114,101,98,111,114,114,111,119]:List UInt8)))):Option Bool).bind fun t10=>cond (t10) (((aa xa 0).bind fun x11=>cond (decide (x11=([114,101,98,111,114,114,111,119]:List UInt8))) (some (3)) (some (2)):Option Int).bind fun i12=>((cond (decide ((xa.length:Int)=5)) ((aa xa 4).bind fun x13=>some (!decide (x13=([109,117,116]:List UInt8)))) (some (false))).bind fun t14=>cond (t14) (some (3)) (some (qa1)):Option Int).bind fun i15=>(bw qa0 i15).bind fun (i16,l17,i18)=>(bw l17 i18).bind fun (i19,l20,i21)=>(bw l20 i21).bind fun (i22,l23,i24)=>some ((i12,i16,i19,i22,decide ((xa.length:Int)=5),l23,i24))) (cond (decide (x2=([117,115,101]:List UInt8))) ((bw qa0 qa1).bind fun (i25,l26,i27)=>some ((4,0,i25,0,false,l26,i27))) (cond (decide (x2=([100,101,97,100]:List UInt8))) ((bw qa0 qa1).bind fun (i28,l29,i30)=>some ((5,i28,0,0,false,l29,i30))) (some ((0,0,0,0,false,qa0,qa1))))))
def zF:Hn Tryz.prog := .tw 9 (.cl cZ [] (.cl cZ [] .nil)) (.sq [] ⟨[kdB 18],[]⟩ [] (.tw 18 .nil .nil) (.tw 18 (.pl (.sq [] ⟨[],[bkC 4 129 [.dat Yq1,.lit (.int .i64 0),.lit (.int .i64 0),.lit (.int .i64 0),.lit (.bool false)]]⟩ [4] (.tw 25 .nil .nil) (.pl (.sq [(0,0)] ⟨[],[bkC 0 150 [.is 1 (.any),.dat Yq1],bkU 9]⟩ [0] (.gj 4 ⟨[kdB 38],[]⟩ [] (.two 33 .nil .nil) (.tw 38 .nil .nil)) (.cl cZ [] (.cl cZ [] (.cl cZ [] .nil))))))) (.tw 51 (.cl cZ [] .nil) (.tw 57 (.cl cZ [] .nil) .nil))))
def zB:Spec:=⟨122,⟨[(0,.dat (.sl .str)),(1,.ptr 0 0)],[bkN 150 [.dat (.sl .str),.dat Yq1]]⟩,[⟨[(0,.agg [.dat Yq1,.dat Yq1,.dat Yq1,.dat Yq1,.dat .bool])],[bkC 0 150 [.dat (.sl .str),.dat Yq1]]⟩],fun x=>ck x.1 x.2.1 x.2.2⟩
def tR:OkSpec Tryz.prog:=⟨zB,ae func122 zF (by kernel_rfl) (by kernel_rfl),call122⟩

def t8 (xb:(List Tq4)) (qa0:Int) (qa1:Int) (qa2:Tq5) (qa4:Tq3) (qa5:(List Tq2)) (qa6:(List Tq1)) (qa7:Int) (qb0:(List Tq4)) (qb1:Int):Option ((Tq5×Tq3×(List Tq2)×(List Tq1)×Int×(List Tq4)×Int)) :=
 (aa qa6 (IntKind.wrap .i64 ((qa6.length:Int) - 1))).bind fun _=>(aa xb 0).bind fun x3=>(du x3 qb0 qb1).bind fun (i9,i10,i11,l12,l13,l14,t15,l16,i17)=>cond (t15) ((aa qa6 (IntKind.wrap .i64 ((qa6.length:Int) - 1))).bind fun x18=>(az (IntKind.wrap .i64 ((qa6.length:Int) - 1)) (IntKind.wrap .i64 ((qa6.length:Int) - 1))).bind fun _=>some ((qa2,qa4,qa5,qa6.set (IntKind.wrap .i64 ((qa6.length:Int) - 1)).toNat ((x18.1,(i9,i10,i11,l12,l13,l14))),7,l16,i17))) ((((aa qa6 (IntKind.wrap .i64 ((qa6.length:Int) - 1))).bind fun x19=>(az (IntKind.wrap .i64 ((qa6.length:Int) - 1)) (IntKind.wrap .i64 ((qa6.length:Int) - 1))).bind fun _=>(ck xb l16 i17).bind fun (i20,i21,i22,i23,t24,l25,i26)=>(app x19.1 (([(i20,i21,i22,i23,t24)]:List fe))).bind fun z27=>(az (IntKind.wrap .i64 ((qa6.length:Int) - 1)) (IntKind.wrap .i64 ((qa6.length:Int) - 1))).bind fun _=>some ((l25,i26,qa6.set (IntKind.wrap .i64 ((qa6.length:Int) - 1)).toNat ((z27,(x19.2.1,x19.2.2.1,x19.2.2.2.1,x19.2.2.2.2.1,x19.2.2.2.2.2.1,x19.2.2.2.2.2.2)))))).bind fun x28=>((ck xb l16 i17).bind fun (i29,i30,i31,i32,t33,l34,i35)=>((aa qa6 (IntKind.wrap .i64 ((qa6.length:Int) - 1))).bind fun x36=>(az (IntKind.wrap .i64 ((qa6.length:Int) - 1)) (IntKind.wrap .i64 ((qa6.length:Int) - 1))).bind fun _=>(app x36.1 (([(i29,i30,i31,i32,t33)]:List fe))).bind fun z37=>(az (IntKind.wrap .i64 ((qa6.length:Int) - 1)) (IntKind.wrap .i64 ((qa6.length:Int) - 1))).bind fun _=>some ((l34,i35,qa6.set (IntKind.wrap .i64 ((qa6.length:Int) - 1)).toNat ((z37,(x36.2.1,x36.2.2.1,x36.2.2.2.1,x36.2.2.2.2.1,x36.2.2.2.2.2.1,x36.2.2.2.2.2.2)))))).bind fun x38=>((aa qa6 (IntKind.wrap .i64 ((qa6.length:Int) - 1))).bind fun x39=>(az (IntKind.wrap .i64 ((qa6.length:Int) - 1)) (IntKind.wrap .i64 ((qa6.length:Int) - 1))).bind fun _=>(app x39.1 (([(i29,i30,i31,i32,t33)]:List fe))).bind fun z40=>(az (IntKind.wrap .i64 ((qa6.length:Int) - 1)) (IntKind.wrap .i64 ((qa6.length:Int) - 1))).bind fun _=>some ((l34,i35,qa6.set (IntKind.wrap .i64 ((qa6.length:Int) - 1)).toNat ((z40,(x39.2.1,x39.2.2.1,x39.2.2.2.1,x39.2.2.2.2.1,x39.2.2.2.2.2.1,x39.2.2.2.2.2.2)))))).bind fun y41=>agr x38 y41 (some x38)).bind fun y42=>agr x28 y42 (some x28):Option (((List Tq4)×Int×(List Tq1)))).bind fun (l43,i44,l45)=>some ((qa2,qa4,qa5,l45,qa7,l43,i44)))
def mD (xa:Tq4):Option (Int×Int×Int) :=
 (fq xa 1048576).bind fun (i17,i18,i19)=>some ((i17,i18,i19))
def zj:Hn Tryz.prog := .cl oQ7 [] .nil
def Ar:Spec:=⟨151,⟨[(0,.dat .str)],[]⟩,[⟨[(0,.tup [.agg [.dat Yq1,.dat Yq1],.dat Yq1])],[]⟩],fun x=>mD x⟩
def A0:OkSpec Tryz.prog:=⟨Ar,ae func151 zj (by kernel_rfl) (by kernel_rfl),call151⟩

def jU (qa0:(List Tq4)) (qa1:Int):Option ((Int×Int×(List Tq4)×Int)) :=
 cond (!decide (qa1=0)) (some ((0,0,qa0,qa1))) ((aa qa0 0).bind fun x38=>(mD x38).bind fun (i49,i50,i51)=>(subL qa0 1 (qa0.length:Int)).bind fun y55=>some ((i49,i50,y55,i51)))
def BQ:Hn Tryz.prog := .tw 10 .nil (.cl A0 [] .nil)
def BJ:Spec:=⟨150,⟨[(0,.ptr 0 0),(1,.fn 151 [])],[bkN 150 [.dat (.sl .str),.dat Yq1]]⟩,[⟨[(0,.agg [.dat Yq1,.dat Yq1])],[bkC 0 150 [.dat (.sl .str),.dat Yq1]]⟩],fun x=>jU x.1 x.2⟩
def A7:OkSpec Tryz.prog:=⟨BJ,ae func150 BQ (by kernel_rfl) (by kernel_rfl),call150⟩
def f7  : (Tq5×(List Tq4)×Int)→Option ((Tq5×(List Tq4)×Int)⊕(Tq5×(List Tq4)×Int)):=fun (l1,l2,i3)=>cond ((decide (0 < (l2.length:Int)))&&(decide (i3=0))) ((jU l2 i3).bind fun (i4,i5,l6,i7)=>(app l1 (([(i4,i5)]:List aU))).bind fun z9=>some (.inl (z9,l6,i7))) (some (.inr (((l1,l2,i3)))))
def fl (qa0:(List Tq4)) (qa1:Int):Option ((Tq5×(List Tq4)×Int)) :=
 (loop (f7) ([],qa0,qa1)).bind fun (l2,l3,i4)=>some ((l2,l3,i4))
def zn:Hn Tryz.prog := .jn [] ⟨[(3,.own 78 Yq5)],[bkC 0 150 [.dat (.sl .str),.dat Yq1]]⟩ [0] (.lp ⟨[(3,.own 78 Yq5)],[bkC 0 150 [.dat (.sl .str),.dat Yq1]]⟩ (.gp 5 (.tw 16 (.cl A7 [] .nil) .nil))) .nil
def AF:Spec:=⟨124,⟨[(0,.ptr 0 0)],[bkN 150 [.dat (.sl .str),.dat Yq1]]⟩,[⟨[(0,.own 78 Yq5)],[bkC 0 150 [.dat (.sl .str),.dat Yq1]]⟩],fun x=>fl x.1 x.2⟩
def tM:OkSpec Tryz.prog:=⟨AF,ae func124 zn (by kernel_rfl) (by kernel_rfl),call124⟩

def mA (xa:Tq4) (xb:Tq4):Option Bool :=
 (cond (decide ((xb.length:Int)≤(xa.length:Int))) ((subL xa (IntKind.wrap .i64 ((xa.length:Int) - (xb.length:Int))) (xa.length:Int)).bind fun y14=>some (decide (y14=xb))) (some (false))).bind fun t12=>some (t12)
def B4:Hn Tryz.prog := .gj 9 ⟨[kdB 20],[]⟩ [] (.two 10 .nil .nil) .nil
def Be:Spec:=⟨166,⟨[(0,.dat .str),(1,.dat .str)],[]⟩,[⟨[kdB 0],[]⟩],fun x=>mA x.1 x.2⟩
def zM:OkSpec Tryz.prog:=⟨Be,ae func166 B4 (by kernel_rfl) (by kernel_rfl),call166⟩

def mz (xa:Tq4) (xb:Tq4):Option (List UInt8×Bool) :=
 (mA xa xb).bind fun t14=>cond (!t14) (some ((xa,false))) ((subL xa 0 (IntKind.wrap .i64 ((xa.length:Int) - (xb.length:Int)))).bind fun y19=>some ((y19,true)))
def CE:Hn Tryz.prog := .cl zM [] (.tw 9 .nil .nil)
def zq:Spec:=⟨165,⟨[(0,.dat .str),(1,.dat .str)],[]⟩,[⟨[(0,.tup [.dat .str,.dat .bool])],[]⟩],fun x=>mz x.1 x.2⟩
def zV:OkSpec Tryz.prog:=⟨zq,ae func165 CE (by kernel_rfl) (by kernel_rfl),call165⟩

def j6 (xa:Tq4) (xb:Tq4):Option (List UInt8×Bool) :=
 (mz xa xb).bind fun (s12,t13)=>some ((s12,t13))
def zO:Hn Tryz.prog := .cl zV [] .nil
def Bs:Spec:=⟨164,⟨[(0,.dat .str),(1,.dat .str)],[]⟩,[⟨[(0,.tup [.dat .str,.dat .bool])],[]⟩],fun x=>j6 x.1 x.2⟩
def Au:OkSpec Tryz.prog:=⟨Bs,ae func164 zO (by kernel_rfl) (by kernel_rfl),call164⟩
def iw (l1:List Tq4):(Int×Tq3)→Option ((Int×Tq3)⊕(Tq3⊕(Tq3×Int))):=fun (i2,l3)=>cond (decide (i2 < (l1.length:Int))) ((aa l1 i2).bind fun x4=>(j6 x4 ([33]:List UInt8)).bind fun (s5,t6)=>(dQ s5 1048576).bind fun (i7,i9)=>cond (!decide (i9=0)) (some (.inr ((.inr (([],i9)))))) ((app l3 (([(i7,t6)]:List (Int×Bool)))).bind fun z10=>some (.inl ((IntKind.wrap .i64 (i2 + 1),z10))))) (some (.inr (.inl l3)))
def kc (xa:Tq4):Option ((Tq3×Int)) :=
 cond (decide (xa=([45]:List UInt8))) (some (([],0))) ((cH xa ([47]:List UInt8)).bind fun l1=>(loop (iw l1) (0,[])).bind fun o=>match o with | .inr r=>some r | .inl l2=>some ((l2,0)))
def AA:Hn Tryz.prog := .tw 12 .nil (.cl fH [] (.jx [] ⟨[],[bkC 0 27 [.nils],bkC 2 27 [.own 165 Yq7]]⟩ [2,0] (.lp ⟨[kdI 17],[bkC 0 27 [.nils],bkC 2 27 [.own 165 Yq7]]⟩ (.tw 18 (.cl Au [] (.cl oQ5 [] (.tw 32 .nil .nil))) .nil)) .nil))
def Bx:Spec:=⟨153,⟨[(0,.dat .str)],[]⟩,[⟨[(0,.tup [.agg [.own 165 Yq7],.dat Yq1])],[]⟩],fun x=>kc x⟩
def BN:OkSpec Tryz.prog:=⟨Bx,ae func153 AA (by kernel_rfl) (by kernel_rfl),call153⟩

def jX (qa0:(List Tq4)) (qa1:Int):Option ((Tq3×(List Tq4)×Int)) :=
 cond (!decide (qa1=0)) (some (([],qa0,qa1))) ((aa qa0 0).bind fun x45=>(kc x45).bind fun (l56,i57)=>(subL qa0 1 (qa0.length:Int)).bind fun y65=>some ((l56,y65,i57)))
def CV:Hn Tryz.prog := .tw 10 .nil (.cl BN [] .nil)
def zl:Spec:=⟨152,⟨[(0,.ptr 0 0),(1,.fn 153 [])],[bkN 150 [.dat (.sl .str),.dat Yq1]]⟩,[⟨[(0,.agg [.own 165 Yq7])],[bkC 0 150 [.dat (.sl .str),.dat Yq1]]⟩],fun x=>jX x.1 x.2⟩
def Ce:OkSpec Tryz.prog:=⟨zl,ae func152 CV (by kernel_rfl) (by kernel_rfl),call152⟩

def ca (qa0:(List Tq4)) (qa1:Int):Option ((Tq3×(List Tq4)×Int)) :=
 (jX qa0 qa1).bind fun (l30,l31,i33)=>some ((l30,l31,i33))
def AI:Hn Tryz.prog := .cl Ce [] .nil
def Bv:Spec:=⟨125,⟨[(0,.ptr 0 0)],[bkN 150 [.dat (.sl .str),.dat Yq1]]⟩,[⟨[(0,.agg [.own 165 Yq7])],[bkC 0 150 [.dat (.sl .str),.dat Yq1]]⟩],fun x=>ca x.1 x.2⟩
def jF:OkSpec Tryz.prog:=⟨Bv,ae func125 AI (by kernel_rfl) (by kernel_rfl),call125⟩

def tZ (xb:Tq4) (qa0:Int) (qa1:Int) (qa2:Tq5) (qa4:Tq3) (qa5:(List Tq2)) (qa6:(List Tq1)) (qa7:Int) (qb0:(List Tq4)) (qb1:Int):Option ml :=
 cond (decide (xb=([114,101,103,105,111,110,115]:List UInt8))) ((bw qb0 qb1).bind fun (i3,l9,i10)=>(bw l9 i10).bind fun (i11,l12,i13)=>some ((i3,i11,qa2,[],qa4,qa5,qa6,1,l12,i13))) (cond (decide (xb=([98,111,117,110,100,115]:List UInt8))) ((fl qb0 qb1).bind fun (l14,l15,i16)=>some ((qa0,qa1,l14,[],qa4,qa5,qa6,2,l15,i16))) (cond (decide (xb=([108,111,99,97,108]:List UInt8))) ((ca qb0 qb1).bind fun (l17,l18,i19)=>(app (([]:List Tq3)) (([l17]:List Tq3))).bind fun z20=>some ((qa0,qa1,qa2,z20,qa4,qa5,qa6,qa7,l18,i19))) (cond (decide (xb=([103,105,118,101,115]:List UInt8))) ((ca qb0 qb1).bind fun (l21,l22,i23)=>some ((qa0,qa1,qa2,[],l21,qa5,qa6,3,l22,i23))) (cond (decide (xb=([115,105,103]:List UInt8))) ((bw qb0 qb1).bind fun (i24,l25,i26)=>(ca l25 i26).bind fun (l27,l28,i29)=>(app (qa5:List Tq2) (([(i24,[],[],l27)]:List Tq2):List Tq2)).bind fun z30=>some ((qa0,qa1,qa2,[],qa4,z30,qa6,4,l28,i29))) (cond (decide (xb=([110,101,101,100,115]:List UInt8))) ((fl qb0 qb1).bind fun (l31,l32,i33)=>(aa qa5 (IntKind.wrap .i64 ((qa5.length:Int) - 1))).bind fun _=>(aa qa5 (IntKind.wrap .i64 ((qa5.length:Int) - 1))).bind fun x34=>(az (IntKind.wrap .i64 ((qa5.length:Int) - 1)) (IntKind.wrap .i64 ((qa5.length:Int) - 1))).bind fun _=>some ((qa0,qa1,qa2,[],qa4,qa5.set (IntKind.wrap .i64 ((qa5.length:Int) - 1)).toNat (x34.1,l31,x34.2.2.1,x34.2.2.2),qa6,5,l32,i33))) (cond (decide (xb=([97,114,103]:List UInt8))) ((aa qa5 (IntKind.wrap .i64 ((qa5.length:Int) - 1))).bind fun _=>(((aa qa5 (IntKind.wrap .i64 ((qa5.length:Int) - 1))).bind fun x35=>(az (IntKind.wrap .i64 ((qa5.length:Int) - 1)) (IntKind.wrap .i64 ((qa5.length:Int) - 1))).bind fun _=>(ca qb0 qb1).bind fun (l36,l37,i38)=>(app x35.2.2.1 (([l36]:List Tq3))).bind fun z39=>(az (IntKind.wrap .i64 ((qa5.length:Int) - 1)) (IntKind.wrap .i64 ((qa5.length:Int) - 1))).bind fun _=>some ((l37,i38,qa5.set (IntKind.wrap .i64 ((qa5.length:Int) - 1)).toNat (x35.1,x35.2.1,z39,x35.2.2.2)))).bind fun x40=>((ca qb0 qb1).bind fun (l41,l42,i43)=>((aa qa5 (IntKind.wrap .i64 ((qa5.length:Int) - 1))).bind fun x44=>(az (IntKind.wrap .i64 ((qa5.length:Int) - 1)) (IntKind.wrap .i64 ((qa5.length:Int) - 1))).bind fun _=>(app x44.2.2.1 (([l41]:List Tq3))).bind fun z45=>(az (IntKind.wrap .i64 ((qa5.length:Int) - 1)) (IntKind.wrap .i64 ((qa5.length:Int) - 1))).bind fun _=>some ((l42,i43,qa5.set (IntKind.wrap .i64 ((qa5.length:Int) - 1)).toNat (x44.1,x44.2.1,z45,x44.2.2.2)))).bind fun x46=>((aa qa5 (IntKind.wrap .i64 ((qa5.length:Int) - 1))).bind fun x47=>(az (IntKind.wrap .i64 ((qa5.length:Int) - 1)) (IntKind.wrap .i64 ((qa5.length:Int) - 1))).bind fun _=>(app x47.2.2.1 (([l41]:List Tq3))).bind fun z48=>(az (IntKind.wrap .i64 ((qa5.length:Int) - 1)) (IntKind.wrap .i64 ((qa5.length:Int) - 1))).bind fun _=>some ((l42,i43,qa5.set (IntKind.wrap .i64 ((qa5.length:Int) - 1)).toNat (x47.1,x47.2.1,z48,x47.2.2.2)))).bind fun y49=>agr x46 y49 (some x46)).bind fun y50=>agr x40 y50 (some x40):Option (((List Tq4)×Int×(List Tq2)))).bind fun (l51,i52,l53)=>some ((qa0,qa1,qa2,[],qa4,l53,qa6,qa7,l51,i52))) (cond (decide (xb=([98,108,111,99,107]:List UInt8))) ((app (qa6:List Tq1) (([([],(0,0,0,[],[],[]))]:List Tq1):List Tq1)).bind fun z54=>some ((qa0,qa1,qa2,[],qa4,qa5,z54,6,qb0,qb1))) (some ((qa0,qa1,qa2,[],qa4,qa5,qa6,qa7,qb0,qb1))))))))))
def fn_text_parser_line_p0k_iirnrododi (xb:(List Tq4)) (qa0:Int) (qa1:Int) (qa2:Tq5) (qa4:Tq3) (qa5:(List Tq2)) (qa6:(List Tq1)) (qa7:Int):Option ((Int×Int×Int×Tq5×(List Tq3)×Tq3×(List Tq2)×(List Tq1)×Int)) :=
 (aa xb 0).bind fun x3=>(aY x3).bind fun (i9,i10)=>(aa xb 0).bind fun x11=>(ua x11 qa0 qa1 qa2 qa4 qa5 qa6 qa7).bind fun (t12,l13,l14,l15,l16)=>cond (((!t12)||(decide ((xb.length:Int) < i9)))||(decide (i10 < (xb.length:Int)))) (some ((3,qa0,qa1,l13,[],l14,l15,l16,qa7))) ((subL xb 1 (xb.length:Int)).bind fun y17=>(cond (decide (qa7=6)) ((t8 xb qa0 qa1 l13 l14 l15 l16 qa7 y17 0).bind fun (l18,l19,l20,l21,i22,l23,i24)=>some ((qa0,qa1,l18,[],l19,l20,l21,i22,l23,i24))) ((aa xb 0).bind fun x25=>(tZ x25 qa0 qa1 l13 l14 l15 l16 qa7 y17 0).bind fun (i26,i27,l28,l29,l30,l31,l32,i33,l34,i35)=>some ((i26,i27,l28,l29,l30,l31,l32,i33,l34,i35))):Option ml).bind fun (i36,i37,l38,l39,l40,l41,l42,i43,l44,i45)=>some ((i45,i36,i37,l38,l39,l40,l41,l42,i43)))
def jZ (xb:Tq4) (qa0:Int) (qa1:Int) (qa2:Tq5) (qa3:(List Tq3)) (qa4:Tq3) (qa5:(List Tq2)) (qa6:(List Tq1)) (qa7:Int):Option ((Bool×Tq5×(List Tq3)×Tq3×(List Tq2)×(List Tq1))) :=
 cond (decide (qa7=0)) ((br (([([114,101,103,105,111,110,115]:List UInt8)]:List Tq4)) xb).bind fun t9=>some ((t9,qa2,qa3,qa4,qa5,qa6))) (cond (decide (qa7=1)) ((br (([([98,111,117,110,100,115]:List UInt8)]:List Tq4)) xb).bind fun t10=>some ((t10,qa2,qa3,qa4,qa5,qa6))) (cond (decide (qa7=2)) ((br (([([108,111,99,97,108]:List UInt8),([103,105,118,101,115]:List UInt8)]:List Tq4)) xb).bind fun t11=>some ((t11,qa2,qa3,qa4,qa5,qa6))) (cond (decide (qa7=3)) ((br (([([115,105,103]:List UInt8),([98,108,111,99,107]:List UInt8)]:List Tq4)) xb).bind fun t12=>some ((t12,qa2,qa3,qa4,qa5,qa6))) (cond (decide (qa7=4)) ((br (([([110,101,101,100,115]:List UInt8)]:List Tq4)) xb).bind fun t13=>some ((t13,qa2,qa3,qa4,qa5,qa6))) (cond (decide (qa7=5)) ((br (([([97,114,103]:List UInt8),([115,105,103]:List UInt8),([98,108,111,99,107]:List UInt8)]:List Tq4)) xb).bind fun t14=>some ((t14,qa2,qa3,qa4,qa5,qa6))) (cond (decide (qa7=6)) ((br (([([110,111,112]:List UInt8),([97,115,115,105,103,110]:List UInt8),([98,111,114,114,111,119]:List UInt8),([114,101,98,111,114,114,111,119]:List UInt8),([117,115,101]:List UInt8),([100,101,97,100]:List UInt8),([103,111,116,111]:List UInt8),([115,119,105,116,99,104]:List UInt8),([114,101,116,117,114,110]:List UInt8),([99,97,108,108]:List UInt8)]:List Tq4)) xb).bind fun t15=>some ((t15,qa2,qa3,qa4,qa5,qa6))) (cond (decide (qa7=7)) ((br (([([98,108,111,99,107]:List UInt8)]:List Tq4)) xb).bind fun t16=>some ((t16,qa2,qa3,qa4,qa5,qa6))) ((br ([]) xb).bind fun t17=>some ((t17,qa2,qa3,qa4,qa5,qa6))))))))))
def BP:Hn Tryz.prog := .tw 10 (.cl ek [15] .nil) (.tw 13 (.cl ek [15] .nil) (.tw 16 (.cl ek [15] .nil) (.tw 19 (.cl ek [15] .nil) (.tw 22 (.cl ek [15] .nil) (.tw 25 (.cl ek [15] .nil) (.tw 28 (.cl ek [15] .nil) (.tw 31 (.cl ek [15] .nil) (.cl ek [] .nil))))))))
def CI:Spec:=⟨93,⟨[(0,.ptr 0 0),(1,.dat .str)],[bkN 96 [.is 1 (.dat Yq1),.is 2 (.dat Yq1),.own 78 Yq5,.own 27 Yq2,.own 165 Yq7,.od (.row 126 (.cons (.dat Yq1) (.cons (.dat (.sl Yq5)) (.cons (.row 27 (.dat Yq2)) (.one (.dat Yq2)))))),.od (.row 120 (.cons (.row 129 (.dat Yq4)) (.one (.dat Yq3)))),.is 3 (.dat Yq1)],bkM,bkM,bkM]⟩,[⟨[kdB 0],[bkC 0 96 [.is 1 (.any),.is 2 (.any),.own 78 Yq5,.own 27 Yq2,.own 165 Yq7,.od (.row 126 (.cons (.dat Yq1) (.cons (.dat (.sl Yq5)) (.cons (.row 27 (.dat Yq2)) (.one (.dat Yq2)))))),.od (.row 120 (.cons (.row 129 (.dat Yq4)) (.one (.dat Yq3)))),.is 3 (.any)],bkU 1,bkU 2,bkU 3]⟩],fun x=>jZ x.1 x.2.1 x.2.2.1 x.2.2.2.1 x.2.2.2.2.1 x.2.2.2.2.2.1 x.2.2.2.2.2.2.1 x.2.2.2.2.2.2.2.1 x.2.2.2.2.2.2.2.2⟩
def AS:OkSpec Tryz.prog:=⟨CI,ae func93 BP (by kernel_rfl) (by kernel_rfl),call93⟩

def fj (xb:(List Tq4)) (qa0:Int) (qa1:Int) (qa2:Tq5) (qa3:(List Tq3)) (qa4:Tq3) (qa5:(List Tq2)) (qa6:(List Tq1)) (qa7:Int) (qb0:(List Tq4)) (qb1:Int):Option ((Tq5×(List Tq3)×Tq3×(List Tq2)×(List Tq1)×Int×(List Tq4)×Int)) :=
 (aa qa6 (IntKind.wrap .i64 ((qa6.length:Int) - 1))).bind fun _=>(aa xb 0).bind fun x9=>(du x9 qb0 qb1).bind fun (i10,i11,i12,l13,l14,l15,t16,l17,i18)=>cond (t16) ((aa qa6 (IntKind.wrap .i64 ((qa6.length:Int) - 1))).bind fun x19=>(az (IntKind.wrap .i64 ((qa6.length:Int) - 1)) (IntKind.wrap .i64 ((qa6.length:Int) - 1))).bind fun _=>some ((qa2,qa3,qa4,qa5,qa6.set (IntKind.wrap .i64 ((qa6.length:Int) - 1)).toNat ((x19.1,(i10,i11,i12,l13,l14,l15))),7,l17,i18))) ((((aa qa6 (IntKind.wrap .i64 ((qa6.length:Int) - 1))).bind fun x20=>(az (IntKind.wrap .i64 ((qa6.length:Int) - 1)) (IntKind.wrap .i64 ((qa6.length:Int) - 1))).bind fun _=>(ck xb l17 i18).bind fun (i21,i22,i23,i24,t25,l26,i27)=>(app x20.1 (([(i21,i22,i23,i24,t25)]:List fe))).bind fun z28=>(az (IntKind.wrap .i64 ((qa6.length:Int) - 1)) (IntKind.wrap .i64 ((qa6.length:Int) - 1))).bind fun _=>some ((l26,i27,qa6.set (IntKind.wrap .i64 ((qa6.length:Int) - 1)).toNat ((z28,(x20.2.1,x20.2.2.1,x20.2.2.2.1,x20.2.2.2.2.1,x20.2.2.2.2.2.1,x20.2.2.2.2.2.2)))))).bind fun x29=>((ck xb l17 i18).bind fun (i30,i31,i32,i33,t34,l35,i36)=>((aa qa6 (IntKind.wrap .i64 ((qa6.length:Int) - 1))).bind fun x37=>(az (IntKind.wrap .i64 ((qa6.length:Int) - 1)) (IntKind.wrap .i64 ((qa6.length:Int) - 1))).bind fun _=>(app x37.1 (([(i30,i31,i32,i33,t34)]:List fe))).bind fun z38=>(az (IntKind.wrap .i64 ((qa6.length:Int) - 1)) (IntKind.wrap .i64 ((qa6.length:Int) - 1))).bind fun _=>some ((l35,i36,qa6.set (IntKind.wrap .i64 ((qa6.length:Int) - 1)).toNat ((z38,(x37.2.1,x37.2.2.1,x37.2.2.2.1,x37.2.2.2.2.1,x37.2.2.2.2.2.1,x37.2.2.2.2.2.2)))))).bind fun x39=>((aa qa6 (IntKind.wrap .i64 ((qa6.length:Int) - 1))).bind fun x40=>(az (IntKind.wrap .i64 ((qa6.length:Int) - 1)) (IntKind.wrap .i64 ((qa6.length:Int) - 1))).bind fun _=>(app x40.1 (([(i30,i31,i32,i33,t34)]:List fe))).bind fun z41=>(az (IntKind.wrap .i64 ((qa6.length:Int) - 1)) (IntKind.wrap .i64 ((qa6.length:Int) - 1))).bind fun _=>some ((l35,i36,qa6.set (IntKind.wrap .i64 ((qa6.length:Int) - 1)).toNat ((z41,(x40.2.1,x40.2.2.1,x40.2.2.2.1,x40.2.2.2.2.1,x40.2.2.2.2.2.1,x40.2.2.2.2.2.2)))))).bind fun y42=>agr x39 y42 (some x39)).bind fun y43=>agr x29 y43 (some x29):Option (((List Tq4)×Int×(List Tq1)))).bind fun (l44,i45,l46)=>some ((qa2,qa3,qa4,qa5,l46,qa7,l44,i45)))
def Ah:Hn Tryz.prog := .mix [] [0,1,2,3,4,5,6,7,8,9,10,11,12,13] [] [] (.cl AP [] (.tw 30 (.wt 34 (.opn 12 1000020 (.per 17 18 (.per 19 20 (.per 21 22 (.cls 12 30 .nil)))))) (.tr (.still [0,1,2,3,5,6] (.alt 4 (.alt 7 (.alt 8 (.alt 9 (.still [10,11] (.alt 12 (.leaf []) .done)) .done) .done) .done) (.alt 7 (.alt 4 (.alt 8 (.alt 9 (.still [10,11] (.alt 12 (.leaf []) .done)) .done) .done) (.alt 8 (.alt 4 (.alt 9 (.still [10,11] (.alt 12 (.leaf []) .done)) .done) .done) .done)) .done))) ⟨[],[bkC 1 150 [.dat (.sl .str),.dat Yq1],bkO 12 (.row 120 (.cons (.row 129 (.dat Yq4)) (.one (.dat Yq3))))]⟩ [1,12] (.two 0 (.wt 41 (.opn 12 1000020 (.cl tR [] (.cls 12 36 .nil)))) (.cl tR [] (.two 0 (.wt 41 (.opn 12 1000020 (.cls 12 36 .nil))) (.wt 41 (.opn 12 1000020 (.cls 12 36 .nil)))))) .nil)))
def Bi:Spec:=⟨94,⟨[(0,.ptr 0 0),(1,.dat (.sl .str)),(2,.ptr 1 0)],[bkN 96 [.is 2 (.dat Yq1),.is 3 (.dat Yq1),.own 78 Yq5,.own 27 Yq2,.own 165 Yq7,.od (.row 126 (.cons (.dat Yq1) (.cons (.dat (.sl Yq5)) (.cons (.row 27 (.dat Yq2)) (.one (.dat Yq2)))))),.od (.row 120 (.cons (.row 129 (.dat Yq4)) (.one (.dat Yq3)))),.dat Yq1],bkN 150 [.dat (.sl .str),.dat Yq1],bkM,bkM]⟩,[⟨[],[bkC 0 96 [.is 2 (.any),.is 3 (.any),.own 78 Yq5,.own 27 Yq2,.own 165 Yq7,.od (.row 126 (.cons (.dat Yq1) (.cons (.dat (.sl Yq5)) (.cons (.row 27 (.dat Yq2)) (.one (.dat Yq2)))))),.od (.row 120 (.cons (.row 129 (.dat Yq4)) (.one (.dat Yq3)))),.dat Yq1],bkC 1 150 [.dat (.sl .str),.dat Yq1],bkU 2,bkU 3]⟩],fun x=>fj x.1 x.2.1 x.2.2.1 x.2.2.2.1 x.2.2.2.2.1 x.2.2.2.2.2.1 x.2.2.2.2.2.2.1 x.2.2.2.2.2.2.2.1 x.2.2.2.2.2.2.2.2.1 x.2.2.2.2.2.2.2.2.2.1 x.2.2.2.2.2.2.2.2.2.2⟩
def zU:OkSpec Tryz.prog:=⟨Bi,ae func94 Ah (by kernel_rfl) (by kernel_rfl),call94⟩

def c6 (xb:Tq4) (qa0:Int) (qa1:Int) (qa2:Tq5) (qa3:(List Tq3)) (qa4:Tq3) (qa5:(List Tq2)) (qa6:(List Tq1)) (qa7:Int) (qb0:(List Tq4)) (qb1:Int):Option ml :=
 cond (decide (xb=([114,101,103,105,111,110,115]:List UInt8))) ((bw qb0 qb1).bind fun (i9,l10,i11)=>(bw l10 i11).bind fun (i12,l13,i14)=>some ((i9,i12,qa2,qa3,qa4,qa5,qa6,1,l13,i14))) (cond (decide (xb=([98,111,117,110,100,115]:List UInt8))) ((fl qb0 qb1).bind fun (l15,l16,i17)=>some ((qa0,qa1,l15,qa3,qa4,qa5,qa6,2,l16,i17))) (cond (decide (xb=([108,111,99,97,108]:List UInt8))) ((ca qb0 qb1).bind fun (l18,l19,i20)=>(app qa3 (([l18]:List Tq3))).bind fun z21=>some ((qa0,qa1,qa2,z21,qa4,qa5,qa6,qa7,l19,i20))) (cond (decide (xb=([103,105,118,101,115]:List UInt8))) ((ca qb0 qb1).bind fun (l22,l23,i24)=>some ((qa0,qa1,qa2,qa3,l22,qa5,qa6,3,l23,i24))) (cond (decide (xb=([115,105,103]:List UInt8))) ((bw qb0 qb1).bind fun (i25,l26,i27)=>(ca l26 i27).bind fun (l28,l29,i30)=>(app (qa5:List Tq2) (([(i25,[],[],l28)]:List Tq2):List Tq2)).bind fun z31=>some ((qa0,qa1,qa2,qa3,qa4,z31,qa6,4,l29,i30))) (cond (decide (xb=([110,101,101,100,115]:List UInt8))) ((fl qb0 qb1).bind fun (l32,l33,i34)=>(aa qa5 (IntKind.wrap .i64 ((qa5.length:Int) - 1))).bind fun _=>(aa qa5 (IntKind.wrap .i64 ((qa5.length:Int) - 1))).bind fun x35=>(az (IntKind.wrap .i64 ((qa5.length:Int) - 1)) (IntKind.wrap .i64 ((qa5.length:Int) - 1))).bind fun _=>some ((qa0,qa1,qa2,qa3,qa4,qa5.set (IntKind.wrap .i64 ((qa5.length:Int) - 1)).toNat (x35.1,l32,x35.2.2.1,x35.2.2.2),qa6,5,l33,i34))) (cond (decide (xb=([97,114,103]:List UInt8))) ((aa qa5 (IntKind.wrap .i64 ((qa5.length:Int) - 1))).bind fun _=>(((aa qa5 (IntKind.wrap .i64 ((qa5.length:Int) - 1))).bind fun x36=>(az (IntKind.wrap .i64 ((qa5.length:Int) - 1)) (IntKind.wrap .i64 ((qa5.length:Int) - 1))).bind fun _=>(ca qb0 qb1).bind fun (l37,l38,i39)=>(app x36.2.2.1 (([l37]:List Tq3))).bind fun z40=>(az (IntKind.wrap .i64 ((qa5.length:Int) - 1)) (IntKind.wrap .i64 ((qa5.length:Int) - 1))).bind fun _=>some ((l38,i39,qa5.set (IntKind.wrap .i64 ((qa5.length:Int) - 1)).toNat (x36.1,x36.2.1,z40,x36.2.2.2)))).bind fun x41=>((ca qb0 qb1).bind fun (l42,l43,i44)=>((aa qa5 (IntKind.wrap .i64 ((qa5.length:Int) - 1))).bind fun x45=>(az (IntKind.wrap .i64 ((qa5.length:Int) - 1)) (IntKind.wrap .i64 ((qa5.length:Int) - 1))).bind fun _=>(app x45.2.2.1 (([l42]:List Tq3))).bind fun z46=>(az (IntKind.wrap .i64 ((qa5.length:Int) - 1)) (IntKind.wrap .i64 ((qa5.length:Int) - 1))).bind fun _=>some ((l43,i44,qa5.set (IntKind.wrap .i64 ((qa5.length:Int) - 1)).toNat (x45.1,x45.2.1,z46,x45.2.2.2)))).bind fun x47=>((aa qa5 (IntKind.wrap .i64 ((qa5.length:Int) - 1))).bind fun x48=>(az (IntKind.wrap .i64 ((qa5.length:Int) - 1)) (IntKind.wrap .i64 ((qa5.length:Int) - 1))).bind fun _=>(app x48.2.2.1 (([l42]:List Tq3))).bind fun z49=>(az (IntKind.wrap .i64 ((qa5.length:Int) - 1)) (IntKind.wrap .i64 ((qa5.length:Int) - 1))).bind fun _=>some ((l43,i44,qa5.set (IntKind.wrap .i64 ((qa5.length:Int) - 1)).toNat (x48.1,x48.2.1,z49,x48.2.2.2)))).bind fun y50=>agr x47 y50 (some x47)).bind fun y51=>agr x41 y51 (some x41):Option (((List Tq4)×Int×(List Tq2)))).bind fun (l52,i53,l54)=>some ((qa0,qa1,qa2,qa3,qa4,l54,qa6,qa7,l52,i53))) (cond (decide (xb=([98,108,111,99,107]:List UInt8))) ((app (qa6:List Tq1) (([([],(0,0,0,[],[],[]))]:List Tq1):List Tq1)).bind fun z55=>some ((qa0,qa1,qa2,qa3,qa4,qa5,z55,6,qb0,qb1))) (some ((qa0,qa1,qa2,qa3,qa4,qa5,qa6,qa7,qb0,qb1))))))))))
def CZ:Hn Tryz.prog := .tw 13 (.cl cZ [] (.cl cZ [] .nil)) (.tw 28 (.cl tM [] .nil) (.tw 38 (.mix [([0,1,2,3,4,5],6),([],7),([],8)] [9,10] [11] [4,1] (.cl jF [] (.per 15 16 .nil))) (.tw 51 (.cl jF [] .nil) (.tw 61 (.cl cZ [] (.cl jF [] (.per 20 21 (.mix [([0,1,2,3,4,5],6),([],7)] [8,9] [10] [8] (.ot (.cons (.dat Yq1) (.cons (.dat (.sl Yq5)) (.cons (.row 27 (.dat Yq2)) (.one (.dat Yq2))))) (.ot (.cons (.dat Yq1) (.cons (.dat (.sl Yq5)) (.cons (.row 27 (.dat Yq2)) (.one (.dat Yq2))))) .nil)))))) (.tw 82 (.mix [([0,1,2,3,4,5,6,7,8,9,10],11)] [12,13] [14] [1] (.cl tM [] (.wt 97 (.opn 8 1000093 (.per 15 16 (.cls 8 21 .nil)))))) (.tw 101 (.mix [] [0,1,2,3,4,5,6,7,8,9,10,11] [] [] (.tr (.still [0,1,2,3,5] (.alt 4 (.alt 6 (.alt 7 (.alt 8 (.still [9,10] (.alt 11 (.leaf []) .done)) .done) .done) .done) (.alt 6 (.alt 4 (.alt 7 (.alt 8 (.still [9,10] (.alt 11 (.leaf []) .done)) .done) .done) (.alt 7 (.alt 4 (.alt 8 (.still [9,10] (.alt 11 (.leaf []) .done)) .done) .done) .done)) .done))) ⟨[],[bkC 1 150 [.dat (.sl .str),.dat Yq1],bkO 8 (.row 126 (.cons (.dat Yq1) (.cons (.dat (.sl Yq5)) (.cons (.row 27 (.dat Yq2)) (.one (.dat Yq2))))))]⟩ [1,8] (.two 0 (.wt 117 (.opn 8 1000112 (.cl jF [] (.per 18 19 (.cls 8 25 .nil))))) (.cl jF [] (.two 0 (.wt 117 (.opn 8 1000112 (.per 15 16 (.cls 8 25 .nil)))) (.per 15 16 (.wt 117 (.opn 8 1000112 (.cls 8 25 .nil))))))) .nil)) (.tw 125 (.ot (.cons (.row 129 (.dat Yq4)) (.one (.dat Yq3))) (.ot (.cons (.row 129 (.dat Yq4)) (.one (.dat Yq3))) .nil)) .nil)))))))
def A6:Spec:=⟨95,⟨[(0,.ptr 0 0),(1,.dat .str),(2,.ptr 1 0)],[bkN 96 [.dat Yq1,.dat Yq1,.own 78 Yq5,.own 27 Yq2,.own 165 Yq7,.od (.row 126 (.cons (.dat Yq1) (.cons (.dat (.sl Yq5)) (.cons (.row 27 (.dat Yq2)) (.one (.dat Yq2)))))),.od (.row 120 (.cons (.row 129 (.dat Yq4)) (.one (.dat Yq3)))),.dat Yq1],bkN 150 [.dat (.sl .str),.dat Yq1]]⟩,[⟨[],[bkC 0 96 [.dat Yq1,.dat Yq1,.own 78 Yq5,.own 27 Yq2,.own 165 Yq7,.od (.row 126 (.cons (.dat Yq1) (.cons (.dat (.sl Yq5)) (.cons (.row 27 (.dat Yq2)) (.one (.dat Yq2)))))),.od (.row 120 (.cons (.row 129 (.dat Yq4)) (.one (.dat Yq3)))),.dat Yq1],bkC 1 150 [.dat (.sl .str),.dat Yq1]]⟩],fun x=>c6 x.1 x.2.1 x.2.2.1 x.2.2.2.1 x.2.2.2.2.1 x.2.2.2.2.2.1 x.2.2.2.2.2.2.1 x.2.2.2.2.2.2.2.1 x.2.2.2.2.2.2.2.2.1 x.2.2.2.2.2.2.2.2.2.1 x.2.2.2.2.2.2.2.2.2.2⟩
def Av:OkSpec Tryz.prog:=⟨A6,ae func95 CZ (by kernel_rfl) (by kernel_rfl),call95⟩

def dq (xb:(List Tq4)) (qa0:Int) (qa1:Int) (qa2:Tq5) (qa3:(List Tq3)) (qa4:Tq3) (qa5:(List Tq2)) (qa6:(List Tq1)) (qa7:Int):Option ((Int×Int×Int×Tq5×(List Tq3)×Tq3×(List Tq2)×(List Tq1)×Int)) :=
 (aa xb 0).bind fun x9=>(aY x9).bind fun (i10,i11)=>(aa xb 0).bind fun x12=>(jZ x12 qa0 qa1 qa2 qa3 qa4 qa5 qa6 qa7).bind fun (t13,l14,l15,l16,l17,l18)=>cond (((!t13)||(decide ((xb.length:Int) < i10)))||(decide (i11 < (xb.length:Int)))) (some ((3,qa0,qa1,l14,l15,l16,l17,l18,qa7))) ((subL xb 1 (xb.length:Int)).bind fun y19=>(cond (decide (qa7=6)) ((fj xb qa0 qa1 l14 l15 l16 l17 l18 qa7 y19 0).bind fun (l20,l21,l22,l23,l24,i25,l26,i27)=>some ((qa0,qa1,l20,l21,l22,l23,l24,i25,l26,i27))) ((aa xb 0).bind fun x28=>(c6 x28 qa0 qa1 l14 l15 l16 l17 l18 qa7 y19 0).bind fun (i29,i30,l31,l32,l33,l34,l35,i36,l37,i38)=>some ((i29,i30,l31,l32,l33,l34,l35,i36,l37,i38))):Option ml).bind fun (i39,i40,l41,l42,l43,l44,l45,i46,l47,i48)=>some ((i48,i39,i40,l41,l42,l43,l44,l45,i46)))
def Az:Hn Tryz.prog := .cl BC [] (.mc 0 0 11 (.mc 0 1 11 (.mc 0 7 11 (.cl AS [] (.gp 4 (.wt 27 (.gp 4 (.tw 32 .nil (.pl (.sq [] ⟨[],[bkC 0 96 [.dat Yq1,.dat Yq1,.own 78 Yq5,.own 27 Yq2,.own 165 Yq7,.od (.row 126 (.cons (.dat Yq1) (.cons (.dat (.sl Yq5)) (.cons (.row 27 (.dat Yq2)) (.one (.dat Yq2)))))),.od (.row 120 (.cons (.row 129 (.dat Yq4)) (.one (.dat Yq3)))),.dat Yq1],bkC 37 150 [.dat (.sl .str),.dat Yq1]]⟩ [37,30,28,26,0,32,34] (.tw 41 (.cl zU [] .nil) (.cl Av [] .nil)) .nil))))))))))
def Bj:Spec:=⟨57,⟨[(0,.ptr 0 0),(1,.dat (.sl .str))],[bkN 96 [.dat Yq1,.dat Yq1,.own 78 Yq5,.own 27 Yq2,.own 165 Yq7,.od (.row 126 (.cons (.dat Yq1) (.cons (.dat (.sl Yq5)) (.cons (.row 27 (.dat Yq2)) (.one (.dat Yq2)))))),.od (.row 120 (.cons (.row 129 (.dat Yq4)) (.one (.dat Yq3)))),.dat Yq1]]⟩,[⟨[kdI 0],[bkC 0 96 [.dat Yq1,.dat Yq1,.own 78 Yq5,.own 27 Yq2,.own 165 Yq7,.od (.row 126 (.cons (.dat Yq1) (.cons (.dat (.sl Yq5)) (.cons (.row 27 (.dat Yq2)) (.one (.dat Yq2)))))),.od (.row 120 (.cons (.row 129 (.dat Yq4)) (.one (.dat Yq3)))),.dat Yq1]]⟩],fun x=>dq x.1 x.2.1 x.2.2.1 x.2.2.2.1 x.2.2.2.2.1 x.2.2.2.2.2.1 x.2.2.2.2.2.2.1 x.2.2.2.2.2.2.2.1 x.2.2.2.2.2.2.2.2⟩
def pi:OkSpec Tryz.prog:=⟨Bj,ae func57 Az (by kernel_rfl) (by kernel_rfl),call57⟩

def f6 (qa0:Int) (qa1:Int) (qa2:Tq5) (qa3:(List Tq3)) (qa4:Tq3) (qa5:(List Tq2)) (qa6:(List Tq1)) (qa7:Int):Option ((Bool×Tq5×(List Tq3)×Tq3×(List Tq2)×(List Tq1))) :=
 some ((((decide (qa7=3))||(decide (qa7=5)))||(decide (qa7=7)),qa2,qa3,qa4,qa5,qa6))
def AD:Hn Tryz.prog := .gp 5 (.wt 15 (.gp 5 .nil))
def A4:Spec:=⟨58,⟨[(0,.ptr 0 0)],[bkN 96 [.is 1 (.dat Yq1),.is 2 (.dat Yq1),.own 78 Yq5,.own 27 Yq2,.own 165 Yq7,.od (.row 126 (.cons (.dat Yq1) (.cons (.dat (.sl Yq5)) (.cons (.row 27 (.dat Yq2)) (.one (.dat Yq2)))))),.od (.row 120 (.cons (.row 129 (.dat Yq4)) (.one (.dat Yq3)))),.is 3 (.dat Yq1)],bkM,bkM,bkM]⟩,[⟨[kdB 0],[bkC 0 96 [.is 1 (.any),.is 2 (.any),.own 78 Yq5,.own 27 Yq2,.own 165 Yq7,.od (.row 126 (.cons (.dat Yq1) (.cons (.dat (.sl Yq5)) (.cons (.row 27 (.dat Yq2)) (.one (.dat Yq2)))))),.od (.row 120 (.cons (.row 129 (.dat Yq4)) (.one (.dat Yq3)))),.is 3 (.any)],bkU 1,bkU 2,bkU 3]⟩],fun x=>f6 x.1 x.2.1 x.2.2.1 x.2.2.2.1 x.2.2.2.2.1 x.2.2.2.2.2.1 x.2.2.2.2.2.2.1 x.2.2.2.2.2.2.2⟩
def oY:OkSpec Tryz.prog:=⟨A4,ae func58 AD (by kernel_rfl) (by kernel_rfl),call58⟩
def uk  : Tq7→Option (Tq7⊕(Tq7⊕Tq9)):=fun (i1,i2,l3,l4,l5,l6,l7,i9,i10,s11)=>cond (decide (0 < (s11.length:Int))) ((ub s11).bind fun (v12,v13)=>(subL s11 0 v13).bind fun y14=>(cH y14 ([32]:List UInt8)).bind fun l15=>(fZ l15).bind fun l16=>(cond (decide ((l16.length:Int)=0)) (some (true)) ((aa l16 0).bind fun x17=>(dN x17 ([35]:List UInt8)).bind fun t18=>some (t18))).bind fun t19=>cond (t19) ((subL s11 v13 (s11.length:Int)).bind fun y20=>some (.inl ((i1,i2,l3,l4,l5,l6,l7,i9,IntKind.wrap .i64 (i10 + 1),y20)))) ((dq l16 i1 i2 l3 l4 l5 l6 l7 i9).bind fun (i21,i22,i23,l24,l25,l26,l27,l28,i29)=>cond (!decide (i21=0)) (some (.inr ((.inr ((0,0,[],[],[],[],[],IntKind.wrap .i64 (i10 + 1),i21)))))) ((subL s11 v13 (s11.length:Int)).bind fun y30=>some (.inl ((i22,i23,l24,l25,l26,l27,l28,i29,IntKind.wrap .i64 (i10 + 1),y30)))))) (some (.inr ((.inl (i1,i2,l3,l4,l5,l6,l7,i9,i10,s11)))))
def fu (s1:List UInt8) (i2:Int):Tq7→Option (Tq7⊕(Tq7⊕Tq9)):=fun (i3,i4,l5,l6,l7,l9,l10,i11,i12,s13)=>(il s13 s1).bind fun i14=>cond (decide (i14 < 0)) (some (.inr ((.inl (i3,i4,l5,l6,l7,l9,l10,i11,i12,s13))))) ((subL s13 0 (IntKind.wrap .i64 (i14 + i2))).bind fun y15=>(cH y15 ([32]:List UInt8)).bind fun l16=>(fZ l16).bind fun l17=>(cond (decide ((l17.length:Int)=0)) (some (true)) ((aa l17 0).bind fun x18=>(dN x18 ([35]:List UInt8)).bind fun t19=>some (t19))).bind fun t20=>cond (t20) ((subL s13 (IntKind.wrap .i64 (i14 + (s1.length:Int))) (s13.length:Int)).bind fun y21=>some (.inl ((i3,i4,l5,l6,l7,l9,l10,i11,IntKind.wrap .i64 (i12 + 1),y21)))) ((dq l17 i3 i4 l5 l6 l7 l9 l10 i11).bind fun (i22,i23,i24,l25,l26,l27,l28,l29,i30)=>cond (!decide (i22=0)) (some (.inr ((.inr ((0,0,[],[],[],[],[],IntKind.wrap .i64 (i12 + 1),i22)))))) ((subL s13 (IntKind.wrap .i64 (i14 + (s1.length:Int))) (s13.length:Int)).bind fun y31=>some (.inl ((i23,i24,l25,l26,l27,l28,l29,i30,IntKind.wrap .i64 (i12 + 1),y31))))))
def iP (xa:Tq4):Option (Tq9) :=
 cond (decide (1048576 < (xa.length:Int))) (some ((0,0,[],[],[],[],[],0,5))) ((mH xa ([10]:List UInt8)).bind fun (s1,s2,i3)=>cond (decide ((s1.length:Int)=0)) ((loop (uk) (0,0,[],[],[],[],[],0,0,s2)).bind fun o=>match o with | .inr r=>some r | .inl (i4,i5,l6,l7,l9,l10,l11,i12,i13,s14)=>(f6 i4 i5 l6 l7 l9 l10 l11 i12).bind fun (t15,l16,l17,l18,l19,l20)=>cond (!t15) (some ((0,0,[],[],[],[],[],0,14))) (some ((i4,i5,l16,l17,l18,l19,l20,0,0)))) ((loop (fu s1 i3) (0,0,[],[],[],[],[],0,0,s2)).bind fun o=>match o with | .inr r=>some r | .inl (i21,i22,l23,l24,l25,l26,l27,i28,i29,s30)=>(cH s30 ([32]:List UInt8)).bind fun l31=>(fZ l31).bind fun l32=>(cond (decide ((l32.length:Int)=0)) (some (true)) ((aa l32 0).bind fun x33=>(dN x33 ([35]:List UInt8)).bind fun t34=>some (t34))).bind fun t35=>cond (t35) ((f6 i21 i22 l23 l24 l25 l26 l27 i28).bind fun (t36,l37,l38,l39,l40,l41)=>cond (!t36) (some ((0,0,[],[],[],[],[],0,14))) (some ((i21,i22,l37,l38,l39,l40,l41,0,0)))) ((dq l32 i21 i22 l23 l24 l25 l26 l27 i28).bind fun (i42,i43,i44,l45,l46,l47,l48,l49,i50)=>cond (!decide (i42=0)) (some ((0,0,[],[],[],[],[],IntKind.wrap .i64 (i29 + 1),i42))) ((f6 i43 i44 l45 l46 l47 l48 l49 i50).bind fun (t51,l52,l53,l54,l55,l56)=>cond (!t51) (some ((0,0,[],[],[],[],[],0,14))) (some ((i43,i44,l52,l53,l54,l55,l56,0,0)))))))
def Cm:Hn Tryz.prog := .tw 12 .nil (.cl AM [] (.rg ⟨119,_,func119,call119⟩ (.tw 11 (.jx [] ⟨[],[bkC 0 31 [.lit (.int .i64 0),.lit (.int .i64 0),.nils,.nils,.nils,.nils,.nils],bkC 2 3 [.lit (.int .i64 0)],bkC 4 35 [.lit (.int .i64 0)],bkC 6 96 [.dat Yq1,.dat Yq1,.own 78 Yq5,.own 27 Yq2,.own 165 Yq7,.od (.row 126 (.cons (.dat Yq1) (.cons (.dat (.sl Yq5)) (.cons (.row 27 (.dat Yq2)) (.one (.dat Yq2)))))),.od (.row 120 (.cons (.row 129 (.dat Yq4)) (.one (.dat Yq3)))),.dat Yq1],bkC 9 3 [.dat Yq1],bkC 13 9 [.dat .str],⟨(some 18),0,[],false,false,none,true⟩]⟩ [18,13,9,6,4,2,0] (.lp ⟨[],[bkC 0 31 [.lit (.int .i64 0),.lit (.int .i64 0),.nils,.nils,.nils,.nils,.nils],bkC 2 3 [.lit (.int .i64 0)],bkC 4 35 [.lit (.int .i64 0)],bkC 6 96 [.dat Yq1,.dat Yq1,.own 78 Yq5,.own 27 Yq2,.own 165 Yq7,.od (.row 126 (.cons (.dat Yq1) (.cons (.dat (.sl Yq5)) (.cons (.row 27 (.dat Yq2)) (.one (.dat Yq2)))))),.od (.row 120 (.cons (.row 129 (.dat Yq4)) (.one (.dat Yq3)))),.dat Yq1],bkC 9 3 [.dat Yq1],bkC 13 9 [.dat .str],⟨(some 18),0,[],false,false,none,true⟩]⟩ (.tw 14 (.cl CC [] (.yl 4 (.cl fH [] (.cl oS [] (.gj 4 ⟨[kdB 31],[]⟩ [] (.two 26 .nil (.cl ma [] .nil)) (.tw 31 .nil (.cl pi [] (.tw 35 (.mix [([0,1,2],3),([],4)] [] [5] [0,2] .nil) .nil)))))))) .nil)) (.wt 1000035 (.mc 6 0 32 (.mc 6 1 32 (.mc 6 7 32 (.cl oY [] (.tw 40 .nil .nil))))))) (.jx [] ⟨[],[bkC 0 31 [.lit (.int .i64 0),.lit (.int .i64 0),.nils,.nils,.nils,.nils,.nils],bkC 2 3 [.lit (.int .i64 0)],bkC 4 35 [.lit (.int .i64 0)],bkC 6 96 [.dat Yq1,.dat Yq1,.own 78 Yq5,.own 27 Yq2,.own 165 Yq7,.od (.row 126 (.cons (.dat Yq1) (.cons (.dat (.sl Yq5)) (.cons (.row 27 (.dat Yq2)) (.one (.dat Yq2)))))),.od (.row 120 (.cons (.row 129 (.dat Yq4)) (.one (.dat Yq3)))),.dat Yq1],bkC 9 3 [.dat Yq1],bkC 13 9 [.dat .str],⟨(some 18),0,[],false,false,none,true⟩]⟩ [18,13,9,6,4,2,0] (.lp ⟨[],[bkC 0 31 [.lit (.int .i64 0),.lit (.int .i64 0),.nils,.nils,.nils,.nils,.nils],bkC 2 3 [.lit (.int .i64 0)],bkC 4 35 [.lit (.int .i64 0)],bkC 6 96 [.dat Yq1,.dat Yq1,.own 78 Yq5,.own 27 Yq2,.own 165 Yq7,.od (.row 126 (.cons (.dat Yq1) (.cons (.dat (.sl Yq5)) (.cons (.row 27 (.dat Yq2)) (.one (.dat Yq2)))))),.od (.row 120 (.cons (.row 129 (.dat Yq4)) (.one (.dat Yq3)))),.dat Yq1],bkC 9 3 [.dat Yq1],bkC 13 9 [.dat .str],⟨(some 18),0,[],false,false,none,true⟩]⟩ (.cl wl [] (.tw 33 .nil (.wt 8 (.yl 2 (.cl fH [] (.cl oS [] (.gj 4 ⟨[kdB 31],[]⟩ [] (.two 26 .nil (.cl ma [] .nil)) (.tw 31 .nil (.cl pi [] (.tw 35 (.mix [([0,1,2],3),([],4)] [] [5] [0,2] .nil) .nil))))))))))) (.yl 2 (.cl fH [] (.cl oS [] (.gj 4 ⟨[kdB 31],[]⟩ [] (.two 26 .nil (.cl ma [] .nil)) (.tw 31 (.wt 1000040 (.mc 6 0 32 (.mc 6 1 32 (.mc 6 7 32 (.cl oY [] (.tw 40 .nil .nil)))))) (.cl pi [] (.tw 35 (.mix [([0,1,2],3),([],4)] [] [5] [0,2] .nil) (.mc 6 0 61 (.mc 6 1 61 (.mc 6 7 61 (.cl oY [] (.tw 40 .nil .nil))))))))))))))))
def zD:Spec:=⟨25,⟨[(0,.dat .str)],[]⟩,[⟨[(0,.tup [.agg [.dat Yq1,.dat Yq1,.own 78 Yq5,.own 27 Yq2,.own 165 Yq7,.od (.row 126 (.cons (.dat Yq1) (.cons (.dat (.sl Yq5)) (.cons (.row 27 (.dat Yq2)) (.one (.dat Yq2)))))),.od (.row 120 (.cons (.row 129 (.dat Yq4)) (.one (.dat Yq3))))],.dat Yq1,.dat Yq1])],[]⟩],fun x=>iP x⟩
def CO:OkSpec Tryz.prog:=⟨zD,ae func25 Cm (by kernel_rfl) (by kernel_rfl),call25⟩
def fp (xa:(List Tq4)):(Tq6×Int)→Option ((Tq6×Int)⊕(Tq6⊕(Tq6×Int×Int))):=fun (l1,i2)=>cond (decide (i2 < (xa.length:Int))) ((aa xa i2).bind fun x3=>(iG x3).bind fun l4=>(cond (decide ((l4.length:Int)=0)) (some (true)) ((aa l4 0).bind fun x5=>(dN x5 ([35]:List UInt8)).bind fun t6=>some (t6))).bind fun t7=>cond (t7) (some (.inl ((l1,IntKind.wrap .i64 (i2 + 1))))) ((ge l4).bind fun (i9,i10,i11,i12,i13,i14)=>(cond ((decide (i14=0))&&(decide ((l1.length:Int)=400))) (some (10)) (some (i14)):Option Int).bind fun i15=>cond (!decide (i15=0)) (some (.inr ((.inr (([],IntKind.wrap .i64 (i2 + 1),i15)))))) ((app l1 (([(i9,(i10,i11,i12,i13))]:List (Int×(Int×Int×Int×Int))))).bind fun z16=>some (.inl ((z16,IntKind.wrap .i64 (i2 + 1))))))) (some (.inr (.inl l1)))
def ka (xa:(List Tq4)):Option ((Tq6×Int×Int)) :=
 (loop (fp xa) ([],0)).bind fun o=>match o with | .inr r=>some r | .inl l1=>some ((l1,0,0))
def zp:Hn Tryz.prog := .jx [] ⟨[(5,.own 59 Yq8)],[]⟩ [] (.lp ⟨[(5,.own 59 Yq8),kdI 13],[]⟩ (.tw 14 (.cl tU [] (.gj 4 ⟨[kdB 28],[]⟩ [] (.two 23 .nil (.cl ma [] .nil)) (.tw 28 .nil (.cl oZ [] (.sq [] ⟨[kdI 10],[]⟩ [] (.gp 3 (.tw 40 .nil .nil)) (.tw 42 .nil .nil)))))) .nil)) .nil
def zr:Spec:=⟨27,⟨[(0,.dat (.sl .str))],[]⟩,[⟨[(0,.tup [.own 59 Yq8,.dat Yq1,.dat Yq1])],[]⟩],fun x=>ka x⟩
def Bc:OkSpec Tryz.prog:=⟨zr,ae func27 zp (by kernel_rfl) (by kernel_rfl),call27⟩

def kj (xa:Tq4):Option (oV) :=
 cond (decide (1048576 < (xa.length:Int))) (some ((0,0,[],[],[],[],[],[],0,5))) ((cH xa ([10]:List UInt8)).bind fun l1=>(jS l1).bind fun i2=>(cond (decide (0≤i2)) ((subL l1 0 i2).bind fun y3=>some (y3)) (some (l1)):Option ((List Tq4))).bind fun l4=>(cV l4 ([10]:List UInt8)).bind fun s5=>(iP s5).bind fun (i6,i7,l9,l10,l11,l12,l13,i14,i15)=>cond (!decide (i15=0)) (some ((0,0,[],[],[],[],[],[],i14,i15))) (cond (decide (i2 < 0)) (some ((0,0,[],[],[],[],[],[],0,14))) ((subL l1 (IntKind.wrap .i64 (i2 + 1)) (l1.length:Int)).bind fun y16=>(ka y16).bind fun (l17,i18,i19)=>cond (!decide (i19=0)) (some ((0,0,[],[],[],[],[],[],IntKind.wrap .i64 ((IntKind.wrap .i64 (i2 + 1)) + i18),i19))) (some ((i6,i7,l9,l10,l11,l12,l13,l17,0,0))))))
def Ct:Hn Tryz.prog := .tw 14 .nil (.cl fH [] (.cl BE [2] (.pl (.per 2 3 (.sq [] ⟨[(7,.dat (.sl .str))],[]⟩ [] (.tw 22 .nil .nil) (.cl jh [] (.cl CO [] (.tw 34 .nil (.tw 39 .nil (.cl Bc [] (.tw 51 .nil .nil)))))))))))
def Cc:Spec:=⟨6,⟨[(0,.dat .str)],[]⟩,[⟨[(0,.tup [.agg [.dat Yq1,.dat Yq1,.own 78 Yq5,.own 27 Yq2,.own 165 Yq7,.od (.row 126 (.cons (.dat Yq1) (.cons (.dat (.sl Yq5)) (.cons (.row 27 (.dat Yq2)) (.one (.dat Yq2)))))),.od (.row 120 (.cons (.row 129 (.dat Yq4)) (.one (.dat Yq3)))),.own 59 Yq8],.dat Yq1,.dat Yq1])],[]⟩],fun x=>kj x⟩
def CW:OkSpec Tryz.prog:=⟨Cc,ae func6 Ct (by kernel_rfl) (by kernel_rfl),call6⟩
def gh (xa:Tq4) (xb:Int):ie→Option (ie⊕(List Tq4)):=fun (l1,i2,i3)=>cond (decide (i3≤(xa.length:Int))) ((cond (decide (i3=(xa.length:Int))) (some (true)) ((aa xa i3).bind fun x4=>some (decide ((((x4.toNat:Nat):Int))=xb)))).bind fun t5=>cond (t5) ((subL xa i2 i3).bind fun y6=>(app l1 (([y6]:List Tq4))).bind fun z7=>some (.inl ((z7,IntKind.wrap .i64 (i3 + 1),IntKind.wrap .i64 (i3 + 1))))) (some (.inl ((l1,i2,IntKind.wrap .i64 (i3 + 1)))))) (some (.inr (l1)))
def da (xa:Tq4) (xb:Int):Option ((List Tq4)) :=
 (loop (gh xa xb) ((([]:List Tq4),0,0))).bind fun l1=>some (l1)
def Ac:Hn Tryz.prog := .jn [] ⟨[(5,.own 9 .str),(8,.any)],[]⟩ [0] (.lp ⟨[(5,.own 9 .str),kdI 6,kdI 7],[]⟩ (.tw 12 (.gj 5 ⟨[kdB 25],[]⟩ [] (.two 19 .nil .nil) (.tw 25 .nil .nil)) .nil)) .nil
def BT:Spec:=⟨28,⟨[(0,.dat .str),(1,.dat (.int .u8))],[]⟩,[⟨[(0,.own 9 .str)],[]⟩],fun x=>da x.1 x.2⟩
def mg:OkSpec Tryz.prog:=⟨BT,ae func28 Ac (by kernel_rfl) (by kernel_rfl),call28⟩
def iB (l1:(List Tq4)):((List Tq4)×Int)→Option (((List Tq4)×Int)⊕(List Tq4)):=fun (l2,i3)=>cond (decide (i3 < (l1.length:Int))) ((aa l1 i3).bind fun x4=>cond (!decide (x4=([]:List UInt8))) ((aa l1 i3).bind fun x5=>(app l2 (([x5]:List Tq4))).bind fun z6=>some (.inl ((z6,IntKind.wrap .i64 (i3 + 1))))) (some (.inl ((l2,IntKind.wrap .i64 (i3 + 1)))))) (some (.inr (l2)))
def fv (xa:Tq4):Option ((List Tq4)) :=
 (da xa 32).bind fun l1=>(loop (iB l1) ((([]:List Tq4),0))).bind fun l2=>some (l2)
def Ba:Hn Tryz.prog := .cl mg [] (.jn [] ⟨[(3,.own 9 .str),(6,.any)],[]⟩ [0] (.lp ⟨[(3,.own 9 .str),kdI 5],[]⟩ (.tw 12 (.tw 19 .nil .nil) .nil)) .nil)
def CP:Spec:=⟨15,⟨[(0,.dat .str)],[]⟩,[⟨[(0,.own 9 .str)],[]⟩],fun x=>fv x⟩
def pu:OkSpec Tryz.prog:=⟨CP,ae func15 Ba (by kernel_rfl) (by kernel_rfl),call15⟩
def gf (xa:(List Tq4)):(List UInt8×Int)→Option ((List UInt8×Int)⊕(List UInt8⊕(List UInt8×Int×Bool))):=fun (s1,i2)=>cond (decide (i2 < (xa.length:Int))) ((aa xa i2).bind fun x3=>(fv x3).bind fun l4=>(cond (decide ((l4.length:Int)=1)) ((aa l4 0).bind fun x5=>some (decide (x5=([116,104,101,110]:List UInt8)))) (some (false))).bind fun t6=>cond (t6) (some (.inr ((.inr ((s1,i2,true)))))) ((aa xa i2).bind fun x7=>(app s1 x7).bind fun z9=>(app z9 ([10]:List UInt8)).bind fun z10=>some (.inl ((z10,IntKind.wrap .i64 (i2 + 1)))))) (some (.inr (.inl s1)))
def ku (xa:(List Tq4)):Option (List UInt8×Int×Bool) :=
 (loop (gf xa) ((([]:List UInt8),0))).bind fun o=>match o with | .inr r=>some r | .inl s1=>some ((s1,0,false))
def A3:Hn Tryz.prog := .jx [] ⟨[(5,.dat .str)],[]⟩ [] (.lp ⟨[(5,.dat .str),kdI 6],[]⟩ (.tw 11 (.cl pu [] (.gj 4 ⟨[kdB 27],[]⟩ [] (.two 22 .nil .nil) (.tw 27 .nil .nil))) .nil)) .nil
def BF:Spec:=⟨29,⟨[(0,.dat (.sl .str))],[]⟩,[⟨[(0,.tup [.dat .str,.dat Yq1,.dat .bool])],[]⟩],fun x=>ku x⟩
def Al:OkSpec Tryz.prog:=⟨BF,ae func29 A3 (by kernel_rfl) (by kernel_rfl),call29⟩
def pD (xa:Tq4):Int→Option (Int⊕(Unit⊕Bool)):=fun i1=>cond (decide (i1 < (xa.length:Int))) ((aa xa i1).bind fun x2=>(cond (decide ((((x2.toNat:Nat):Int)) < 48)) (some (true)) ((aa xa i1).bind fun x3=>some (decide (57 < (((x3.toNat:Nat):Int)))))).bind fun t4=>cond (t4) (some (.inr ((.inr (false))))) (some (.inl (IntKind.wrap .i64 (i1 + 1))))) (some (.inr ((.inl ()))))
def kv (xa:Tq4):Option Bool :=
 (loop (pD xa) 0).bind fun o=>match o with | .inr r=>some r | .inl ()=>(cond (decide ((xa.length:Int)=1)) (some (true)) ((cond (decide (1 < (xa.length:Int))) ((aa xa 0).bind fun x1=>some (!decide ((((x1.toNat:Nat):Int))=48))) (some (false))).bind fun t2=>some (t2))).bind fun t3=>some (t3)
def BI:Hn Tryz.prog := .jx [] ⟨[],[]⟩ [] (.lp ⟨[kdI 3],[]⟩ (.tw 7 (.gj 4 ⟨[kdB 19],[]⟩ [] (.two 14 .nil .nil) (.tw 19 .nil .nil)) .nil)) (.gj 8 ⟨[kdB 32],[]⟩ [] (.two 23 .nil (.wt 27 (.gj 3 ⟨[kdB 31],[]⟩ [] (.two 27 .nil .nil) .nil))) .nil)
def zG:Spec:=⟨80,⟨[(0,.dat .str)],[]⟩,[⟨[kdB 0],[]⟩],fun x=>kv x⟩
def BM:OkSpec Tryz.prog:=⟨zG,ae func80 BI (by kernel_rfl) (by kernel_rfl),call80⟩
def eA (xa:Tq4):aU→Option (aU⊕(Int⊕aU)):=fun (i1,i2)=>cond (decide (i2 < (xa.length:Int))) ((aa xa i2).bind fun x3=>cond ((decide (922337203685477580 < i1))||((decide (i1=922337203685477580))&&(decide (7 < (IntKind.wrap .i64 (IntKind.wrap .u8 ((((x3.toNat:Nat):Int)) - 48))))))) (some (.inr ((.inr ((0,5)))))) (some (.inl ((IntKind.wrap .i64 ((IntKind.wrap .i64 (i1 * 10)) + (IntKind.wrap .i64 (IntKind.wrap .u8 ((((x3.toNat:Nat):Int)) - 48)))),IntKind.wrap .i64 (i2 + 1)))))) (some (.inr (.inl i1)))
def bU (xa:Tq4) (xb:Int):Option aU :=
 (kv xa).bind fun t1=>cond (!t1) (some ((0,3))) ((loop (eA xa) (0,0)).bind fun o=>match o with | .inr r=>some r | .inl i2=>cond (decide (xb < i2)) (some ((0,5))) (some ((i2,0))))
def BD:Hn Tryz.prog := .cl BM [] (.tw 11 .nil (.jx [] ⟨[kdI 6],[]⟩ [] (.lp ⟨[kdI 6,kdI 7],[]⟩ (.tw 15 (.gp 6 (.tw 32 .nil .nil)) .nil)) (.tw 39 .nil .nil)))
def CN:Spec:=⟨38,⟨[(0,.dat .str),kdI 1],[]⟩,[⟨[(0,.tup [.dat Yq1,.dat Yq1])],[]⟩],fun x=>bU x.1 x.2⟩
def hP:OkSpec Tryz.prog:=⟨CN,ae func38 BD (by kernel_rfl) (by kernel_rfl),call38⟩

def cq (xa:Tq4) (xb:Int):Option aU :=
 (bU xa 1048576).bind fun (i13,i14)=>cond (!decide (xb=0)) (some ((0,xb))) (some ((i13,i14)))
def Cb:Hn Tryz.prog := .cl hP [] (.tw 14 .nil .nil)
def zA:Spec:=⟨100,⟨[(0,.dat .str),kdI 1],[]⟩,[⟨[(0,.tup [.dat Yq1,.dat Yq1])],[]⟩],fun x=>cq x.1 x.2⟩
def eZ:OkSpec Tryz.prog:=⟨zA,ae func100 Cb (by kernel_rfl) (by kernel_rfl),call100⟩
def j5 (xa:Tq4) (xb:Int):Int→Option (Int⊕(Unit⊕(Int×Int×Int))):=fun i1=>cond (decide (i1 < (xa.length:Int))) ((aa xa i1).bind fun x2=>cond (!decide ((((x2.toNat:Nat):Int))=58)) (some (.inl (IntKind.wrap .i64 (i1 + 1)))) ((subL xa 0 i1).bind fun y3=>(bU y3 xb).bind fun (i4,i5)=>cond (!decide (i5=0)) (some (.inr ((.inr ((0,0,i5)))))) ((subL xa (IntKind.wrap .i64 (i1 + 1)) (xa.length:Int)).bind fun y6=>(bU y6 xb).bind fun (i7,i9)=>cond (!decide (i9=0)) (some (.inr ((.inr ((0,0,i9)))))) (some (.inr ((.inr ((i4,i7,0))))))))) (some (.inr ((.inl ()))))
def f8 (xa:Tq4) (xb:Int):Option (Int×Int×Int) :=
 (loop (j5 xa xb) 0).bind fun o=>match o with | .inr r=>some r | .inl ()=>some ((0,0,3))
def BV:Hn Tryz.prog := .jx [] ⟨[],[bkC 0 78 [.lit (.int .i64 0),.lit (.int .i64 0)]]⟩ [0] (.lp ⟨[kdI 6],[bkC 0 78 [.lit (.int .i64 0),.lit (.int .i64 0)]]⟩ (.tw 14 (.tw 20 .nil (.cl hP [] (.tw 30 .nil (.cl hP [] (.tw 43 .nil .nil))))) .nil)) .nil
def zL:Spec:=⟨36,⟨[(0,.dat .str),kdI 1],[]⟩,[⟨[(0,.tup [.agg [.dat Yq1,.dat Yq1],.dat Yq1])],[]⟩],fun x=>f8 x.1 x.2⟩
def tW:OkSpec Tryz.prog:=⟨zL,ae func36 BV (by kernel_rfl) (by kernel_rfl),call36⟩
def ga (xa:(List Tq4)):(Tq5×Int)→Option ((Tq5×Int)⊕(Tq5⊕(Tq5×Int))):=fun (l1,i2)=>cond (decide (i2 < (xa.length:Int))) ((aa xa i2).bind fun x3=>(f8 x3 1048576).bind fun (i4,i5,i6)=>cond (!decide (i6=0)) (some (.inr ((.inr (([],i6)))))) ((app l1 (([(i4,i5)]:List aU))).bind fun z7=>some (.inl ((z7,IntKind.wrap .i64 (i2 + 1)))))) (some (.inr (.inl l1)))
def iN (xa:(List Tq4)):Option ((Tq5×Int)) :=
 (loop (ga xa) ((([]:List aU),1))).bind fun o=>match o with | .inr r=>some r | .inl l1=>some ((l1,0))
def CR:Hn Tryz.prog := .jx [] ⟨[(4,.own 78 Yq5),(8,.any)],[]⟩ [0] (.lp ⟨[(4,.own 78 Yq5),kdI 5],[]⟩ (.tw 12 (.cl tW [] (.tw 24 .nil .nil)) .nil)) .nil
def BA:Spec:=⟨101,⟨[(0,.dat (.sl .str))],[]⟩,[⟨[(0,.tup [.own 78 Yq5,.dat Yq1])],[]⟩],fun x=>iN x⟩
def tN:OkSpec Tryz.prog:=⟨BA,ae func101 CR (by kernel_rfl) (by kernel_rfl),call101⟩
def iu (l1:(List Tq4)):(Tq3×Int)→Option ((Tq3×Int)⊕(Tq3⊕(Tq3×Int))):=fun (l2,i3)=>cond (decide (i3 < (l1.length:Int))) ((aa l1 i3).bind fun x4=>(cond (decide (0 < (x4.length:Int))) ((aa x4 (IntKind.wrap .i64 ((x4.length:Int) - 1))).bind fun x5=>some (decide ((((x5.toNat:Nat):Int))=33))) (some (false))).bind fun t6=>(cond (t6) ((subL x4 0 (IntKind.wrap .i64 ((x4.length:Int) - 1))).bind fun y7=>some (y7)) (some (x4)):Option Tq4).bind fun s9=>(bU s9 1048576).bind fun (i10,i11)=>cond (!decide (i11=0)) (some (.inr ((.inr (([],i11)))))) ((app l2 (([(i10,t6)]:List (Int×Bool)))).bind fun z12=>some (.inl ((z12,IntKind.wrap .i64 (i3 + 1)))))) (some (.inr (.inl l2)))
def iy (xa:Tq4):Option ((Tq3×Int)) :=
 cond (decide (xa=([45]:List UInt8))) (some (([],0))) ((da xa 47).bind fun l1=>(loop (iu l1) ((([]:List (Int×Bool)),0))).bind fun o=>match o with | .inr r=>some r | .inl l2=>some ((l2,0)))
def Bw:Hn Tryz.prog := .tw 12 .nil (.cl mg [] (.jx [] ⟨[(4,.own 165 Yq7),(14,.any)],[bkC 0 27 [.nils]]⟩ [2,0] (.lp ⟨[(4,.own 165 Yq7),kdI 6],[bkC 0 27 [.nils]]⟩ (.tw 20 (.gj 6 ⟨[kdB 37],[]⟩ [] (.two 30 .nil .nil) (.sq [] ⟨[(7,.dat .str)],[]⟩ [] (.tw 38 .nil .nil) (.cl hP [] (.tw 50 .nil .nil)))) .nil)) .nil))
def Bn:Spec:=⟨103,⟨[(0,.dat .str)],[]⟩,[⟨[(0,.tup [.agg [.own 165 Yq7],.dat Yq1])],[]⟩],fun x=>iy x⟩
def tL:OkSpec Tryz.prog:=⟨Bn,ae func103 Bw (by kernel_rfl) (by kernel_rfl),call103⟩

def dR (xa:(List Tq4)):Option ((Tq3×Int)) :=
 cond (!decide ((xa.length:Int)=2)) (some (([],3))) ((aa xa 1).bind fun x32=>(iy x32).bind fun (l43,i44)=>some ((l43,i44)))
def Cv:Hn Tryz.prog := .tw 6 .nil (.cl tL [] .nil)
def CQ:Spec:=⟨102,⟨[(0,.dat (.sl .str))],[]⟩,[⟨[(0,.tup [.agg [.own 165 Yq7],.dat Yq1])],[]⟩],fun x=>dR x⟩
def pa:OkSpec Tryz.prog:=⟨CQ,ae func102 Cv (by kernel_rfl) (by kernel_rfl),call102⟩

def kd (xa:(List Tq4)):aU→Option (aU⊕Int):=fun (i1,i2)=>cond (decide (i2 < 6)) ((aa (([([110,111,112]:List UInt8),([97,115,115,105,103,110]:List UInt8),([98,111,114,114,111,119]:List UInt8),([114,101,98,111,114,114,111,119]:List UInt8),([117,115,101]:List UInt8),([100,101,97,100]:List UInt8)]:List Tq4)) i2).bind fun x3=>(aa xa 0).bind fun x4=>cond (decide (x3=x4)) (some (.inl ((i2,IntKind.wrap .i64 (i2 + 1))))) (some (.inl ((i1,IntKind.wrap .i64 (i2 + 1)))))) (some (.inr (i1)))
def ky (xa:(List Tq4)):Option (Int×Int×Int×Int×Bool×Bool×Int) :=
 (loop (kd xa) (((-1),0))).bind fun i1=>cond (decide (i1 < 0)) (some ((0,0,0,0,false,false,0))) (((cond (((decide (i1=2))||(decide (i1=3)))&&(decide ((xa.length:Int)=5))) ((aa xa 4).bind fun x2=>some (decide (x2=([109,117,116]:List UInt8)))) (some (false))).bind fun t3=>cond (t3) ((subL xa 0 4).bind fun y4=>some ((y4,true))) (some ((xa,false))):Option (((List Tq4)×Bool))).bind fun (l5,t6)=>(aa ([1,3,4,4,2,2]:List Int) i1).bind fun x7=>cond (!decide ((l5.length:Int)=x7)) (some ((0,0,0,0,false,true,3))) ((cond ((((decide (i1=1))||(decide (i1=2)))||(decide (i1=3)))||(decide (i1=5))) ((aa l5 1).bind fun x9=>(cq x9 0).bind fun (i10,i11)=>some ((i11,IntKind.wrap .i64 (1 + 1),i10))) (some ((0,1,0))):Option (Int×Int×Int)).bind fun (i12,i13,i14)=>(cond ((decide (1≤i1))&&(decide (i1≤4))) ((aa l5 i13).bind fun x15=>(cq x15 i12).bind fun (i16,i17)=>some ((i17,IntKind.wrap .i64 (i13 + 1),i16))) (some ((i12,i13,0))):Option (Int×Int×Int)).bind fun (i18,i19,i20)=>(cond ((decide (i1=2))||(decide (i1=3))) ((aa l5 i19).bind fun x21=>(cq x21 i18).bind fun (i22,i23)=>some ((i23,i22))) (some ((i18,0))):Option aU).bind fun (i24,i25)=>some ((i1,i14,i20,i25,t6,true,i24))))
def BY:Hn Tryz.prog := .jn [] ⟨[kdI 5],[]⟩ [] (.lp ⟨[kdI 5,kdI 8],[]⟩ (.tw 15 (.mix [] [0,1,2,3,4,5,6,7] [] [] (.tw 25 .nil .nil)) .nil)) (.tw 28 .nil (.pl (.sq [(6,0)] ⟨[(0,.dat (.sl .str))],[bkC 6 129 [.is 1 (.any),.lit (.int .i64 0),.lit (.int .i64 0),.lit (.int .i64 0),.dat .bool],bkU 9]⟩ [6] (.gp 2 (.wt 38 (.gp 3 (.wt 43 (.gj 4 ⟨[kdB 48],[]⟩ [] (.two 43 .nil .nil) (.tw 48 .nil .nil)))))) (.tw 58 .nil (.pl (.pl (.sq [(6,4)] ⟨[kdI 10,kdI 11],[bkC 6 129 [.is 1 (.any),.dat Yq1,.lit (.int .i64 0),.lit (.int .i64 0),.is 2 (.any)],bkU 9,bkU 11]⟩ [6] (.gp 2 (.wt 66 (.gp 2 (.wt 70 (.gp 2 (.tw 73 (.cl eZ [] .nil) .nil)))))) (.sq [(6,1)] ⟨[kdI 10,kdI 11],[bkC 6 129 [.is 1 (.any),.is 2 (.any),.dat Yq1,.lit (.int .i64 0),.is 3 (.any)],bkU 9,bkU 13,bkU 11]⟩ [6] (.gp 2 (.tw 91 (.cl eZ [] .nil) .nil)) (.sq [(6,2)] ⟨[kdI 10],[bkC 6 129 [.is 1 (.any),.is 2 (.any),.is 3 (.any),.dat Yq1,.is 4 (.any)],bkU 9,bkU 13,bkU 15,bkU 11]⟩ [6] (.gp 2 (.tw 109 (.cl eZ [] .nil) .nil)) .nil)))))))))
def B6:Spec:=⟨98,⟨[(0,.dat (.sl .str))],[]⟩,[⟨[(0,.tup [.agg [.dat Yq1,.dat Yq1,.dat Yq1,.dat Yq1,.dat .bool],.dat .bool,.dat Yq1])],[]⟩],fun x=>ky x⟩
def Br:OkSpec Tryz.prog:=⟨B6,ae func98 BY (by kernel_rfl) (by kernel_rfl),call98⟩
def c8 (xa:Tq4) (xb:Int):((List Int)×Int×Int)→Option (((List Int)×Int×Int)⊕((List Int)⊕((List Int)×Int))):=fun (l1,i2,i3)=>cond ((decide (i3≤(xa.length:Int)))&&(!decide (xa=([]:List UInt8)))) ((cond (decide (i3 < (xa.length:Int))) ((aa xa i3).bind fun x4=>some (!decide ((((x4.toNat:Nat):Int))=44))) (some (false))).bind fun t5=>cond (t5) (some (.inl ((l1,i2,IntKind.wrap .i64 (i3 + 1))))) ((subL xa i2 i3).bind fun y6=>(bU y6 xb).bind fun (i7,i9)=>cond (!decide (i9=0)) (some (.inr ((.inr (([],i9)))))) (cond (decide (i3=(IntKind.wrap .i64 ((xa.length:Int) - 1)))) (some (.inr ((.inr (([],3)))))) ((app l1 ([i7]:List Int)).bind fun z10=>some (.inl ((z10,IntKind.wrap .i64 (i3 + 1),IntKind.wrap .i64 (i3 + 1)))))))) (some (.inr (.inl l1)))
def j9 (xa:Tq4) (xb:Int):Option (((List Int)×Int)) :=
 (loop (c8 xa xb) ((([]:List Int),0,0))).bind fun o=>match o with | .inr r=>some r | .inl l1=>some ((l1,0))
def CD:Hn Tryz.prog := .jx [] ⟨[(6,.own 3 Yq1),(11,.any)],[]⟩ [0] (.lp ⟨[(6,.own 3 Yq1),kdI 7,kdI 8],[]⟩ (.gp 2 (.tw 19 (.gj 4 ⟨[kdB 31],[]⟩ [] (.two 26 .nil .nil) (.tw 31 .nil (.cl hP [] (.tw 42 .nil (.tw 48 .nil .nil))))) .nil))) .nil
def zN:Spec:=⟨154,⟨[(0,.dat .str),kdI 1],[]⟩,[⟨[(0,.tup [.own 3 Yq1,.dat Yq1])],[]⟩],fun x=>j9 x.1 x.2⟩
def AV:OkSpec Tryz.prog:=⟨zN,ae func154 CD (by kernel_rfl) (by kernel_rfl),call154⟩

def eC (xa:Tq4) (xb:Int):Option (((List Int)×Int)) :=
 cond ((!decide (xb=0))||(decide (xa=([45]:List UInt8)))) (some (([],xb))) ((j9 xa 1048576).bind fun (l27,i28)=>some ((l27,i28)))
def Co:Hn Tryz.prog := .gp 2 (.tw 13 .nil (.cl AV [] .nil))
def zX:Spec:=⟨128,⟨[(0,.dat .str),kdI 1],[]⟩,[⟨[(0,.tup [.own 3 Yq1,.dat Yq1])],[]⟩],fun x=>eC x.1 x.2⟩
def jH:OkSpec Tryz.prog:=⟨zX,ae func128 Co (by kernel_rfl) (by kernel_rfl),call128⟩
def kh (xa:(List Tq4)):aU→Option (aU⊕Int):=fun (i1,i2)=>cond (decide (i2 < 5)) ((aa (([([]:List UInt8),([103,111,116,111]:List UInt8),([115,119,105,116,99,104]:List UInt8),([114,101,116,117,114,110]:List UInt8),([99,97,108,108]:List UInt8)]:List Tq4)) i2).bind fun x3=>(aa xa 0).bind fun x4=>cond (decide (x3=x4)) (some (.inl ((i2,IntKind.wrap .i64 (i2 + 1))))) (some (.inl ((i1,IntKind.wrap .i64 (i2 + 1)))))) (some (.inr (i1)))
def dv (xa:(List Tq4)):Option ((Int×Int×Int×(List Int)×(List Int)×(List Int)×Bool×Int)) :=
 (loop (kh xa) (0,1)).bind fun i1=>(cond (decide (i1=0)) (some (true)) ((aa ([0,2,3,1,6]:List Int) i1).bind fun x2=>some (!decide ((xa.length:Int)=x2)))).bind fun t3=>cond (t3) (some ((0,0,0,[],[],[],decide (0 < i1),3))) ((cond (decide (i1=4)) ((aa xa 1).bind fun x4=>(cq x4 0).bind fun (i5,i6)=>(aa xa 2).bind fun x7=>(cq x7 i6).bind fun (i9,i10)=>(aa xa 3).bind fun x11=>(eC x11 i10).bind fun (l12,i13)=>(aa xa 4).bind fun x14=>(eC x14 i13).bind fun (l15,i16)=>(aa xa 5).bind fun x17=>(eC x17 i16).bind fun (l18,i19)=>some ((i19,i5,i9,l12,l18,l15))) (some ((0,0,0,[],[],[]))):Option ((Int×Int×Int×(List Int)×(List Int)×(List Int)))).bind fun (i20,i21,i22,l23,l24,l25)=>(cond ((decide (i1=1))||(decide (i1=2))) ((aa xa 1).bind fun x26=>(eC x26 i20).bind fun (l27,i28)=>some ((i28,l27))) (some ((i20,l23))):Option ((Int×(List Int)))).bind fun (i29,l30)=>(cond (decide (i1=2)) ((aa xa 2).bind fun x31=>(eC x31 i29).bind fun (l32,i33)=>some ((i33,l32))) (some ((i29,l24))):Option ((Int×(List Int)))).bind fun (i34,l35)=>some ((i1,i21,i22,l30,l35,l25,true,i34)))
def AH:Hn Tryz.prog := .jn [] ⟨[kdI 7],[]⟩ [] (.lp ⟨[kdI 7,kdI 8],[]⟩ (.tw 14 (.mix [] [0,1,2,3,4,5,6,7] [] [] (.tw 24 .nil .nil)) .nil)) (.gj 7 ⟨[kdB 38],[]⟩ [] (.two 30 .nil .nil) (.tw 38 .nil (.pl (.sq [(6,0)] ⟨[kdI 10],[bkC 6 118 [.is 1 (.any),.dat Yq1,.dat Yq1,.own 3 Yq1,.own 3 Yq1,.own 3 Yq1],bkU 9]⟩ [6] (.tw 43 (.cl eZ [] (.cl eZ [] (.cl jH [] (.cl jH [] (.cl jH [] .nil))))) .nil) (.sq [(6,1),(6,2),(6,4),(6,5)] ⟨[kdI 10],[bkC 6 118 [.is 1 (.any),.is 2 (.any),.is 3 (.any),.own 3 Yq1,.is 4 (.any),.is 5 (.any)],bkU 9,bkU 17,bkU 18,bkU 19,bkU 20]⟩ [6,10] (.gp 2 (.tw 94 (.cl jH [] .nil) .nil)) (.sq [(6,3)] ⟨[kdI 10],[bkC 6 118 [.is 1 (.any),.is 2 (.any),.is 3 (.any),.is 4 (.any),.own 3 Yq1,.is 5 (.any)],bkU 9,bkU 17,bkU 18,bkU 24,bkU 20]⟩ [6,12] (.tw 105 (.cl jH [] .nil) .nil) .nil))))))
def Ca:Spec:=⟨99,⟨[(0,.dat (.sl .str))],[]⟩,[⟨[(0,.tup [.agg [.dat Yq1,.dat Yq1,.dat Yq1,.own 3 Yq1,.own 3 Yq1,.own 3 Yq1],.dat .bool,.dat Yq1])],[]⟩],fun x=>dv x⟩
def zt:OkSpec Tryz.prog:=⟨Ca,ae func99 AH (by kernel_rfl) (by kernel_rfl),call99⟩

def iJ (xb:(List Tq4)) (qxa_0:Int) (qxa_1:Int) (qxa_2:Tq5) (qxa_3:(List Tq3)) (qxa_4:Tq3) (qxa_5:(List Tq2)) (qxa_6:(List Tq1)) (qxa_7:Int) (qxa_8:Bool):Option ((Int×Int×Tq5×(List Tq3)×Tq3×(List Tq2)×(List Tq1)×Int×Bool×Int)) :=
 (ky xb).bind fun (i1,i2,i3,i4,t5,t6,i7)=>cond (t6) (((aa qxa_6 (IntKind.wrap .i64 ((qxa_6.length:Int) - 1))).bind fun _=>((aa qxa_6 (IntKind.wrap .i64 ((qxa_6.length:Int) - 1))).bind fun x9=>(az (IntKind.wrap .i64 ((qxa_6.length:Int) - 1)) (IntKind.wrap .i64 ((qxa_6.length:Int) - 1))).bind fun _=>(app x9.1 (([(i1,i2,i3,i4,t5)]:List fe))).bind fun z10=>(aa qxa_6 (IntKind.wrap .i64 ((qxa_6.length:Int) - 1))).bind fun _=>(az (IntKind.wrap .i64 ((qxa_6.length:Int) - 1)) (IntKind.wrap .i64 ((qxa_6.length:Int) - 1))).bind fun _=>some (qxa_6.set (IntKind.wrap .i64 ((qxa_6.length:Int) - 1)).toNat ((z10,(x9.2.1,x9.2.2.1,x9.2.2.2.1,x9.2.2.2.2.1,x9.2.2.2.2.2.1,x9.2.2.2.2.2.2))))).bind fun x11=>((aa qxa_6 (IntKind.wrap .i64 ((qxa_6.length:Int) - 1))).bind fun x12=>(az (IntKind.wrap .i64 ((qxa_6.length:Int) - 1)) (IntKind.wrap .i64 ((qxa_6.length:Int) - 1))).bind fun _=>(app x12.1 (([(i1,i2,i3,i4,t5)]:List fe))).bind fun z13=>(aa qxa_6 (IntKind.wrap .i64 ((qxa_6.length:Int) - 1))).bind fun _=>(az (IntKind.wrap .i64 ((qxa_6.length:Int) - 1)) (IntKind.wrap .i64 ((qxa_6.length:Int) - 1))).bind fun _=>some (qxa_6.set (IntKind.wrap .i64 ((qxa_6.length:Int) - 1)).toNat ((z13,(x12.2.1,x12.2.2.1,x12.2.2.2.1,x12.2.2.2.2.1,x12.2.2.2.2.2.1,x12.2.2.2.2.2.2))))).bind fun y14=>agr x11 y14 (some x11):Option ((List Tq1))).bind fun l15=>some ((qxa_0,qxa_1,qxa_2,qxa_3,qxa_4,qxa_5,l15,qxa_7,qxa_8,i7))) ((dv xb).bind fun (i16,i17,i18,l19,l20,l21,t22,i23)=>(aa qxa_6 (IntKind.wrap .i64 ((qxa_6.length:Int) - 1))).bind fun _=>(aa qxa_6 (IntKind.wrap .i64 ((qxa_6.length:Int) - 1))).bind fun x24=>(az (IntKind.wrap .i64 ((qxa_6.length:Int) - 1)) (IntKind.wrap .i64 ((qxa_6.length:Int) - 1))).bind fun _=>some ((qxa_0,qxa_1,qxa_2,qxa_3,qxa_4,qxa_5,qxa_6.set (IntKind.wrap .i64 ((qxa_6.length:Int) - 1)).toNat ((x24.1,(i16,i17,i18,l19,l20,l21))),qxa_7,false,i23)))
def zK:Hn Tryz.prog := .cl Br [] (.tw 24 (.tr (.still [0,1,2,3,4,5,6,7,8,9,11] (.alt 10 (.alt 12 (.alt 13 (.still [14,15] (.alt 16 (.leaf []) .done)) .done) .done) (.alt 12 (.alt 10 (.alt 13 (.still [14,15] (.alt 16 (.leaf []) .done)) .done) .done) .done))) ⟨[],[bkO 8 (.row 120 (.cons (.row 129 (.dat Yq4)) (.one (.dat Yq3))))]⟩ [8] (.two 0 (.wt 34 (.opn 8 1000006 (.cls 8 24 .nil))) (.wt 34 (.opn 8 1000006 (.cls 8 24 .nil)))) .nil) (.cl zt [] (.wt 55 (.opn 8 1000006 (.per 17 18 (.per 19 20 (.per 21 22 (.cls 8 29 .nil))))))))
def A9:Spec:=⟨62,⟨[(0,.agg [.dat Yq1,.dat Yq1,.own 78 Yq5,.own 27 Yq2,.own 165 Yq7,.od (.row 126 (.cons (.dat Yq1) (.cons (.dat (.sl Yq5)) (.cons (.row 27 (.dat Yq2)) (.one (.dat Yq2)))))),.od (.row 120 (.cons (.row 129 (.dat Yq4)) (.one (.dat Yq3)))),.dat Yq1,.dat .bool]),(1,.dat (.sl .str))],[]⟩,[⟨[(0,.tup [.agg [.dat Yq1,.dat Yq1,.own 78 Yq5,.own 27 Yq2,.own 165 Yq7,.od (.row 126 (.cons (.dat Yq1) (.cons (.dat (.sl Yq5)) (.cons (.row 27 (.dat Yq2)) (.one (.dat Yq2)))))),.od (.row 120 (.cons (.row 129 (.dat Yq4)) (.one (.dat Yq3)))),.dat Yq1,.dat .bool],.dat Yq1])],[]⟩],fun x=>iJ x.2.2.2.2.2.2.2.2.2 x.1 x.2.1 x.2.2.1 x.2.2.2.1 x.2.2.2.2.1 x.2.2.2.2.2.1 x.2.2.2.2.2.2.1 x.2.2.2.2.2.2.2.1 x.2.2.2.2.2.2.2.2.1⟩
def Ci:OkSpec Tryz.prog:=⟨A9,ae func62 zK (by kernel_rfl) (by kernel_rfl),call62⟩

def bH (xb:(List Tq4)) (qxa_0:Int) (qxa_1:Int) (qxa_2:Tq5) (qxa_3:(List Tq3)) (qxa_4:Tq3) (qxa_5:(List Tq2)) (qxa_6:(List Tq1)) (qxa_7:Int) (qxa_8:Bool):Option ((Int×Int×Tq5×(List Tq3)×Tq3×(List Tq2)×(List Tq1)×Int×Bool×Int)) :=
 (aa xb 0).bind fun x1=>cond (((decide (x1=([114,101,103,105,111,110,115]:List UInt8)))&&(decide (qxa_7=0)))&&(decide ((xb.length:Int)=3))) ((aa xb 1).bind fun x2=>(cq x2 0).bind fun (i3,i4)=>(aa xb 2).bind fun x5=>(cq x5 i4).bind fun (i6,i7)=>some ((i3,i6,qxa_2,qxa_3,qxa_4,qxa_5,qxa_6,1,qxa_8,i7))) ((aa xb 0).bind fun x9=>cond ((decide (x9=([98,111,117,110,100,115]:List UInt8)))&&(decide (qxa_7=1))) ((iN xb).bind fun (l10,i11)=>some ((qxa_0,qxa_1,l10,qxa_3,qxa_4,qxa_5,qxa_6,2,qxa_8,i11))) ((aa xb 0).bind fun x12=>cond ((decide (x12=([108,111,99,97,108]:List UInt8)))&&(decide (qxa_7=2))) ((dR xb).bind fun (l13,i14)=>(app qxa_3 (([l13]:List Tq3))).bind fun z15=>some ((qxa_0,qxa_1,qxa_2,z15,qxa_4,qxa_5,qxa_6,qxa_7,qxa_8,i14))) ((aa xb 0).bind fun x16=>cond ((decide (x16=([103,105,118,101,115]:List UInt8)))&&(decide (qxa_7=2))) ((dR xb).bind fun (l17,i18)=>some ((qxa_0,qxa_1,qxa_2,qxa_3,l17,qxa_5,qxa_6,3,qxa_8,i18))) ((aa xb 0).bind fun x19=>cond (((decide (x19=([115,105,103]:List UInt8)))&&(decide (qxa_7=3)))&&(decide ((xb.length:Int)=3))) ((aa xb 1).bind fun x20=>(cq x20 0).bind fun (i21,i22)=>(aa xb 2).bind fun x23=>(iy x23).bind fun (l24,i25)=>(cond (decide (i22=0)) (some (i25)) (some (i22)):Option Int).bind fun i26=>(app (qxa_5:List Tq2) (([(i21,[],[],l24)]:List Tq2):List Tq2)).bind fun z27=>some ((qxa_0,qxa_1,qxa_2,qxa_3,qxa_4,z27,qxa_6,4,qxa_8,i26))) ((aa xb 0).bind fun x28=>cond ((decide (x28=([110,101,101,100,115]:List UInt8)))&&(decide (qxa_7=4))) ((iN xb).bind fun (l29,i30)=>(aa qxa_5 (IntKind.wrap .i64 ((qxa_5.length:Int) - 1))).bind fun _=>(aa qxa_5 (IntKind.wrap .i64 ((qxa_5.length:Int) - 1))).bind fun x31=>(az (IntKind.wrap .i64 ((qxa_5.length:Int) - 1)) (IntKind.wrap .i64 ((qxa_5.length:Int) - 1))).bind fun _=>some ((qxa_0,qxa_1,qxa_2,qxa_3,qxa_4,qxa_5.set (IntKind.wrap .i64 ((qxa_5.length:Int) - 1)).toNat (x31.1,l29,x31.2.2.1,x31.2.2.2),qxa_6,3,qxa_8,i30))) ((aa xb 0).bind fun x32=>cond (((decide (x32=([97,114,103]:List UInt8)))&&(decide (qxa_7=3)))&&(decide (0≤(IntKind.wrap .i64 ((qxa_5.length:Int) - 1))))) ((dR xb).bind fun (l33,i34)=>((aa qxa_5 (IntKind.wrap .i64 ((qxa_5.length:Int) - 1))).bind fun _=>((aa qxa_5 (IntKind.wrap .i64 ((qxa_5.length:Int) - 1))).bind fun x35=>(az (IntKind.wrap .i64 ((qxa_5.length:Int) - 1)) (IntKind.wrap .i64 ((qxa_5.length:Int) - 1))).bind fun _=>(app x35.2.2.1 (([l33]:List Tq3))).bind fun z36=>(aa qxa_5 (IntKind.wrap .i64 ((qxa_5.length:Int) - 1))).bind fun _=>(az (IntKind.wrap .i64 ((qxa_5.length:Int) - 1)) (IntKind.wrap .i64 ((qxa_5.length:Int) - 1))).bind fun _=>some (qxa_5.set (IntKind.wrap .i64 ((qxa_5.length:Int) - 1)).toNat (x35.1,x35.2.1,z36,x35.2.2.2))).bind fun x37=>((aa qxa_5 (IntKind.wrap .i64 ((qxa_5.length:Int) - 1))).bind fun x38=>(az (IntKind.wrap .i64 ((qxa_5.length:Int) - 1)) (IntKind.wrap .i64 ((qxa_5.length:Int) - 1))).bind fun _=>(app x38.2.2.1 (([l33]:List Tq3))).bind fun z39=>(aa qxa_5 (IntKind.wrap .i64 ((qxa_5.length:Int) - 1))).bind fun _=>(az (IntKind.wrap .i64 ((qxa_5.length:Int) - 1)) (IntKind.wrap .i64 ((qxa_5.length:Int) - 1))).bind fun _=>some (qxa_5.set (IntKind.wrap .i64 ((qxa_5.length:Int) - 1)).toNat (x38.1,x38.2.1,z39,x38.2.2.2))).bind fun y40=>agr x37 y40 (some x37):Option ((List Tq2))).bind fun l41=>some ((qxa_0,qxa_1,qxa_2,qxa_3,qxa_4,l41,qxa_6,qxa_7,qxa_8,i34))) (some ((qxa_0,qxa_1,qxa_2,qxa_3,qxa_4,qxa_5,qxa_6,qxa_7,qxa_8,3)))))))))
def AX:Hn Tryz.prog := .gp 3 (.wt 30 (.gp 3 (.tw 34 (.cl eZ [] (.cl eZ [] .nil)) (.gp 3 (.tw 65 (.cl tN [] .nil) (.gp 3 (.tw 84 (.cl pa [] (.per 14 15 .nil)) (.gp 3 (.tw 108 (.cl pa [] .nil) (.gp 3 (.wt 128 (.gp 3 (.tw 132 (.cl eZ [] (.cl tL [] (.sq [] ⟨[kdI 11],[]⟩ [] (.tw 148 .nil .nil) (.per 14 15 (.ot (.cons (.dat Yq1) (.cons (.dat (.sl Yq5)) (.cons (.row 27 (.dat Yq2)) (.one (.dat Yq2))))) (.ot (.cons (.dat Yq1) (.cons (.dat (.sl Yq5)) (.cons (.row 27 (.dat Yq2)) (.one (.dat Yq2))))) .nil)))))) (.gp 3 (.tw 171 (.mix [([0,1,2,3,4],5),([6,7,8,9,10],11)] [12] [] [6] (.cl tN [] (.wt 182 (.opn 6 1000006 (.per 14 15 (.cls 6 19 .nil)))))) (.gp 3 (.wt 195 (.gp 2 (.tw 198 (.cl pa [] (.tr (.still [0,1,2,3,4,5,6,7,8,9,11] (.alt 10 (.alt 12 (.alt 13 (.still [14,15] (.alt 16 (.leaf []) .done)) .done) .done) (.alt 12 (.alt 10 (.alt 13 (.still [14,15] (.alt 16 (.leaf []) .done)) .done) .done) .done))) ⟨[(201,.any),(199,.any),(202,.any)],[bkO 6 (.row 126 (.cons (.dat Yq1) (.cons (.dat (.sl Yq5)) (.cons (.row 27 (.dat Yq2)) (.one (.dat Yq2))))))]⟩ [14,6] (.two 0 (.wt 213 (.opn 6 1000006 (.per 14 15 (.cls 6 26 .nil)))) (.per 14 15 (.wt 213 (.opn 6 1000006 (.cls 6 26 .nil))))) .nil)) .nil)))))))))))))))))))
def zQ:Spec:=⟨63,⟨[(0,.agg [.dat Yq1,.dat Yq1,.own 78 Yq5,.own 27 Yq2,.own 165 Yq7,.od (.row 126 (.cons (.dat Yq1) (.cons (.dat (.sl Yq5)) (.cons (.row 27 (.dat Yq2)) (.one (.dat Yq2)))))),.od (.row 120 (.cons (.row 129 (.dat Yq4)) (.one (.dat Yq3)))),.dat Yq1,.dat .bool]),(1,.dat (.sl .str))],[]⟩,[⟨[(0,.tup [.agg [.dat Yq1,.dat Yq1,.own 78 Yq5,.own 27 Yq2,.own 165 Yq7,.od (.row 126 (.cons (.dat Yq1) (.cons (.dat (.sl Yq5)) (.cons (.row 27 (.dat Yq2)) (.one (.dat Yq2)))))),.od (.row 120 (.cons (.row 129 (.dat Yq4)) (.one (.dat Yq3)))),.dat Yq1,.dat .bool],.dat Yq1])],[]⟩],fun x=>bH x.2.2.2.2.2.2.2.2.2 x.1 x.2.1 x.2.2.1 x.2.2.2.1 x.2.2.2.2.1 x.2.2.2.2.2.1 x.2.2.2.2.2.2.1 x.2.2.2.2.2.2.2.1 x.2.2.2.2.2.2.2.2.1⟩
def CS:OkSpec Tryz.prog:=⟨zQ,ae func63 AX (by kernel_rfl) (by kernel_rfl),call63⟩
def eB (l1:(List Tq4)):pn→Option (pn⊕((Int×Int×Tq5×(List Tq3)×Tq3×(List Tq2)×(List Tq1)×Int×Bool)⊕Tq9)):=fun (i2,i3,i4,l5,l6,l7,l9,l10,i11,t12)=>cond (decide (i2 < (l1.length:Int))) ((aa l1 i2).bind fun x13=>(fv x13).bind fun l14=>(cond (decide ((l14.length:Int)=0)) (some (true)) ((aa l14 0).bind fun x15=>(aa x15 0).bind fun x16=>some (decide ((((x16.toNat:Nat):Int))=35)))).bind fun t17=>cond (t17) (some (.inl ((IntKind.wrap .i64 (i2 + 1),i3,i4,l5,l6,l7,l9,l10,i11,t12)))) ((cond (t12) ((iJ l14 i3 i4 l5 l6 l7 l9 l10 i11 t12).bind fun (i18,i19,l20,l21,l22,l23,l24,i25,t26,i27)=>some ((i27,i18,i19,l20,l21,l22,l23,l24,i25,t26))) ((cond (decide ((l14.length:Int)=1)) ((aa l14 0).bind fun x28=>some (decide (x28=([98,108,111,99,107]:List UInt8)))) (some (false))).bind fun t29=>cond (t29&&(decide (i11=3))) ((app (l10:List Tq1) (([([],(0,0,0,[],[],[]))]:List Tq1):List Tq1)).bind fun z30=>some ((0,i3,i4,l5,l6,l7,l9,z30,i11,true))) (cond (decide (0 < (l10.length:Int))) (some ((3,i3,i4,l5,l6,l7,l9,l10,i11,t12))) ((bH l14 i3 i4 l5 l6 l7 l9 l10 i11 t12).bind fun (i31,i32,l33,l34,l35,l36,l37,i38,t39,i40)=>some ((i40,i31,i32,l33,l34,l35,l36,l37,i38,t39))))):Option (pn)).bind fun (i41,i42,i43,l44,l45,l46,l47,l48,i49,t50)=>cond (!decide (i41=0)) (some (.inr ((.inr ((0,0,[],[],[],[],[],IntKind.wrap .i64 (i2 + 1),i41)))))) (some (.inl ((IntKind.wrap .i64 (i2 + 1),i42,i43,l44,l45,l46,l47,l48,i49,t50)))))) (some (.inr ((.inl (i3,i4,l5,l6,l7,l9,l10,i11,t12)))))
def iM (xa:Tq4):Option (Tq9) :=
 cond (decide (1048576 < (xa.length:Int))) (some ((0,0,[],[],[],[],[],0,5))) ((da xa 10).bind fun l1=>(loop (eB l1) (0,0,0,[],[],[],[],[],0,false)).bind fun o=>match o with | .inr r=>some r | .inl (i2,i3,l4,l5,l6,l7,l9,i10,t11)=>cond (t11||(!decide (i10=3))) (some ((0,0,[],[],[],[],[],0,14))) (some ((i2,i3,l4,l5,l6,l7,l9,0,0))))
def CX:Hn Tryz.prog := .tw 12 .nil (.cl mg [] (.jx [] ⟨[],[bkC 0 31 [.lit (.int .i64 0),.lit (.int .i64 0),.nils,.nils,.nils,.nils,.nils],bkC 2 113 [.dat Yq1,.dat Yq1,.own 78 Yq5,.own 27 Yq2,.own 165 Yq7,.od (.row 126 (.cons (.dat Yq1) (.cons (.dat (.sl Yq5)) (.cons (.row 27 (.dat Yq2)) (.one (.dat Yq2)))))),.od (.row 120 (.cons (.row 129 (.dat Yq4)) (.one (.dat Yq3)))),.dat Yq1,.dat .bool]]⟩ [2,0] (.lp ⟨[kdI 7],[bkC 0 31 [.lit (.int .i64 0),.lit (.int .i64 0),.nils,.nils,.nils,.nils,.nils],bkC 2 113 [.dat Yq1,.dat Yq1,.own 78 Yq5,.own 27 Yq2,.own 165 Yq7,.od (.row 126 (.cons (.dat Yq1) (.cons (.dat (.sl Yq5)) (.cons (.row 27 (.dat Yq2)) (.one (.dat Yq2)))))),.od (.row 120 (.cons (.row 129 (.dat Yq4)) (.one (.dat Yq3)))),.dat Yq1,.dat .bool]]⟩ (.tw 20 (.cl pu [] (.gj 5 ⟨[kdB 37],[]⟩ [] (.two 31 .nil .nil) (.per 19 20 (.tw 37 .nil (.sq [] ⟨[kdI 9],[bkC 2 113 [.dat Yq1,.dat Yq1,.own 78 Yq5,.own 27 Yq2,.own 165 Yq7,.od (.row 126 (.cons (.dat Yq1) (.cons (.dat (.sl Yq5)) (.cons (.row 27 (.dat Yq2)) (.one (.dat Yq2)))))),.od (.row 120 (.cons (.row 129 (.dat Yq4)) (.one (.dat Yq3)))),.dat Yq1,.dat .bool]]⟩ [2,8,10,12,14,16] (.tw 39 (.cl Ci [] .nil) (.gj 4 ⟨[kdB 54],[]⟩ [] (.two 49 .nil .nil) (.wt 55 (.gp 3 (.tw 59 (.ot (.cons (.row 129 (.dat Yq4)) (.one (.dat Yq3))) (.ot (.cons (.row 129 (.dat Yq4)) (.one (.dat Yq3))) .nil)) (.tw 73 .nil (.cl CS [] .nil))))))) (.tw 81 .nil .nil)))))) .nil)) (.gp 3 (.tw 92 .nil .nil))))
def BH:Spec:=⟨30,⟨[(0,.dat .str)],[]⟩,[⟨[(0,.tup [.agg [.dat Yq1,.dat Yq1,.own 78 Yq5,.own 27 Yq2,.own 165 Yq7,.od (.row 126 (.cons (.dat Yq1) (.cons (.dat (.sl Yq5)) (.cons (.row 27 (.dat Yq2)) (.one (.dat Yq2)))))),.od (.row 120 (.cons (.row 129 (.dat Yq4)) (.one (.dat Yq3))))],.dat Yq1,.dat Yq1])],[]⟩],fun x=>iM x⟩
def BL:OkSpec Tryz.prog:=⟨BH,ae func30 CX (by kernel_rfl) (by kernel_rfl),call30⟩

def mP  : Option ((List Tq4)) :=
 some (([([99,104,101,99,107]:List UInt8),([99,111,110,115]:List UInt8),([108,105,118,101]:List UInt8),([118,97,108,117,101]:List UInt8),([119,104,121]:List UInt8),([115,117,103,103,101,115,116]:List UInt8),([116,114,105,109]:List UInt8),([101,100,105,116]:List UInt8),([112,114,111,118,101]:List UInt8),([112,114,105,110,116]:List UInt8)]:List Tq4))
def zZ:Hn Tryz.prog := .nil
def zH:Spec:=⟨35,⟨[],[]⟩,[⟨[(0,.own 9 .str)],[]⟩],fun x=>mP⟩
def BG:OkSpec Tryz.prog:=⟨zH,ae func35 zZ (by kernel_rfl) (by kernel_rfl),call35⟩

def kw (xa:Int):Option Tq4 :=
 cond ((decide (xa < 1))||(decide (8 < xa))) (some (([63]:List UInt8))) ((aa (([([98,108,97,110,107]:List UInt8),([100,114,111,112]:List UInt8),([116,119,105,99,101]:List UInt8),([115,119,97,112]:List UInt8),([114,101,103,105,111,110]:List UInt8),([108,111,110,101]:List UInt8),([100,101,99,108,97,114,101]:List UInt8),([117,110,100,101,99,108,97,114,101]:List UInt8)]:List Tq4)) (IntKind.wrap .i64 (xa - 1))).bind fun x21=>some (x21))
def B1:Hn Tryz.prog := .gp 2 (.tw 8 .nil .nil)
def AT:Spec:=⟨37,⟨[kdI 0],[]⟩,[⟨[(0,.dat .str)],[]⟩],fun x=>kw x⟩
def Cd:OkSpec Tryz.prog:=⟨AT,ae func37 B1 (by kernel_rfl) (by kernel_rfl),call37⟩
def j8 (xa:(List Tq4)):aU→Option (aU⊕Int):=fun (i1,i2)=>cond (decide (i2 < 10)) ((aa xa 0).bind fun x3=>(mP).bind fun l4=>(aa l4 i2).bind fun x5=>cond (decide (x5=x3)) (some (.inl ((i2,IntKind.wrap .i64 (i2 + 1))))) (some (.inl ((i1,IntKind.wrap .i64 (i2 + 1)))))) (some (.inr (i1)))
def ix (xa:(List Tq4)):aU→Option (aU⊕Int):=fun (i1,i2)=>cond (decide (i1≤8)) ((aa xa 1).bind fun x3=>(kw i1).bind fun s4=>cond (decide (s4=x3)) (some (.inl ((IntKind.wrap .i64 (i1 + 1),i1)))) (some (.inl ((IntKind.wrap .i64 (i1 + 1),i2))))) (some (.inr (i2)))
def dO (xa:(List Tq4)) (i1:Int):fY→Option (fY⊕((Int×Int×Int×Int)⊕(Int×Int×Int×Int×Int×Int))):=fun (i2,i3,i4,i5,i6)=>cond (decide (i2 < i1)) ((aa xa i2).bind fun x7=>(bU x7 1048576).bind fun (i9,i10)=>cond (!decide (i10=0)) (some (.inr ((.inr ((0,0,0,0,0,i10)))))) (cond (decide (IntKind.wrap .i64 (i2 - 1)=((0:Nat):Int))) (some (.inl ((IntKind.wrap .i64 (i2 + 1),i9,i4,i5,i6)))) (cond (decide (IntKind.wrap .i64 (i2 - 1)=((1:Nat):Int))) (some (.inl ((IntKind.wrap .i64 (i2 + 1),i3,i9,i5,i6)))) (cond (decide (IntKind.wrap .i64 (i2 - 1)=((2:Nat):Int))) (some (.inl ((IntKind.wrap .i64 (i2 + 1),i3,i4,i9,i6)))) (cond (decide (IntKind.wrap .i64 (i2 - 1)=((3:Nat):Int))) (some (.inl ((IntKind.wrap .i64 (i2 + 1),i3,i4,i5,i9)))) (none)))))) (some (.inr ((.inl (i3,i4,i5,i6)))))
def ke (xa:(List Tq4)):Option (Int×Int×Int×Int×Int×Int) :=
 cond (decide ((xa.length:Int)=0)) (some ((0,0,0,0,0,3))) ((loop (j8 xa) (((-1),0))).bind fun i1=>(cond ((decide (2≤i1))&&(decide (i1≤4))) (some (2)) (some (1)):Option Int).bind fun i2=>(cond (decide (i1=7)) (some (5)) (some (i2)):Option Int).bind fun i3=>cond ((decide (i1 < 0))||(!decide ((xa.length:Int)=i3))) (some ((0,0,0,0,0,3))) (cond (decide (i1=4)) ((aa xa 1).bind fun x4=>(f8 x4 1048576).bind fun (i5,i6,i7)=>cond (!decide (i7=0)) (some ((0,0,0,0,0,i7))) (some ((i1,i5,i6,0,0,0)))) ((cond (decide (i1=7)) ((loop (ix xa) (1,0)).bind fun i9=>cond (decide (i9=0)) (some (.inr ((0,0,0,0,0,3)))) (some (.inl (2,i9)))) (some (.inl (1,0))):Option (aU⊕(Int×Int×Int×Int×Int×Int))).bind fun o=>match o with | .inr r=>some r | .inl (i10,i11)=>(loop (dO xa i3) (i10,i11,0,0,0)).bind fun o=>match o with | .inr r=>some r | .inl (i12,i13,i14,i15)=>some ((i1,i12,i13,i14,i15,0)))))
def AB:Hn Tryz.prog := .tw 17 .nil (.jn [] ⟨[kdI 4],[]⟩ [] (.lp ⟨[kdI 4,kdI 5],[]⟩ (.tw 20 (.mix [([1,4,5,6],0),([2],3)] [7] [] [] (.cl BG [] (.tw 30 .nil .nil))) .nil)) (.pl (.sq [] ⟨[kdI 6],[]⟩ [] (.gp 2 (.tw 37 .nil .nil)) (.sq [] ⟨[kdI 6],[]⟩ [] (.tw 39 .nil .nil) (.gp 4 (.tw 47 .nil (.tw 52 (.cl tW [] (.tw 69 .nil .nil)) (.pl (.sx [(2,0)] ⟨[kdI 10],[bkC 0 52 [.lit (.int .i64 0),.lit (.int .i64 0),.lit (.int .i64 0),.lit (.int .i64 0),.lit (.int .i64 0)],bkC 2 52 [.is 2 (.any),.dat Yq1,.lit (.int .i64 0),.lit (.int .i64 0),.lit (.int .i64 0)],bkU 5]⟩ [2,0] (.tw 74 (.jn [] ⟨[],[bkC 2 52 [.is 1 (.any),.dat Yq1,.lit (.int .i64 0),.lit (.int .i64 0),.lit (.int .i64 0)],bkU 5]⟩ [2] (.lp ⟨[kdI 11],[bkC 2 52 [.is 1 (.any),.dat Yq1,.lit (.int .i64 0),.lit (.int .i64 0),.lit (.int .i64 0)],bkU 5]⟩ (.tw 76 (.mix [([0,2,3,4],1)] [5] [] [] (.cl Cd [] (.tw 84 .nil .nil))) .nil)) (.tw 91 .nil .nil)) .nil) (.jx [] ⟨[],[bkC 0 52 [.lit (.int .i64 0),.lit (.int .i64 0),.lit (.int .i64 0),.lit (.int .i64 0),.lit (.int .i64 0)],bkC 2 52 [.is 2 (.any),.dat Yq1,.dat Yq1,.dat Yq1,.dat Yq1],bkU 5]⟩ [0,2] (.lp ⟨[kdI 12],[bkC 0 52 [.lit (.int .i64 0),.lit (.int .i64 0),.lit (.int .i64 0),.lit (.int .i64 0),.lit (.int .i64 0)],bkC 2 52 [.is 2 (.any),.dat Yq1,.dat Yq1,.dat Yq1,.dat Yq1],bkU 5]⟩ (.tw 96 (.cl hP [] (.tw 108 .nil .nil)) .nil)) .nil))))))))))
def BZ:Spec:=⟨14,⟨[(0,.dat (.sl .str))],[]⟩,[⟨[(0,.tup [.agg [.dat Yq1,.dat Yq1,.dat Yq1,.dat Yq1,.dat Yq1],.dat Yq1])],[]⟩],fun x=>ke x⟩
def BK:OkSpec Tryz.prog:=⟨BZ,ae func14 AB (by kernel_rfl) (by kernel_rfl),call14⟩
def f9 (l1:(List Tq4)):(Int×Tq6)→Option ((Int×Tq6)⊕(Tq6⊕oV)):=fun (i2,l3)=>cond (decide (i2 < (l1.length:Int))) ((aa l1 i2).bind fun x4=>(fv x4).bind fun l5=>(cond (decide ((l5.length:Int)=0)) (some (true)) ((aa l5 0).bind fun x6=>(aa x6 0).bind fun x7=>some (decide ((((x7.toNat:Nat):Int))=35)))).bind fun t9=>cond (t9) (some (.inl ((IntKind.wrap .i64 (i2 + 1),l3)))) ((ke l5).bind fun (i10,i11,i12,i13,i14,i15)=>(cond ((decide (i15=0))&&(decide (400≤(l3.length:Int)))) (some (10)) (some (i15)):Option Int).bind fun i16=>cond (!decide (i16=0)) (some (.inr ((.inr ((0,0,[],[],[],[],[],[],IntKind.wrap .i64 (i2 + 1),i16)))))) ((app l3 (([(i10,(i11,i12,i13,i14))]:List (Int×(Int×Int×Int×Int))))).bind fun z17=>some (.inl ((IntKind.wrap .i64 (i2 + 1),z17)))))) (some (.inr (.inl l3)))
def km (xa:Tq4):Option (oV) :=
 cond (decide (1048576 < (xa.length:Int))) (some ((0,0,[],[],[],[],[],[],0,5))) ((da xa 10).bind fun l1=>(ku l1).bind fun (s2,i3,t4)=>(iM s2).bind fun (i5,i6,l7,l9,l10,l11,l12,i13,i14)=>cond (!decide (i14=0)) (some ((0,0,[],[],[],[],[],[],i13,i14))) (cond (!t4) (some ((0,0,[],[],[],[],[],[],0,14))) ((loop (f9 l1) ((IntKind.wrap .i64 (i3 + 1),[]))).bind fun o=>match o with | .inr r=>some r | .inl l15=>some ((i5,i6,l7,l9,l10,l11,l12,l15,0,0)))))
def Af:Hn Tryz.prog := .tw 19 .nil (.cl mg [] (.cl Al [2] (.cl BL [] (.per 10 11 (.per 12 13 (.tw 36 .nil (.tw 41 .nil (.jx [(17,0),(17,1),(17,2),(17,3),(17,4),(17,5),(17,6)] ⟨[],[bkC 0 40 [.lit (.int .i64 0),.lit (.int .i64 0),.nils,.nils,.nils,.nils,.nils,.nils],bkC 17 40 [.is 2 (.any),.is 3 (.any),.is 4 (.any),.is 5 (.any),.is 6 (.any),.is 7 (.any),.is 8 (.any),.own 52 Yq8],bkU 20,bkU 21,bkU 22,bkU 23,bkU 24,bkU 25,bkU 26]⟩ [17,14,0] (.lp ⟨[kdI 13],[bkC 0 40 [.lit (.int .i64 0),.lit (.int .i64 0),.nils,.nils,.nils,.nils,.nils,.nils],bkC 17 40 [.is 2 (.any),.is 3 (.any),.is 4 (.any),.is 5 (.any),.is 6 (.any),.is 7 (.any),.is 8 (.any),.own 52 Yq8],bkU 20,bkU 21,bkU 22,bkU 23,bkU 24,bkU 25,bkU 26]⟩ (.tw 50 (.cl pu [] (.gj 5 ⟨[kdB 67],[]⟩ [] (.two 61 .nil .nil) (.tw 67 .nil (.cl BK [31] (.sq [] ⟨[kdI 16],[]⟩ [] (.gp 4 (.tw 80 .nil .nil)) (.tw 82 .nil .nil)))))) .nil)) .nil))))))))
def Ai:Spec:=⟨7,⟨[(0,.dat .str)],[]⟩,[⟨[(0,.tup [.agg [.dat Yq1,.dat Yq1,.own 78 Yq5,.own 27 Yq2,.own 165 Yq7,.dat (.sl (.cons Yq1 (.cons (.sl Yq5) (.cons (.sl Yq2) (.one Yq2))))),.dat (.sl (.cons (.sl Yq4) (.one Yq3))),.own 52 Yq8],.dat Yq1,.dat Yq1])],[]⟩],fun x=>km x⟩
def Aj:OkSpec Tryz.prog:=⟨Ai,ae func7 Af (by kernel_rfl) (by kernel_rfl),call7⟩
def iH (xa:(Tq8×Tq6)):(Int×Tq6)→Option ((Int×Tq6)⊕Tq6):=fun (i1,l2)=>cond (decide (i1 < (xa.2.length:Int))) ((aa xa.2 i1).bind fun x3=>(aa xa.2 i1).bind fun x4=>(app l2 (([(x3.1,(x4.2.1,x4.2.2.1,x4.2.2.2.1,x4.2.2.2.2))]:List (Int×(Int×Int×Int×Int))))).bind fun z5=>some (.inl ((IntKind.wrap .i64 (i1 + 1),z5)))) (some (.inr (l2)))
def kA (xa:(Tq8×Tq6)):Option ((Int×Int×Tq5×(List Tq3)×Tq3×(List Tq2)×(List Tq1)×Tq6)) :=
 (loop (iH xa) (0,[])).bind fun l1=>some ((xa.1.1,xa.1.2.1,xa.1.2.2.1,xa.1.2.2.2.1,xa.1.2.2.2.2.1,xa.1.2.2.2.2.2.1,xa.1.2.2.2.2.2.2,l1))
def uO:Hn Tryz.prog := .jn [(4,0),(4,1),(4,2),(4,3),(4,4),(4,5),(4,6)] ⟨[],[bkC 4 40 [.is 1 (.any),.is 2 (.any),.is 3 (.any),.is 4 (.any),.is 5 (.any),.is 6 (.any),.is 7 (.any),.own 52 Yq8],bkU 7,bkU 8,bkU 9,bkU 10,bkU 11,bkU 12,bkU 13]⟩ [4] (.lp ⟨[kdI 4],[bkC 4 40 [.is 1 (.any),.is 2 (.any),.is 3 (.any),.is 4 (.any),.is 5 (.any),.is 6 (.any),.is 7 (.any),.own 52 Yq8],bkU 7,bkU 8,bkU 9,bkU 10,bkU 11,bkU 12,bkU 13]⟩ (.tw 12 (.mix [([0,1,2,3,4,5,6,7,8,9,10,11,12,13,14],15)] [] [16,17,18] [] .nil) .nil)) .nil
def pN:Spec:=⟨9,⟨[(0,.dat (.cons Yq6 (.one (.sl Yq8))))],[]⟩,[⟨[(0,.agg [.dat Yq1,.dat Yq1,.dat (.sl Yq5),.dat (.sl Yq2),.dat (.sl Yq7),.dat (.sl (.cons Yq1 (.cons (.sl Yq5) (.cons (.sl Yq2) (.one Yq2))))),.dat (.sl (.cons (.sl Yq4) (.one Yq3))),.own 52 Yq8])],[]⟩],fun x=>kA x⟩
theorem uI:cB Tryz.prog pN:=ae func9 uO (by kernel_rfl) (by kernel_rfl)
def uE:OkSpec Tryz.prog:=⟨pN,uI,call9⟩
def mI (xa:Tq5) (xb:Tq5):Int→Option (Int⊕(Unit⊕Bool)):=fun i1=>cond (decide (i1 < (xa.length:Int))) ((aa xa i1).bind fun x2=>(aa xb i1).bind fun x3=>cond (!((decide (x2.1=x3.1))&&((decide (x2.2=x3.2))))) (some (.inr ((.inr (false))))) (some (.inl (IntKind.wrap .i64 (i1 + 1))))) (some (.inr ((.inl ()))))
def iI (xa:Tq5) (xb:Tq5):Option Bool :=
 cond (!decide ((xa.length:Int)=(xb.length:Int))) (some (false)) ((loop (mI xa xb) 0).bind fun o=>match o with | .inr r=>some r | .inl ()=>some (true))
def B8:Hn Tryz.prog := .tw 10 .nil (.jx [] ⟨[],[]⟩ [] (.lp ⟨[kdI 5],[]⟩ (.tw 14 (.mix [] [0,1,2,3,4,5,6,7,8] [] [] (.tw 25 .nil .nil)) .nil)) .nil)
def AN:Spec:=⟨64,⟨[(0,.dat (.sl Yq5)),(1,.dat (.sl Yq5))],[]⟩,[⟨[kdB 0],[]⟩],fun x=>iI x.1 x.2⟩
def tT:OkSpec Tryz.prog:=⟨AN,ae func64 B8 (by kernel_rfl) (by kernel_rfl),call64⟩
def mK (xa:Tq3) (xb:Tq3):Int→Option (Int⊕(Unit⊕Bool)):=fun i1=>cond (decide (i1 < (xa.length:Int))) ((aa xa i1).bind fun x2=>(aa xb i1).bind fun x3=>cond (!(x2.2 == x3.2)) (some (.inr ((.inr (false))))) (some (.inl (IntKind.wrap .i64 (i1 + 1))))) (some (.inr ((.inl ()))))
def kp (xa:Tq3) (xb:Tq3):Option Bool :=
 cond (!decide ((xa.length:Int)=(xb.length:Int))) (some (false)) ((loop (mK xa xb) 0).bind fun o=>match o with | .inr r=>some r | .inl ()=>some (true))
def Cs:Hn Tryz.prog := .tw 12 .nil (.jx [] ⟨[],[]⟩ [] (.lp ⟨[kdI 5],[]⟩ (.tw 17 (.mix [] [0,1,2,3,4,5,6,7,8,9,10,11,12] [] [] (.tw 32 .nil .nil)) .nil)) .nil)
def Bb:Spec:=⟨104,⟨[(0,.dat Yq2),(1,.dat Yq2)],[]⟩,[⟨[kdB 0],[]⟩],fun x=>kp x.1 x.2⟩
def zy:OkSpec Tryz.prog:=⟨Bb,ae func104 Cs (by kernel_rfl) (by kernel_rfl),call104⟩
def kg (xa:Tq3) (xb:Tq3):Int→Option (Int⊕(Unit⊕Bool)):=fun i1=>cond (decide (i1 < (xa.length:Int))) ((aa xa i1).bind fun x2=>(aa xb i1).bind fun x3=>cond (!decide (x2.1=x3.1)) (some (.inr ((.inr (false))))) (some (.inl (IntKind.wrap .i64 (i1 + 1))))) (some (.inr ((.inl ()))))
def gq (xa:Tq3) (xb:Tq3):Option Bool :=
 (kp xa xb).bind fun t1=>cond (!t1) (some (false)) ((loop (kg xa xb) 0).bind fun o=>match o with | .inr r=>some r | .inl ()=>some (true))
def Ag:Hn Tryz.prog := .cl zy [] (.tw 9 .nil (.jx [] ⟨[],[]⟩ [] (.lp ⟨[kdI 5],[]⟩ (.tw 14 (.mix [] [0,1,2,3,4,5,6,7,8,9,10,11,12] [] [] (.tw 29 .nil .nil)) .nil)) .nil))
def AY:Spec:=⟨66,⟨[(0,.dat Yq2),(1,.dat Yq2)],[]⟩,[⟨[kdB 0],[]⟩],fun x=>gq x.1 x.2⟩
def oT:OkSpec Tryz.prog:=⟨AY,ae func66 Ag (by kernel_rfl) (by kernel_rfl),call66⟩
def mJ (xa:(List Tq3)) (xb:(List Tq3)):Int→Option (Int⊕(Unit⊕Bool)):=fun i1=>cond (decide (i1 < (xa.length:Int))) ((aa xa i1).bind fun x2=>(aa xb i1).bind fun x3=>(gq x2 x3).bind fun t4=>cond (!t4) (some (.inr ((.inr (false))))) (some (.inl (IntKind.wrap .i64 (i1 + 1))))) (some (.inr ((.inl ()))))
def iL (xa:(List Tq3)) (xb:(List Tq3)):Option Bool :=
 cond (!decide ((xa.length:Int)=(xb.length:Int))) (some (false)) ((loop (mJ xa xb) 0).bind fun o=>match o with | .inr r=>some r | .inl ()=>some (true))
def CU:Hn Tryz.prog := .tw 10 .nil (.jx [] ⟨[],[]⟩ [] (.lp ⟨[kdI 5],[]⟩ (.tw 14 (.mix [] [0,1,2,3,4,5,6,7] [8,9] [] (.cl oT [] (.tw 26 .nil .nil))) .nil)) .nil)
def Bh:Spec:=⟨65,⟨[(0,.dat (.sl Yq2)),(1,.dat (.sl Yq2))],[]⟩,[⟨[kdB 0],[]⟩],fun x=>iL x.1 x.2⟩
def tQ:OkSpec Tryz.prog:=⟨Bh,ae func65 CU (by kernel_rfl) (by kernel_rfl),call65⟩

def mS (xa:Tq2) (xb:Tq2):Option Bool :=
 (cond (decide (xa.1=xb.1)) ((iI xa.2.1 xb.2.1).bind fun t62=>some (t62)) (some (false))).bind fun t58=>(cond (t58) ((iL xa.2.2.1 xb.2.2.1).bind fun t77=>some (t77)) (some (false))).bind fun t73=>(cond (t73) ((gq xa.2.2.2 xb.2.2.2).bind fun t92=>some (t92)) (some (false))).bind fun t88=>some (t88)
def z8:Hn Tryz.prog := .gj 5 ⟨[kdB 16],[]⟩ [] (.two 10 (.cl tT [] .nil) .nil) (.wt 17 (.gj 5 ⟨[kdB 23],[]⟩ [] (.two 17 (.cl tQ [] .nil) .nil) (.wt 24 (.gj 5 ⟨[kdB 30],[]⟩ [] (.two 24 (.cl oT [] .nil) .nil) .nil))))
def zo:Spec:=⟨67,⟨[(0,.dat (.cons Yq1 (.cons (.sl Yq5) (.cons (.sl Yq2) (.one Yq2))))),(1,.dat (.cons Yq1 (.cons (.sl Yq5) (.cons (.sl Yq2) (.one Yq2)))))],[]⟩,[⟨[kdB 0],[]⟩],fun x=>mS x.1 x.2⟩
def CK:OkSpec Tryz.prog:=⟨zo,ae func67 z8 (by kernel_rfl) (by kernel_rfl),call67⟩
def ki (xa:(List Int)) (xb:(List Int)):Int→Option (Int⊕(Unit⊕Bool)):=fun i1=>cond (decide (i1 < (xa.length:Int))) ((aa xa i1).bind fun x2=>(aa xb i1).bind fun x3=>cond (!decide (x2=x3)) (some (.inr ((.inr (false))))) (some (.inl (IntKind.wrap .i64 (i1 + 1))))) (some (.inr ((.inl ()))))
def fw (xa:(List Int)) (xb:(List Int)):Option Bool :=
 cond (!decide ((xa.length:Int)=(xb.length:Int))) (some (false)) ((loop (ki xa xb) 0).bind fun o=>match o with | .inr r=>some r | .inl ()=>some (true))
def A1:Hn Tryz.prog := .tw 10 .nil (.jx [] ⟨[],[]⟩ [] (.lp ⟨[kdI 5],[]⟩ (.tw 14 (.mix [] [0,1,2,3,4,5,6,7,8] [] [] (.tw 25 .nil .nil)) .nil)) .nil)
def zx:Spec:=⟨105,⟨[(0,.dat (.sl Yq1)),(1,.dat (.sl Yq1))],[]⟩,[⟨[kdB 0],[]⟩],fun x=>fw x.1 x.2⟩
def oO:OkSpec Tryz.prog:=⟨zx,ae func105 A1 (by kernel_rfl) (by kernel_rfl),call105⟩

def mR (xa:(Int×Int×Int×(List Int)×(List Int)×(List Int))) (xb:(Int×Int×Int×(List Int)×(List Int)×(List Int))):Option Bool :=
 (cond (((decide (xa.1=xb.1))&&(decide (xa.2.1=xb.2.1)))&&(decide (xa.2.2.1=xb.2.2.1))) ((fw xa.2.2.2.1 xb.2.2.2.1).bind fun t70=>some (t70)) (some (false))).bind fun t66=>(cond (t66) ((fw xa.2.2.2.2.1 xb.2.2.2.2.1).bind fun t85=>some (t85)) (some (false))).bind fun t81=>(cond (t81) ((fw xa.2.2.2.2.2 xb.2.2.2.2.2).bind fun t1=>some (t1)) (some (false))).bind fun t96=>some (t96)
def Bu:Hn Tryz.prog := .gp 5 (.wt 17 (.gp 5 (.wt 24 (.gj 5 ⟨[kdB 30],[]⟩ [] (.two 24 (.cl oO [] .nil) .nil) (.wt 31 (.gj 5 ⟨[kdB 37],[]⟩ [] (.two 31 (.cl oO [] .nil) .nil) (.wt 38 (.gj 5 ⟨[kdB 44],[]⟩ [] (.two 38 (.cl oO [] .nil) .nil) .nil))))))))
def Cg:Spec:=⟨68,⟨[(0,.dat Yq3),(1,.dat Yq3)],[]⟩,[⟨[kdB 0],[]⟩],fun x=>mR x.1 x.2⟩
def A5:OkSpec Tryz.prog:=⟨Cg,ae func68 Bu (by kernel_rfl) (by kernel_rfl),call68⟩
def mN (xa:Tq8) (xb:Tq8):Int→Option (Int⊕(Unit⊕Bool)):=fun i1=>cond (decide (i1 < (xa.2.2.2.2.2.1.length:Int))) ((aa xa.2.2.2.2.2.1 i1).bind fun x2=>(aa xb.2.2.2.2.2.1 i1).bind fun x3=>(mS (x2.1,x2.2.1,x2.2.2.1,x2.2.2.2) (x3.1,x3.2.1,x3.2.2.1,x3.2.2.2)).bind fun t4=>cond (!t4) (some (.inr ((.inr (false))))) (some (.inl (IntKind.wrap .i64 (i1 + 1))))) (some (.inr ((.inl ()))))
def mM (x1:Tq1) (x2:Tq1):Int→Option (Int⊕(Unit⊕(Int⊕(Unit⊕Bool)))):=fun i3=>cond (decide (i3 < (x1.1.length:Int))) ((aa x1.1 i3).bind fun x4=>(aa x2.1 i3).bind fun x5=>cond (!((decide (x4.1=x5.1))&&((decide (x4.2.1=x5.2.1))&&((decide (x4.2.2.1=x5.2.2.1))&&((decide (x4.2.2.2.1=x5.2.2.2.1))&&(x4.2.2.2.2 == x5.2.2.2.2)))))) (some (.inr ((.inr (.inr ((.inr (false)))))))) (some (.inl (IntKind.wrap .i64 (i3 + 1))))) (some (.inr ((.inl ()))))
def mL (xa:Tq8) (xb:Tq8):Int→Option (Int⊕(Unit⊕Bool)):=fun i1=>cond (decide (i1 < (xa.2.2.2.2.2.2.length:Int))) ((aa xa.2.2.2.2.2.2 i1).bind fun x2=>(aa xb.2.2.2.2.2.2 i1).bind fun x3=>cond (!decide ((x2.1.length:Int)=(x3.1.length:Int))) (some (.inr ((.inr (false))))) ((aa xa.2.2.2.2.2.2 i1).bind fun x4=>(aa xb.2.2.2.2.2.2 i1).bind fun x5=>(mR (x4.2.1,x4.2.2.1,x4.2.2.2.1,x4.2.2.2.2.1,x4.2.2.2.2.2.1,x4.2.2.2.2.2.2) (x5.2.1,x5.2.2.1,x5.2.2.2.1,x5.2.2.2.2.1,x5.2.2.2.2.2.1,x5.2.2.2.2.2.2)).bind fun t6=>cond (!t6) (some (.inr ((.inr (false))))) ((loop (mM x2 x3) 0).bind fun o=>match o with | .inr r=>some r | .inl ()=>some (.inl (IntKind.wrap .i64 (i1 + 1)))))) (some (.inr ((.inl ()))))
def iO (xa:Tq8) (xb:Tq8):Option Bool :=
 (cond ((!decide (xa.1=xb.1))||(!decide (xa.2.1=xb.2.1))) (some (true)) ((iI xa.2.2.1 xb.2.2.1).bind fun t1=>some (!t1))).bind fun t2=>(cond (t2) (some (true)) ((iL xa.2.2.2.1 xb.2.2.2.1).bind fun t3=>some (!t3))).bind fun t4=>(cond (t4) (some (true)) ((gq xa.2.2.2.2.1 xb.2.2.2.2.1).bind fun t5=>some (!t5))).bind fun t6=>cond ((t6||(!decide ((xa.2.2.2.2.2.1.length:Int)=(xb.2.2.2.2.2.1.length:Int))))||(!decide ((xa.2.2.2.2.2.2.length:Int)=(xb.2.2.2.2.2.2.length:Int)))) (some (false)) ((loop (mN xa xb) 0).bind fun o=>match o with | .inr r=>some r | .inl ()=>(loop (mL xa xb) 0).bind fun o=>match o with | .inr r=>some r | .inl ()=>some (true))
def Bm:Hn Tryz.prog := .gp 5 (.wt 22 (.gj 6 ⟨[kdB 29],[]⟩ [] (.two 22 .nil (.cl tT [] .nil)) (.wt 30 (.gj 6 ⟨[kdB 37],[]⟩ [] (.two 30 .nil (.cl tQ [] .nil)) (.wt 38 (.gj 6 ⟨[kdB 45],[]⟩ [] (.two 38 .nil (.cl oT [] .nil)) (.wt 46 (.gp 7 (.wt 55 (.gp 7 (.tw 63 .nil (.jx [] ⟨[],[]⟩ [] (.lp ⟨[kdI 5],[]⟩ (.tw 68 (.mix [] [0,1,2,3,4,5,6,7,8,9] [10,11] [] (.cl CK [] (.tw 82 .nil .nil))) .nil)) (.jx [] ⟨[],[]⟩ [] (.lp ⟨[kdI 6],[]⟩ (.tw 87 (.mix [] [0,1,2,3,4,5,6,7,8,9,10,11,12,13] [] [] (.mix [] [0,1,2,3,4,5,6,7,8,9,10,11,12,13,14,15,16,17] [18,19,20] [] (.two 107 .nil (.cl A5 [] (.tw 122 .nil (.jx [] ⟨[],[]⟩ [] (.lp ⟨[kdI 9],[]⟩ (.tw 126 (.mix [] [0,1,2,3,4,5,6,7,8] [] [] (.tw 137 .nil .nil)) .nil)) .nil)))))) .nil)) .nil)))))))))))))
def CF:Spec:=⟨31,⟨[(0,.dat Yq6),(1,.dat Yq6)],[]⟩,[⟨[kdB 0],[]⟩],fun x=>iO x.1 x.2⟩
def Cj:OkSpec Tryz.prog:=⟨CF,ae func31 Bm (by kernel_rfl) (by kernel_rfl),call31⟩
def iC (xa:(Tq8×Tq6)) (xb:(Tq8×Tq6)):Int→Option (Int⊕(Unit⊕Bool)):=fun i1=>cond (decide (i1 < (xa.2.length:Int))) ((aa xa.2 i1).bind fun x2=>(aa xb.2 i1).bind fun x3=>cond (!((decide (x2.1=x3.1))&&(((decide (x2.2.1=x3.2.1))&&((decide (x2.2.2.1=x3.2.2.1))&&((decide (x2.2.2.2.1=x3.2.2.2.1))&&((decide (x2.2.2.2.2=x3.2.2.2.2))))))))) (some (.inr ((.inr (false))))) (some (.inl (IntKind.wrap .i64 (i1 + 1))))) (some (.inr ((.inl ()))))
def kx (xa:(Tq8×Tq6)) (xb:(Tq8×Tq6)):Option Bool :=
 (iO xa.1 xb.1).bind fun t1=>cond ((!t1)||(!decide ((xa.2.length:Int)=(xb.2.length:Int)))) (some (false)) ((loop (iC xa xb) 0).bind fun o=>match o with | .inr r=>some r | .inl ()=>some (true))
def AQ:Hn Tryz.prog := .cl Cj [] (.gp 7 (.tw 20 .nil (.jx [] ⟨[],[]⟩ [] (.lp ⟨[kdI 5],[]⟩ (.tw 25 (.mix [] [0,1,2,3,4,5,6,7,8,9,10] [] [] (.tw 38 .nil .nil)) .nil)) .nil)))
def As:Spec:=⟨8,⟨[(0,.dat (.cons Yq6 (.one (.sl Yq8)))),(1,.dat (.cons Yq6 (.one (.sl Yq8))))],[]⟩,[⟨[kdB 0],[]⟩],fun x=>kx x.1 x.2⟩
def CL:OkSpec Tryz.prog:=⟨As,ae func8 AQ (by kernel_rfl) (by kernel_rfl),call8⟩

def mG (xa:Tq4):Option Bool :=
 cond (decide (900 < (xa.length:Int))) ((iK).bind fun t1=>some (t1)) ((kj xa).bind fun (i2,i3,l4,l5,l6,l7,l9,l10,i11,i12)=>(km xa).bind fun (i13,i14,l15,l16,l17,l18,l19,l20,i21,i22)=>(kA (((i2,i3,l4,l5,l6,l7,l9),l10))).bind fun (i23,i24,l25,l26,l27,l28,l29,l30)=>(kx (((i23,i24,l25,l26,l27,l28,l29),l30)) (((i13,i14,l15,l16,l17,l18,l19),l20))).bind fun t31=>cond (t31) (cond (decide (i11=i21)) (cond (decide (i12=i22)) ((iK).bind fun t32=>some (t32)) (some (false))) (some (false))) (some (false)))
def ue:Hn Tryz.prog := .tw 11 (.cl pG [] .nil) (.cl CW [] (.per 6 7 (.per 8 9 (.cl Aj [] (.per 0 1 (.per 2 3 (.per 4 5 (.per 10 11 (.mix [([0,2],1),([],3)] [4,5,6,7,8,9,10,11,12,13,14] [15,16,17] [] (.cl uE [] (.cl CL [26,15,17,19,21] (.two 29 (.two 34 (.two 39 (.cl pG [] .nil) .nil) .nil) .nil))))))))))))
def pz:Spec:=⟨3,⟨[(0,.dat .str)],[]⟩,[⟨[kdB 0],[]⟩],fun x=>mG x⟩
theorem uc:cB Tryz.prog pz:=ae func3 ue (by kernel_rfl) (by kernel_rfl)
end
section
section
variable {σ β:Type} {body:σ→Option (σ⊕β)}
theorem cI (st:Nat→σ) (n:Nat) {b:β} (h:∀ k,k < n→body (st k)=some (.inl (st (k + 1)))) (he:body (st n)=some (.inr b)):loop body (st 0)=some b:=by
 have:∀ m k,k + m=n→loop body (st k)=some b:=by
   intro m
   induction m with
   | zero => intro k hk; have : k = n := by omega
             subst this; exact ax he
   | succ m ih=>intro k hk; rw [aO (h k (by omega))]; exact ih (k + 1) (by omega)
 exact this n 0 (by omega)
theorem b8 (p:Nat→Prop):∀ n,(∃ k,k < n∧p k∧∀ j,j < k→¬ p j)∨∀ j,j < n→¬ p j
 | 0 => .inr (fun j hj=>by omega)
 | n + 1=>by
   rcases b8 p n with ⟨k,h1,h2,h3⟩ | h
   . exact .inl ⟨k,by omega,h2,h3⟩
   . by_cases hp:p n
     . exact .inl ⟨n,by omega,hp,h⟩
     . exact .inr (fun j hj=>if e:j=n then e ▸ hp else h j (by omega))
theorem m8 (p:Nat→Prop) (st:Nat→σ) (n:Nat) (hit:Nat→β) (e:β) (hgo:∀ k,k < n→¬ p k→body (st k)=some (.inl (st (k + 1)))) (hhit:∀ k,k < n→p k→body (st k)=some (.inr (hit k))) (hend:body (st n)=some (.inr e)) :
   (∃ k,k < n∧p k∧(∀ j,j < k→¬ p j)∧loop body (st 0)=some (hit k))∨((∀ j,j < n→¬ p j)∧loop body (st 0)=some e):=by
 rcases b8 p n with ⟨k,h1,h2,h3⟩ | h
 . exact .inl ⟨k,h1,h2,h3,cI st k (fun j hj=>hgo j (by omega) (h3 j hj)) (hhit k h1 h2)⟩
 . exact .inr ⟨h,cI st n (fun k hk=>hgo k hk (h k hk)) hend⟩
end
theorem w64 {x:Int} (h1 : -9223372036854775808≤x) (h2:x≤9223372036854775807):IntKind.wrap .i64 x=x:=by
 rw [IntWalk.i64_left,IntWalk.wrap64_in _ ⟨h1,h2⟩]
theorem av {k n:Nat} (h:k < n) (hn:n≤9223372036854775807):IntKind.wrap .i64 ((k:Int) + 1)=((k + 1:Nat):Int):=by
 rw [w64 (by omega) (by omega)]; rfl
theorem an {α:Type} {l:List α} {k:Nat} (h:k < l.length):aa l (k:Int)=some l[k]:=w9 rfl h
end
section
theorem dlt {k n:Nat} (h:k < n):decide ((k:Int) < (n:Int))=true:=by simp; omega
theorem dge {k n:Nat} (h:¬ k < n):decide ((k:Int) < (n:Int))=false:=by simp; omega
theorem xO {α:Type} [DecidableEq α] (a b:α):(a == b)=decide (a=b):=Bool.beq_eq_decide_eq a b
section
variable {α β γ σ:Type}
theorem eE {body:Int→Option (Int⊕β)} (xa:List α) (t:α→Bool) (hit:Nat→β) (e:β) (hb:∀ (k:Nat) (h:k < xa.length),body (k:Int)=some (if t xa[k] then .inr (hit k) else .inl ((k + 1:Nat):Int))) (he:body (xa.length:Int)=some (.inr e)) :
   loop body 0=some (match xa.findIdx? t with | some k=>hit k | none=>e):=by
 rcases m8 (fun k=>∃ h:k < xa.length,t xa[k]=true) (fun k:Nat=>(k:Int)) xa.length hit e (fun k hk hp=>by
     rw [hb k hk,if_neg (fun h=>hp ⟨hk,h⟩)]) (fun k hk ⟨_,hp⟩=>by rw [hb k hk,if_pos hp]) he with ⟨k,h1,⟨_,h2⟩,h3,h4⟩ | ⟨h1,h2⟩
 . rw [show ((0:Int))=((0:Nat):Int) from rfl,h4]
   have:xa.findIdx? t=some k:=by
     rw [List.findIdx?_eq_some_iff_getElem]
     exact ⟨h1,h2,fun j hj=>fun hc=>h3 j hj ⟨by omega,by simpa using hc⟩⟩
   rw [this]
 . rw [show ((0:Int))=((0:Nat):Int) from rfl,h2]
   have:xa.findIdx? t=none:=by
     rw [List.findIdx?_eq_none_iff]
     intro x hx
     obtain ⟨k,hk,rfl⟩:=List.getElem_of_mem hx
     cases hc:t xa[k] with
     | false=>rfl
     | true=>exact absurd ⟨hk,hc⟩ (h1 k hk)
   rw [this]
theorem vH {body:Int→Option (Int⊕β)} (xa:List α) (t:α→Bool) (hit e:β) (hb:∀ (k:Nat) (h:k < xa.length),body (k:Int)=some (if t xa[k] then .inr hit else .inl ((k + 1:Nat):Int))) (he:body (xa.length:Int)=some (.inr e)) :
   loop body 0=some (if xa.any t then hit else e):=by
 rw [eE xa t (fun _=>hit) e hb he]
 cases h:xa.findIdx? t with
 | none =>
   have:xa.any t=false:=by
     rw [List.any_eq_false]; intro x hx; have:=List.findIdx?_eq_none_iff.1 h x hx; simp [this]
   rw [this]; rfl
 | some k =>
   obtain ⟨hk,h1,_⟩:=List.findIdx?_eq_some_iff_getElem.1 h
   have:xa.any t=true:=List.any_eq_true.2 ⟨_,List.getElem_mem hk,h1⟩
   rw [this]; rfl
theorem qp {δ:Type} {body:(γ×Int)→Option ((γ×Int)⊕δ)} (xa:List α) (acc:Nat→γ) (out:δ) (hb:∀ (k:Nat) (h:k < xa.length),body (acc k,(k:Int))=some (.inl (acc (k + 1),((k + 1:Nat):Int)))) (he:body (acc xa.length,(xa.length:Int))=some (.inr out)) :
   loop body (acc 0,0)=some out:=cI (fun k=>(acc k,(k:Int))) xa.length hb he
theorem kF [DecidableEq α] {body:Int→Option (Int⊕β)} (xa xb:List α) (hit e:β) (hl:xa.length=xb.length) (hb:∀ (k:Nat) (h:k < xa.length),body (k:Int)=some (if xa[k]=(xb[k]'(by omega)) then .inl ((k + 1:Nat):Int) else .inr hit)) (he:body (xa.length:Int)=some (.inr e)) :
   loop body 0=some (if xa=xb then e else hit):=by
 rw [eE (List.range xa.length) (fun k=>decide (xa[k]?≠xb[k]?)) (fun _=>hit) e (fun k h=>by
     simp at h
     rw [hb k h]
     have h2:k < xb.length:=by omega
     by_cases hq:xa[k]=xb[k] <;> simp [h,h2,hq]) (by simpa using he)]
 by_cases hq:xa=xb
 . subst hq
   have:(List.range xa.length).findIdx? (fun k=>decide (xa[k]?≠xa[k]?))=none:=by rw [List.findIdx?_eq_none_iff]; simp
   rw [this]; simp
 . cases h:(List.range xa.length).findIdx? (fun k=>decide (xa[k]?≠xb[k]?)) with
   | some k=>simp [hq]
   | none =>
     exfalso; apply hq
     rw [List.findIdx?_eq_none_iff] at h
     apply List.ext_getElem?
     intro k
     by_cases hk:k < xa.length
     . simpa using h k (List.mem_range.2 hk)
     . rw [List.getElem?_eq_none (by omega),List.getElem?_eq_none (by omega)]
theorem cv {l:List α} {k:Nat} (h:k < l.length):l.take (k + 1)=l.take k++[l[k]]:=List.take_succ_eq_append_getElem h
theorem fi {a b:Nat} (h:a=b):(!decide ((a:Int)=(b:Int)))=false:=by simp [h]
theorem oy {a b:Nat} (h:¬ a=b):(!decide ((a:Int)=(b:Int)))=true:=by simp; omega
end
theorem oP {α:Type} {l:List α} (h:1≤l.length):subL l 1 ((l.length:Nat):Int)=some (l.drop 1):=by
 rw [bz (by omega) (by omega) (by omega)]; simp
end
section
namespace Nu
set_option linter.unusedVariables false
set_option linter.unnecessarySimpa false
set_option linter.unusedSimpArgs false
theorem wA {α:Type} {l m:List α} (h:l≠[]):(l++m).head? = l.head?:=by cases l with
 | nil=>exact absurd rfl h
 | cons a l=>rfl
def ch (d:Nat):UInt8:=UInt8.ofNat (48 + d)
theorem yB {d:Nat} (h:d < 10):(ch d).toNat=48 + d:=by unfold ch; simp; omega
def dec (n:Nat):List UInt8:=if h:n < 10 then [ch n] else dec (n / 10)++[ch (n % 10)]
termination_by n
theorem eN {n:Nat} (h:n < 10):dec n=[ch n]:=by rw [dec,dif_pos h]
theorem lE {n:Nat} (h:¬ n < 10):dec n=dec (n / 10)++[ch (n % 10)]:=by rw [dec,dif_neg h]
def text (n:Int):List UInt8:=if n < 0 then [] else dec n.toNat
def bv (c:UInt8):Bool:=decide (48≤c.toNat)&&decide (c.toNat≤57)
def dig (c:UInt8):Nat:=c.toNat - 48
def val (s:List UInt8):Nat:=s.foldl (fun a c=>a * 10 + dig c) 0
theorem q9 (s:List UInt8) (c:UInt8):val (s++[c])=val s * 10 + dig c:=by simp [val]
def bD (s:List UInt8):Bool:=s.all bv&&(decide (s.length=1)||(decide (1 < s.length)&&!decide (s.head? = some 48)))
def ai (s:List UInt8) (most:Int):Int×Int:=if bD s=true then (if most < (val s:Int) then (0,5) else ((val s:Int),0)) else (0,3)
theorem rz {d:Nat} (h:d < 10):bv (ch d)=true:=by unfold bv; rw [yB h]; simp; omega
theorem yv {c:UInt8} (h:bv c=true):ch (dig c)=c∧dig c < 10:=by
 unfold bv at h; simp only [Bool.and_eq_true,decide_eq_true_eq] at h
 refine ⟨?_,by unfold dig; omega⟩
 unfold ch dig
 rw [show 48 + (c.toNat - 48)=c.toNat by omega]; simp
theorem xz (n:Nat):(dec n).all bv=true:=by
 induction n using Nat.strongRecOn with
 | _ n ih =>
   by_cases h:n < 10
   . rw [eN h]; simp [rz h]
   . rw [lE h,List.all_append,ih (n / 10) (by omega)]; simp [rz (show n % 10 < 10 by omega)]
theorem xS {s:List UInt8} (hs:s≠[]) (ha:s.all bv=true) (hh:s.head?≠some 48):0 < val s:=by
 have key:∀ (l:List UInt8) (a:Nat),0 < a→0 < l.foldl (fun a c=>a * 10 + dig c) a:=by
   intro l
   induction l with
   | nil=>intro a h; exact h
   | cons c l ih=>intro a h; rw [List.foldl_cons]; exact ih _ (by show 0 < a * 10 + dig c; omega)
 cases s with
 | nil=>exact absurd rfl hs
 | cons c s =>
   unfold val
   rw [List.foldl_cons]
   refine key s _ ?_
   simp only [List.all_cons,Bool.and_eq_true] at ha
   have h1:c≠48:=fun e=>hh (by rw [e]; rfl)
   have h2:=ha.1
   unfold bv at h2; simp only [Bool.and_eq_true,decide_eq_true_eq] at h2
   have h3:c.toNat≠48:=fun e=>h1 (by apply UInt8.toNat_inj.1; rw [e]; rfl)
   unfold dig; omega
theorem xx:∀ (n:Nat) (s:List UInt8),s.length=n→bD s=true→dec (val s)=s:=by
 intro n
 induction n with
 | zero=>intro s hl h; obtain rfl:=List.length_eq_zero_iff.1 hl; simp [bD] at h
 | succ n ih =>
   intro s hl h
   rcases List.eq_nil_or_concat s with rfl | ⟨t,c,rfl⟩
   . simp at hl
   rw [List.concat_eq_append] at *
   unfold bD at h
   simp only [List.all_append,List.all_cons,List.all_nil,Bool.and_true,Bool.and_eq_true] at h
   obtain ⟨⟨h1,h2⟩,h3⟩:=h
   obtain ⟨h4,h5⟩:=yv h2
   rw [q9]
   by_cases ht:t=[]
   . subst ht
     rw [show val []=0 from rfl,Nat.zero_mul,Nat.zero_add,eN h5,h4]; rfl
   . have hh:t.head?≠some 48:=by
       have:1 < (t++[c]).length:=by have:=List.length_pos_iff.2 ht; simp; omega
       have h6:¬ (t++[c]).length=1:=by omega
       simp only [h6,this,decide_false,decide_true,Bool.false_or,Bool.true_and,Bool.not_eq_true',decide_eq_false_iff_not] at h3
       rwa [wA ht] at h3
     have hv:=xS ht h1 hh
     have hn:bD t=true:=by
       unfold bD; rw [h1,Bool.true_and]
       have:=List.length_pos_iff.2 ht
       by_cases h7:t.length=1
       . simp [h7]
       . have:1 < t.length:=by omega
         simp [this,hh]
     rw [lE (by omega),show (val t * 10 + dig c) / 10=val t by omega,show (val t * 10 + dig c) % 10=dig c by omega,ih t (by simpa using hl) hn,h4]
theorem vX {s:List UInt8} (h:bD s=true):text (val s:Int)=s:=by
 unfold text; rw [if_neg (by omega)]; exact xx _ s rfl h
theorem xR:∀ (k n:Nat),n < 10 ^ (k + 1)→(dec n).length≤k + 1:=by
 intro k
 induction k with
 | zero=>intro n h; rw [eN (by simpa using h)]; simp
 | succ k ih =>
   intro n h
   by_cases hn:n < 10
   . rw [eN hn]; simp
   . rw [lE hn,List.length_append]
     have:=ih (n / 10) (by rw [Nat.pow_succ] at h; omega)
     simp; omega
theorem eJ {n:Int} (h:n≤9223372036854775807):(text n).length≤19:=by
 unfold text; split
 . simp
 . exact xR 18 _ (by omega)
theorem pW (s:List UInt8) (k:Nat):val (s.take k)≤val s:=by
 have key:∀ (l:List UInt8) (a:Nat),a≤l.foldl (fun a c=>a * 10 + dig c) a:=by
   intro l
   induction l with
   | nil=>intro a; exact Nat.le_refl _
   | cons c l ih=>intro a; rw [List.foldl_cons]; exact Nat.le_trans (by show a≤a * 10 + dig c; omega) (ih _)
 conv=>rhs; rw [← List.take_append_drop k s]
 unfold val
 rw [List.foldl_append]
 exact key _ _
theorem su {n:Int} {c:UInt8} (hc:bv c=false):c∉text n:=by
 unfold text; split
 . simp
 . intro h
   have:=List.all_eq_true.1 (xz n.toNat) c h
   rw [hc] at this; cases this
theorem kN (c:UInt8):∀ s:List UInt8,Lib.index s [c]=match s.findIdx? (fun x=>decide (x=c)) with | some k=>(k:Int) | none=>-1
 | []=>by simp [Lib.index]
 | b :: l=>by
   unfold Lib.index
   rw [kN c l,List.findIdx?_cons]
   by_cases h:b=c
   . subst h; simp
   . have:([c]:List UInt8).isPrefixOf (b :: l)=false:=by simp [List.isPrefixOf]; exact fun e=>h e.symm
     rw [this]
     simp only [Bool.false_eq_true,if_false,h,decide_false]
     cases hq:l.findIdx? (fun x=>decide (x=c)) with
     | none=>simp
     | some k =>
       have:((k:Int) == -1)=false:=by rw [beq_eq_false_iff_ne]; omega
       simp [this]
theorem xE (c:UInt8) (s:List UInt8):Lib.cut s [c]=match s.findIdx? (fun x=>decide (x=c)) with | some k=>(s.take k,s.drop (k + 1),true) | none=>(s,[],false):=by
 unfold Lib.cut
 rw [kN]
 cases s.findIdx? (fun x=>decide (x=c)) with
 | none=>simp
 | some k=>simp
def hd (b:UInt8):List (List UInt8)→List (List UInt8)
 | p :: ps=>(b :: p) :: ps
 | []=>[[b]]
def ag (c:UInt8):List UInt8→List (List UInt8)
 | []=>[[]]
 | b :: l=>if b=c then [] :: ag c l else hd b (ag c l)
theorem eD (c b:UInt8) (l:List UInt8):ag c (b :: l)=if b=c then [] :: ag c l else hd b (ag c l):=rfl
theorem iV (c:UInt8):∀ s,ag c s≠[]
 | []=>by simp [ag]
 | b :: l=>by
   rw [eD]; split
   . simp
   . cases ag c l <;> simp [hd]
theorem kE (c:UInt8):∀ (s:List UInt8) (k:Nat),s.findIdx? (fun x=>decide (x=c))=some k→ag c s=s.take k :: ag c (s.drop (k + 1))
 | [],k,h=>by simp at h
 | b :: l,k,h=>by
   rw [List.findIdx?_cons] at h
   rw [eD]
   by_cases hb:b=c
   . subst hb; simp at h; subst h; simp
   . simp only [hb,decide_false,Bool.false_eq_true,if_false] at h ⊢
     cases hq:l.findIdx? (fun x=>decide (x=c)) with
     | none=>rw [hq] at h; simp at h
     | some j =>
       rw [hq] at h; simp at h; subst h
       rw [kE c l j hq]; simp [hd]
theorem iR (c:UInt8):∀ (s:List UInt8),s.findIdx? (fun x=>decide (x=c))=none→ag c s=[s]
 | [],h=>rfl
 | b :: l,h=>by
   rw [List.findIdx?_cons] at h
   rw [eD]
   by_cases hb:b=c
   . subst hb; simp at h
   . simp only [hb,decide_false,Bool.false_eq_true,if_false] at h ⊢
     cases hq:l.findIdx? (fun x=>decide (x=c)) with
     | none=>rw [iR c l hq]; rfl
     | some j=>rw [hq] at h; simp at h
theorem pJ (c:UInt8):∀ (k:Nat) (s:List UInt8),s.count c=k→Lib.splitK [c] 0 k s=ag c s:=by
 intro k
 induction k with
 | zero =>
   intro s h
   have:s.findIdx? (fun x=>decide (x=c))=none:=by
     rw [List.findIdx?_eq_none_iff]
     intro x hx
     rw [List.count_eq_zero] at h
     simp only [decide_eq_false_iff_not]
     rintro rfl; exact h hx
   rw [iR c s this]; rfl
 | succ k ih =>
   intro s h
   unfold Lib.splitK
   rw [kN]
   cases hq:s.findIdx? (fun x=>decide (x=c)) with
   | none =>
     rw [List.findIdx?_eq_none_iff] at hq
     have:c∈s:=by rw [← List.count_pos_iff]; omega
     have:=hq c this
     simp at this
   | some j =>
     have:((j:Int) == -1)=false:=by rw [beq_eq_false_iff_ne]; omega
     simp only [this,Bool.false_eq_true,if_false,Int.toNat_natCast,Nat.add_zero,List.length_cons,List.length_nil,Nat.zero_add]
     rw [kE c s j hq]
     have e:(s.drop (j + 1)).count c=k:=by
       obtain ⟨hj,h1,h2⟩:=List.findIdx?_eq_some_iff_getElem.1 hq
       have e1:s=s.take j++s[j] :: s.drop (j + 1):=by rw [List.getElem_cons_drop,List.take_append_drop]
       have e2:(s.take j).count c=0:=by
         rw [List.count_eq_zero]
         intro hm
         obtain ⟨i,hi,e⟩:=List.getElem_of_mem hm
         have hij:i < j:=by rw [List.length_take] at hi; omega
         have:=h2 i hij
         rw [List.getElem_take] at e
         simp [e] at this
       have e3:s[j]=c:=by simpa using h1
       have e4:=congrArg (List.count c) e1
       rw [List.count_append,e2,e3,List.count_cons_self] at e4
       omega
     rw [ih _ e]
theorem kG (c:UInt8):∀ (p s:List UInt8),c∉p→ag c (p++c :: s)=p :: ag c s
 | [],s,h=>by simp [ag]
 | b :: p,s,h=>by
   have hb:b≠c:=fun e=>h (by simp [e])
   rw [List.cons_append,eD,if_neg hb,kG c p s (fun e=>h (by simp [e]))]; rfl
theorem qg (c:UInt8) (p:List UInt8) (h:c∉p):ag c p=[p]:=by
 refine iR c p ?_
 rw [List.findIdx?_eq_none_iff]
 intro x hx
 simp only [decide_eq_false_iff_not]
 rintro rfl; exact h hx
def aM (c:UInt8):List (List UInt8)→List UInt8
 | []=>[]
 | p :: ps=>p++ps.flatMap (c :: ·)
theorem iS (c:UInt8) (p q:List UInt8) (ps:List (List UInt8)):aM c (p :: q :: ps)=p++c :: aM c (q :: ps):=by simp [aM]
theorem pP (c:UInt8):∀ (l:List (List UInt8)),l≠[]→(∀ p∈l,c∉p)→ag c (aM c l)=l
 | [],h,_=>absurd rfl h
 | [p],_,h=>by simp only [aM,List.flatMap_nil,List.append_nil]; exact qg c p (h p (by simp))
 | p :: q :: ps,_,h=>by
   rw [iS,kG c p _ (h p (by simp)),pP c (q :: ps) (by simp) (fun x hx=>h x (by simp at hx ⊢; exact .inr hx))]
theorem mW (c:UInt8):∀ (s:List UInt8),aM c (ag c s)=s
 | []=>rfl
 | b :: l=>by
   have ih:=mW c l
   rw [eD]
   by_cases hb:b=c
   . subst hb
     rw [if_pos rfl]
     cases hq:ag b l with
     | nil=>exact absurd hq (iV b l)
     | cons p ps=>rw [iS,← hq,ih]; rfl
   . rw [if_neg hb]
     cases hq:ag c l with
     | nil=>exact absurd hq (iV c l)
     | cons p ps =>
       rw [hq] at ih
       simp only [aM,hd] at ih ⊢
       rw [List.cons_append,ih]
theorem nh (c:UInt8):∀ (l:List (List UInt8)),Lib.join l [c]=aM c l
 | []=>by simp [Lib.join,aM]
 | [p]=>by simp [Lib.join,aM,List.intercalate]
 | p :: q :: ps=>by
   have ih:=nh c (q :: ps)
   rw [iS,← ih]
   simp [Lib.join,List.intercalate]
def lst (l:List Int):List UInt8:=aM 44 (l.map text)
end Nu
end
theorem vx (xa xb:List Int) (hn:xa.length≤1073741824):fw xa xb=some (decide (xa=xb)):=by
 unfold fw
 by_cases hl:xa.length=xb.length
 . rw [fi hl,cond_false,kF (body:=ki xa xb) xa xb (.inr false) (.inl ()) hl ?_ ?_]
   . by_cases h:xa=xb <;> simp [h]
   . intro k h; unfold ki
     have h2:k < xb.length:=by omega
     by_cases q:xa[k]=xb[k] <;> simp [an h,an h2,h,q,av h (by omega)]
   . simp [ki]
 . rw [oy hl,cond_true]
   have:¬ xa=xb:=fun h=>hl (by rw [h])
   simp [this]
end
end Go.Proofs.YtbheedkpbbmlcaaGreatDoor
