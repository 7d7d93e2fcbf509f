/- A part of the proof: what lies ahead of the law. Nothing is claimed here. -/
import Derived.Test.YteciehjlefldmaaDoorZ3
import Derived.Shelf.Strings.Builder1
import Derived.Shelf.Strings.Builder2
import Derived.Shelf.Strings.OnBuilder
import Derived.Shelf.Small.Wraps
import Derived.Shelf.Strings.BuilderF
import Derived.Shelf.Strings.BuilderK
import Derived.Shelf.Utf8.RuneCount
import Derived.Shelf.Strings.Builder2Cap
import Derived.Shelf.Strings.Search1
import Derived.Shelf.Strings.Search2
import Derived.Shelf.Strings.Search3
import Derived.Shelf.Strings.Cut
import Derived.Shelf.Strings.Count
import Derived.Shelf.LaysM
import Derived.Shelf.Strings.Shaped
import Derived.Shelf.Strings.Prefix
import Derived.Shelf.Strings.Split
import Derived.Shelf.Strings.SplitShaped
import Derived.Shelf.Unicode.Decode
import Derived.Shelf.Strings.RuneCount
import Derived.Shelf.Strings.Explode
import Derived.Shelf.Unicode.DecodeSlow
import Derived.Shelf.Unicode.DecodeAny
import Derived.Shelf.Strings.BuilderCap
import Derived.Shelf.Slices.Turned
import Derived.Test.YteciehjlefldmaaDoorProg
import Derived.Shelf.Vars
import Derived.Test.YteciehjlefldmaaDoorRows
import Derived.Lib.SplitLaws
import Derived.Lib.IndexMore
import Derived.Lib.Join
namespace Go.Proofs.YteciehjlefldmaaDoor
noncomputable section
set_option linter.unusedVariables false
set_option linter.unusedSimpArgs false
set_option linter.unnecessarySimpa false
set_option linter.unusedSectionVars false
open Go.RowKit
section
variable [BldA]
section
variable {R:Type} {P:Program} {E:En} {n:Nat} {m m':List M} {K K':Hp} {fr:Frz} {σ σ':Zt} {ρ ρ':Sl1} {w w':World}
theorem pR {c:Code} {f:Hn P→Zt→(R:Type)→(Exit→Hn P→Zt→Option R)→Option R} (hf:Fok P n c f) (hrd:gY E fr) {s:Sh} {act W:List Nat} {a b:Hn P} {k:Hn P→Zt→Option R} {r:R} {Q:Exit→Act→World→Prop} (h:gH f s act W a b σ k=some r) (hr:Rel E fr σ m K ρ w)
   (hQ:∀ h' σ' m' K' ρ' w',Rel E fr σ' m' K' ρ' w'→Same σ σ'→k h' σ'=some r→Q .normal (Go.Proofs.YteciehjlefldmaaDoor.act1 n ρ') w'):c.wpIn (ax E.rd) 0 P Q (Go.Proofs.YteciehjlefldmaaDoor.act1 n ρ) w:=by
 unfold gH at h
 obtain ⟨x,hx,h⟩:=ob h
 refine hf _ E ⟨m,K,ρ,fun _=>false,fr.F,fr.k0⟩ hrd a (σ.frz act) _ x m K ρ w Q hx (hr.frz act) (fun e h' σ' m' K' ρ' w' h1 h2 h3=>?_)
 cases e with
 | normal =>
   obtain ⟨h'',σ2,m2,K2,g1,g2,g3⟩:=aJ h' h3 h1
   have hi:Inn σ fr ⟨m,K,ρ,fun _=>false,fr.F,fr.k0⟩ m K ρ (bO σ.H act) σ2 W:=⟨rfl,rfl,rfl,rfl,rfl,(g2.2.trans h2.2),fe,fun _ _=>rfl⟩
   obtain ⟨σ3,m3,q1,q2,q3⟩:=kD hr hi g3 g1 h
   exact hQ b σ3 m3 K2 ρ' w' q3 q2 q1
 | _=>cases h3
theorem pK {c:Code} {f:Hn P→Zt→(R:Type)→(Exit→Hn P→Zt→Option R)→Option R} (hf:Fok P n c f) (hrd:gY E fr) {s:Sh} {act W:List Nat} {a b:Hn P} {k:Exit→Hn P→Zt→Option R} {r:R} {Q:Exit→Act→World→Prop} (h:gN f s act W a b σ k=some r) (hr:Rel E fr σ m K ρ w)
   (hQ:∀ e h' σ' m' K' ρ' w',Rel E fr σ' m' K' ρ' w'→Same σ σ'→k e h' σ'=some r→Q e (Go.Proofs.YteciehjlefldmaaDoor.act1 n ρ') w'):c.wpIn (ax E.rd) 0 P Q (Go.Proofs.YteciehjlefldmaaDoor.act1 n ρ) w:=by
 unfold gN at h
 obtain ⟨o,ho,h⟩:=ob h
 refine hf _ E ⟨m,K,ρ,fun _=>false,fr.F,fr.k0⟩ hrd a (σ.frz act) _ o m K ρ w Q ho (hr.frz act) (fun e h' σ' m' K' ρ' w' h1 h2 h3=>?_)
 have other:(k e h' (σ.thaw σ' (bO σ.H act) [])).map Sum.inr=some o→Q e (Go.Proofs.YteciehjlefldmaaDoor.act1 n ρ') w':=fun h3=>by
   rw [Option.map_eq_some_iff] at h3
   obtain ⟨r',h4,rfl⟩:=h3
   cases h
   have hi:Inn σ fr ⟨m,K,ρ,fun _=>false,fr.F,fr.k0⟩ m K ρ (bO σ.H act) σ' []:=⟨rfl,rfl,rfl,rfl,rfl,h2.2,fe,fun _ _=>rfl⟩
   obtain ⟨q1,q2⟩:=mO hr hi h1
   exact hQ e h' _ m' K' ρ' w' q2 q1 h4
 cases e with
 | normal =>
   obtain ⟨h'',σ2,m2,K2,g1,g2,g3⟩:=aJ h' h3 h1
   rw [Option.map_eq_some_iff] at g1
   obtain ⟨x,g1,rfl⟩:=g1
   have hi:Inn σ fr ⟨m,K,ρ,fun _=>false,fr.F,fr.k0⟩ m K ρ (bO σ.H act) σ2 W:=⟨rfl,rfl,rfl,rfl,rfl,(g2.2.trans h2.2),fe,fun _ _=>rfl⟩
   obtain ⟨σ3,m3,q1,q2,q3⟩:=kD hr hi g3 g1 h
   exact hQ .normal b σ3 m3 K2 ρ' w' q3 q2 q1
 | _=>exact other h3
theorem vX {s:Sh} {W:List Nat} {rest:List HA} {x:TL s.ts} (hr:Rel E fr σ m K ρ w) {g:Gt} {f:Nat→SV} {H:List HA} {us:List ab}
   (hg:s.get f H=some g) (hx:TL.of s.ts g.ds=some x) (hok:∀ a∈H,HA.ok m' K' a) (hf:∀ i,SV.rel m' K' (f i) (ρ' i)) (hmm:m <+: m') (hKK:K.le K') (hrest:∀ a∈rest,a∈σ.H) (hs:Sep E K' (H.map (HA.conc m')++(us++(rest.map (HA.conc m)++σ.fz fr))) w')
   (hds:MOk fr.k0 K' ρ'.ds) (hold:∀ i,i∉W→ρ' i=ρ i) {vs:List (Nat×SV)} {u:Un} (hu:s.un (TL.list s.ts x) σ.nx=some (vs,u)) :
   ∃ m'',Rel E ⟨m,K,ρ,fun i=>W.contains i,fr.F,fr.k0⟩ ⟨fun i=>bif W.contains i then .any else σ.get i,bd (bI σ) vs,u.H.map (HA.sub (bI σ)),rest++σ.Hf,u.nx,false⟩ m'' K' ρ' w':=by
 rw [TL.of_list hx] at hu
 have hoo:bA s.bl m.length=true:=by
   unfold Sh.un at hu
   rw [hr.nx]
   cases ho:bA s.bl σ.nx with
   | true=>rfl
   | false=>rw [ho] at hu; cases hu
 obtain ⟨vs',u',ms,e1,e2,e3,e4,e5,e6,e7,e8⟩:=Sh.get_un hg hok hmm hoo
 rw [hr.nx,hu] at e1
 cases e1
 have hp':=ar m ms
 refine ⟨m++ms,Rel.subs (σ:=⟨fun i=>bif W.contains i then .any else σ.get i,vs,u.H,rest++σ.Hf,u.nx,false⟩) (jY hr.toPur (m':=m++ms) (fun _ _ k=>ah hp' k) hKK) ⟨⟨ar m ms,hKK,e2,fun e=>(by cases e),fun i=>?_,fun i hi=>?_,fun i hi=>?_,fun i sv hi=>j5 e3 hi _ (hf i),e4,fun a ha=>?_,hds⟩,?_⟩⟩
 . show SV.rel m K (bif W.contains i then .any else σ.get i) (ρ i)
   cases W.contains i with
   | true=>exact trivial
   | false=>exact hr.toPur.get i
 . show (bif W.contains i then SV.any else σ.get i) = .any
   have hi:W.contains i=true:=hi
   rw [hi]; rfl
 . by_cases hW:i∈W
   . exact .inl (by simpa using hW)
   . exact .inr (hold i hW)
 . refine hr.toPur.all a ?_
   rcases List.mem_append.1 ha with ha | ha
   . exact List.mem_append_left _ (hrest a ha)
   . exact List.mem_append_right _ ha
 . have s1:=e6 E _ w' hs
   have s2:Sep E K' ((g.H.map (HA.conc m')++us)++(u.H.map (HA.conc (m++ms))++(rest.map (HA.conc m)++σ.fz fr))) w':=Sep.perm (by
     rw [List.append_assoc]
     refine (gD _ _ _).trans (List.Perm.append_left _ (gD _ _ _)) ) s1
   show Sep E K' (u.H.map (HA.conc (m++ms))++((rest++σ.Hf).map (HA.conc m)++fr.F)) w'
   rw [List.map_append,hr.toPur.fz',List.append_assoc]
   exact Sep.drops s2
theorem pt {s:Sh} {ds:List Dat} {nx:Nat} {o:List (Nat×SV)×Un} (h:s.un ds nx=some o):bA s.bl nx=true:=by
 unfold Sh.un at h
 cases ho:bA s.bl nx with
 | true=>rfl
 | false=>rw [ho] at h; cases h
theorem vL {c:Code} {f:Hn P→Zt→(R:Type)→(Exit→Hn P→Zt→Option R)→Option R} (hf:Fok P n c f) (hrd:gY E fr) {s:Sh} {W:List Nat} {a:Hn P} {k:Exit→Hn P→Zt→Option R} {r:R} {Q:Exit→Act→World→Prop} (h:kY f s W a σ k=some r) (hr:Rel E fr σ m K ρ w)
   (hQ:∀ e h' σ' m' K' ρ' w',Rel E fr σ' m' K' ρ' w'→Same σ σ'→k e h' σ'=some r→Q e (Go.Proofs.YteciehjlefldmaaDoor.act1 n ρ') w'):(Code.loop c).wpIn (ax E.rd) 0 P Q (Go.Proofs.YteciehjlefldmaaDoor.act1 n ρ) w:=by
 unfold kY at h
 split at h
 . rename_i g hg
   split at h
   . rename_i x0 hx0
     obtain ⟨N,hN⟩:=j3 h
     refine wpIn_loop_rounds N ?_
     -- a round's head
     have round:∀ (N:Nat) (x:TL s.ts) (m1:List M) (K1:Hp) (ρ1:Sl1) (w1:World) (vs:List (Nat×SV)) (u:Un),cq (iC f s W g a σ k) N x=some r→s.un (TL.list s.ts x) σ.nx=some (vs,u) →
         Rel E ⟨m,K,ρ,fun i=>W.contains i,fr.F,fr.k0⟩ ⟨fun i=>bif W.contains i then .any else σ.get i,bd (bI σ) vs,u.H.map (HA.sub (bI σ)),g.H++σ.Hf,u.nx,false⟩ m1 K1 ρ1 w1→Code.roundsIn (ax E.rd) 0 P c Q N (Go.Proofs.YteciehjlefldmaaDoor.act1 n ρ1) w1:=by
       intro N
       induction N with
       | zero=>intro x m1 K1 ρ1 w1 vs u hi; cases hi
       | succ N ih =>
         intro x m1 K1 ρ1 w1 vs u hi hu hrel
         unfold cq at hi
         obtain ⟨o,ho,hi⟩:=ob hi
         rw [roundsIn_succ]
         unfold iC at ho
         rw [hu] at ho
         simp only at ho
         have hgsub:∀ a∈g.H,a∈σ.H:=by
           obtain ⟨_,_,_,_,_,_,_,e5,_⟩:=Sh.get_un (m:=m) (K:=K) hg hr.okH (List.prefix_refl m) (by rw [hr.nx]; exact pt hu)
           exact e5
         refine hf _ E ⟨m,K,ρ,fun i=>W.contains i,fr.F,fr.k0⟩ hrd a _ _ o m1 K1 ρ1 w1 _ ho hrel (fun e h' σ' m' K' ρ' w' h1 h2 h3=>?_)
         have other:e ≠ .normal→(k e h' (σ.thaw σ' g.H W)).map Sum.inr=some o→Q e (Go.Proofs.YteciehjlefldmaaDoor.act1 n ρ') w':=fun _ h3=>by
           rw [Option.map_eq_some_iff] at h3
           obtain ⟨r',h4,rfl⟩:=h3
           cases hi
           have hii:Inn σ fr ⟨m,K,ρ,fun i=>W.contains i,fr.F,fr.k0⟩ m K ρ g.H σ' W:=⟨rfl,rfl,rfl,rfl,rfl,h2.2,hgsub,fun i hi=>by simpa using hi⟩
           obtain ⟨q1,q2⟩:=mO hr hii h1
           exact hQ e h' _ m' K' ρ' w' q2 q1 h4
         cases e with
         | normal =>
           obtain ⟨h'',σ2,m2,K2,g1,g2,g3⟩:=aJ h' h3 h1
           rw [Option.map_eq_some_iff] at g1
           obtain ⟨x',g1,rfl⟩:=g1
           have hsame:=h2.trans g2
           unfold Zt.pack at g1
           replace g1:=ag g1; obtain ⟨hk,g1⟩:=g1
           split at g1
           . rename_i g' hg'
             cases hu':s.un (TL.list s.ts x') σ.nx with
             | none =>
               -- the next round would not run
               cases N with
               | zero=>cases hi
               | succ N =>
                 unfold cq at hi
                 obtain ⟨o2,ho2,_⟩:=ob hi
                 unfold iC at ho2
                 rw [hu'] at ho2
                 cases ho2
             | some q =>
               obtain ⟨vs',u'⟩:=q
               have hii:Inn σ fr ⟨m,K,ρ,fun i=>W.contains i,fr.F,fr.k0⟩ m K ρ g.H σ2 W:=⟨rfl,rfl,rfl,rfl,rfl,hsame.2,hgsub,fun i hi=>by simpa using hi⟩
               obtain ⟨m'',hrel'⟩:=vX (W:=W) (rest:=g.H) (us:=[]) hr hg' g1 g3.okH g3.toPur.get g3.hm g3.hK hgsub (by rw [List.nil_append]; exact hii.sep hr g3) g3.mks (fun i hi=>by
                 have:=g3.old i (jO hk hi)
                 rcases this with h4 | h4
                 . exact absurd (by simpa using h4) hi
                 . exact h4) hu'
               exact ih x' m'' K2 ρ' w' vs' u' hi hu' hrel'
           . cases g1
         | exit i=>exact other nofun h3
         | goto l=>exact other nofun h3
         | ret=>exact other nofun h3
         | panic c=>exact other nofun h3
         | outgrown=>exact other nofun h3
     cases hu:s.un (TL.list s.ts x0) σ.nx with
     | none =>
       cases N with
       | zero=>cases hN
       | succ N =>
         unfold cq at hN
         obtain ⟨o2,ho2,_⟩:=ob hN
         unfold iC at ho2
         rw [hu] at ho2
         cases ho2
     | some q =>
       obtain ⟨vs,u⟩:=q
       have hu2:=hu
       rw [TL.of_list hx0] at hu2
       obtain ⟨vs',u',ms,e1,e2,e3,e4,e5,e6,e7,e8⟩:=Sh.get_un (m:=m) (K:=K) hg hr.okH (List.prefix_refl m) (by rw [hr.nx]; exact pt hu2)
       rw [hr.nx,hu2] at e1
       cases e1
       have hp':=ar m ms
       refine round N x0 (m++ms) K ρ w vs u hN hu (Rel.subs (σ:=⟨fun i=>bif W.contains i then .any else σ.get i,vs,u.H,g.H++σ.Hf,u.nx,false⟩) (jY hr.toPur (m':=m++ms) (fun _ _ k=>ah hp' k) (Hp.le_refl K)) ⟨⟨ar m ms,Hp.le_refl K,e2,fun e=>(by cases e),fun i=>?_,fun i hi=>?_,fun i hi => .inr rfl,fun i sv hi=>j5 e3 hi _ (hr.toPur.get i),e4,fun a ha=>?_,hr.mks⟩,?_⟩)
       . show SV.rel m K (bif W.contains i then .any else σ.get i) (ρ i)
         cases W.contains i with
         | true=>exact trivial
         | false=>exact hr.toPur.get i
       . show (bif W.contains i then SV.any else σ.get i) = .any
         have hi:W.contains i=true:=hi
         rw [hi]; rfl
       . refine hr.toPur.all a ?_
         rcases List.mem_append.1 ha with ha | ha
         . exact List.mem_append_left _ (e5 a ha)
         . exact List.mem_append_right _ ha
       . have s1:=e6 E _ w hr.toSep
         show Sep E K (u.H.map (HA.conc (m++ms))++((g.H++σ.Hf).map (HA.conc m)++fr.F)) w
         rw [List.map_append,hr.toPur.fz',List.append_assoc]
         exact s1
   . cases h
 . cases h
theorem pv {c:Code} {f:Hn P→Zt→(R:Type)→(Exit→Hn P→Zt→Option R)→Option R} (hf:Fok P n c f) (hrd:gY E fr) {k:Exit→Hn P→Zt→Option R} {r:R} {Q:Exit→Act→World→Prop}
   (hQ:∀ e h' σ' m' K' ρ' w',Rel E fr σ' m' K' ρ' w'→Same σ σ'→k e h' σ'=some r→Q e (Go.Proofs.YteciehjlefldmaaDoor.act1 n ρ') w'):∀ (N:Nat) {h:Hn P} {σ1:Zt} {m:List M} {K:Hp} {ρ:Sl1} {w:World},iJ (fun h σ k=>f h σ _ k) k N h σ1=some r→Rel E fr σ1 m K ρ w→Same σ σ1→Code.roundsIn (ax E.rd) 0 P c Q N (Go.Proofs.YteciehjlefldmaaDoor.act1 n ρ) w
 | 0,h,σ1,m,K,ρ,w,hh,hr,hs=>by cases hh
 | N + 1,h,σ1,m,K,ρ,w,hh,hr,hs=>by
   rw [roundsIn_succ]
   unfold iJ at hh
   refine hf _ E fr hrd h σ1 _ r m K ρ w _ hh hr (fun e h' σ' m' K' ρ' w' h1 h2 h3=>?_)
   cases e with
   | normal=>exact pv hf hrd hQ N h3 h1 (hs.trans h2)
   | exit i=>exact hQ _ h' σ' m' K' ρ' w' h1 (hs.trans h2) h3
   | goto i=>exact hQ _ h' σ' m' K' ρ' w' h1 (hs.trans h2) h3
   | ret=>exact hQ _ h' σ' m' K' ρ' w' h1 (hs.trans h2) h3
   | panic i=>exact hQ _ h' σ' m' K' ρ' w' h1 (hs.trans h2) h3
   | outgrown=>exact hQ _ h' σ' m' K' ρ' w' h1 (hs.trans h2) h3
theorem pF {y:Code} {k:Exit→Hn P→Zt→Option R} {f:Hn P→Zt→Option R} {r:R} {Q:Exit→Act→World→Prop} {σ0:Zt} (hf:∀ h' σ' m' K' ρ' w',Rel E fr σ' m' K' ρ' w'→Same σ0 σ'→f h' σ'=some r→y.wpIn (ax E.rd) 0 P Q (Go.Proofs.YteciehjlefldmaaDoor.act1 n ρ') w')
   (hQ:∀ e h' σ' m' K' ρ' w',Rel E fr σ' m' K' ρ' w'→Same σ0 σ'→k e h' σ'=some r→Q e (Go.Proofs.YteciehjlefldmaaDoor.act1 n ρ') w'):∀ e h' σ' m' K' ρ' w',Rel E fr σ' m' K' ρ' w'→Same σ0 σ'→gC k f e h' σ'=some r→Exit.then (y.wpIn (ax E.rd) 0 P Q) Q e (Go.Proofs.YteciehjlefldmaaDoor.act1 n ρ') w':=by
 intro e h' σ' m' K' ρ' w' h1 h2 h3
 cases e with
 | normal=>exact hf h' σ' m' K' ρ' w' h1 h2 h3
 | exit i=>exact hQ _ h' σ' m' K' ρ' w' h1 h2 h3
 | goto i=>exact hQ _ h' σ' m' K' ρ' w' h1 h2 h3
 | ret=>exact hQ _ h' σ' m' K' ρ' w' h1 h2 h3
 | panic i=>exact hQ _ h' σ' m' K' ρ' w' h1 h2 h3
 | outgrown=>exact hQ _ h' σ' m' K' ρ' w' h1 h2 h3
theorem cA {J:Rn P} (hJ:JOk J):∀ (c:Code),Fok P n c (fun h σ R k=>exec J n c h σ k)
 | .skip=>fun R E fr hrd h σ k r m K ρ w Q hh hr hQ=>wpIn_skip (hQ _ h σ m K ρ w hr Same.rfl' hh)
 | .ret=>fun R E fr hrd h σ k r m K ρ w Q hh hr hQ=>wpIn_ret (hQ _ h σ m K ρ w hr Same.rfl' hh)
 | .exit id=>fun R E fr hrd h σ k r m K ρ w Q hh hr hQ=>wpIn_exit (hQ _ h σ m K ρ w hr Same.rfl' hh)
 | .label l=>fun R E fr hrd h σ k r m K ρ w Q hh hr hQ=>wpIn_label (hQ _ h σ m K ρ w hr Same.rfl' hh)
 | .scope b=>fun R E fr hrd h σ k r m K ρ w Q hh hr hQ=>by
   refine sV (cA hJ b R E fr hrd h σ _ r m K ρ w _ (show exec J n b h σ (qB k)=some r from hh) hr (fun e h' σ' m' K' ρ' w' h1 h2 h3=>?_))
   cases e with
   | goto l=>cases h3
   | normal=>exact hQ _ h' σ' m' K' ρ' w' h1 h2 h3
   | exit i=>exact hQ _ h' σ' m' K' ρ' w' h1 h2 h3
   | ret=>exact hQ _ h' σ' m' K' ρ' w' h1 h2 h3
   | panic i=>exact hQ _ h' σ' m' K' ρ' w' h1 h2 h3
   | outgrown=>exact hQ _ h' σ' m' K' ρ' w' h1 h2 h3
 | .region id ops draw=>fun R E fr hrd h σ k r m K ρ w Q hh hr hQ=>by
   change (bif !ops.toList.all b0 then none else bif draw then av h σ fun h σ=>gZ n ops.toList h σ fun h σ=>(match h with | .mix plan fin tail act r=>nW n ops plan fin tail act r σ (k .normal) | .tr t s act a b=>trS n ops t s act a b σ (k .normal) | _=>none) else av h σ fun h σ=>nQ J n ops h σ (k .normal))=some r at hh
   replace hh:=dK hh; obtain ⟨hn,hh⟩:=hh
   have hn:ops.toList.all b0=true:=by simpa using hn
   cases draw with
   | false =>
     simp only [cond_false] at hh
     obtain ⟨h1,σ1,m1,K1,hh,g1,hr⟩:=aJ h hh hr
     replace hQ:∀ e h' σ' m' K' ρ' w',Rel E fr σ' m' K' ρ' w'→Same σ1 σ'→k e h' σ'=some r→Q e (act1 n ρ') w':=fun e h' σ' m' K' ρ' w' q1 q2 q3=>hQ e h' σ' m' K' ρ' w' q1 (g1.trans q2) q3
     clear g1
     unfold nQ at hh
     split at hh
     . rename_i q h2
       have key:wpListIn (ax E.rd) 0 P ops Q (ops.toList.take q++ops.toList.drop q) (act1 n ρ) w:=by
         have hn1:(ops.toList.take q).all b0=true:=List.all_eq_true.2 (fun x hx=>List.all_eq_true.1 hn x (List.mem_of_mem_take hx))
         have hn2:(ops.toList.drop q).all b0=true:=List.all_eq_true.2 (fun x hx=>List.all_eq_true.1 hn x (List.mem_of_mem_drop hx))
         refine lK hn1 ?_
         have:=gq (ops:=ops) (Q:=fun e a w=>e = .normal∧wpListIn (ax E.rd) 0 P ops Q (ops.toList.drop q) a w) (ops.toList.take q) 0 hh hr (fun h' σ' m' K' ρ' w' h1 h2 h3=>?_)
         . simpa using this
         . refine ⟨rfl,?_⟩
           split at h3
           . rename_i o rest hd
             rw [hd] at hn2 ⊢
             simp only [List.all_cons,Bool.and_eq_true] at hn2
             obtain ⟨dst,op,t,pos,af,gu⟩:=o
             obtain ⟨h4,σ4,s4,hr4,hg⟩:=gt h3 h1
             rcases hg with ⟨hw,hg⟩ | ⟨hw,hg⟩
             . refine wK hJ hg hr4 hw (fun h'' σ'' m'' K'' ρ'' w'' g1 g2 g3=>?_)
               have:=gq (ops:=ops) (Q:=Q) rest 0 g3 g1 (fun h3 σ3 m3 K3 ρ3 w3 b1 b2 b3=>hQ _ h3 σ3 m3 K3 ρ3 w3 b1 (((h2.trans s4).trans g2).trans b2) b3)
               exact fc hn2.2 (by simpa using this)
             . unfold wpListIn
               rw [if_neg (by rw [hw]; exact Bool.false_ne_true)]
               refine ⟨fun _ _=>trivial,?_⟩
               cases dst with
               | none =>
                 have:=gq (ops:=ops) (Q:=Q) rest 0 hg hr4 (fun h3 σ3 m3 K3 ρ3 w3 b1 b2 b3=>hQ _ h3 σ3 m3 K3 ρ3 w3 b1 ((h2.trans s4).trans b2) b3)
                 exact fc hn2.2 (by rw [List.drop_zero] at this; exact this)
               | some d =>
                 show wpListIn _ _ _ _ _ _ ((act1 n ρ').put (some d) undef) _
                 rw [bS]
                 have:=gq (ops:=ops) (Q:=Q) rest 0 hg (hr4.set (d:=d) (sv := .raw undef) (v:=undef) rfl) (fun h3 σ3 m3 K3 ρ3 w3 b1 b2 b3=>hQ _ h3 σ3 m3 K3 ρ3 w3 b1 (((h2.trans s4).trans ⟨rfl,rfl⟩).trans b2) b3)
                 exact fc hn2.2 (by simpa using this)
           . cases h3
       rw [List.take_append_drop] at key
       have:=wpIn_region_lit (id:=id) (l:=ops.toList) (by simpa using key)
       simpa using this
     . have:=wpIn_region_lit (id:=id) (fc (r:=E.rd) (n:=0) hn (gq (Q:=Q) (ops:=ops.toList.toArray) ops.toList 0 (by simpa using hh) hr (fun h' σ' m' K' ρ' w' h1 h2 h3=>hQ _ h' σ' m' K' ρ' w' h1 h2 h3)))
       simpa using this
   | true =>
     simp only [cond_true] at hh
     obtain ⟨h1,σ1,m1,K1,hh,g1,hr⟩:=aJ h hh hr
     obtain ⟨h2,σ2,m2,hh,g2,hr⟩:=qG h1 hh hr
     replace hQ:∀ e h' σ' m' K' ρ' w',Rel E fr σ' m' K' ρ' w'→Same σ2 σ'→k e h' σ'=some r→Q e (act1 n ρ') w':=fun e h' σ' m' K' ρ' w' q1 q2 q3=>hQ e h' σ' m' K' ρ' w' q1 ((g1.trans g2).trans q2) q3
     clear g1 g2
     generalize K1=K at hr
     generalize m2=m at hr
     generalize σ2=σ at hr hh hQ
     split at hh
     . rename_i plan fin tail act' h0
       unfold nW at hh
       replace hh:=bU hh; obtain ⟨hm,hB,hh⟩:=hh
       have hB':jc .any ops.toList.toArray plan fin tail=true:=by simpa using hB
       have hfr:=(hr.frz act').drew
       have hplan:∀ s i,(s,i)∈plan→i < ops.toList.length:=by
         intro s i hi
         have h0:=hB
         unfold jc at h0
         simp only [Bool.and_eq_true] at h0
         obtain ⟨_,h1⟩:=h0
         split at h1
         . rename_i l1 hl1
           simpa using o6 plan _ _ hl1 s i hi
         . cases h1
       have key:=kg (l:=ops.toList) (Q:=Q) plan hh hfr rfl hplan (fun h' σ' m' K' ρ' w' h1 h2 h3=>by
         have hi:Inn σ fr ⟨m,K,ρ,fun _=>false,fr.F,fr.k0⟩ m K ρ (bO σ.H act') σ' []:=⟨rfl,rfl,rfl,rfl,rfl,h2.2,fe,fun _ _=>rfl⟩
         obtain ⟨z1,z2⟩:=mO hr hi h1
         have:=gq (ops:=ops.toList.toArray) (Q:=Q) (a8 ops.toList tail) 0 (by simpa using h3) z2 (fun h'' σ'' m'' K'' ρ'' w'' b1 b2 b3=>hQ .normal h'' σ'' m'' K'' ρ'' w'' b1 (z1.trans b2) b3)
         rwa [List.drop_zero] at this)
       have:=tC (id:=id) (Q:=Q) plan fin tail hm hB' _ hfr.cfz rfl rfl rfl key hn (r:=E.rd) (n:=0)
       simpa using this
     . rename_i t s act' a b
       unfold trS at hh
       replace hh:=bU hh; obtain ⟨hm,hB,hh⟩:=hh
       obtain ⟨x,hx,hh⟩:=ob hh
       have hfr:=(hr.frz act').drew
       have key:=ka (l:=ops.toList) (F:=fun a' w'=>ai P ops.toList.toArray Q (a8 ops.toList []) a' w') t hx hfr rfl (fun h' σ' m' K' ρ' w' h1 h2 h3=>by
         obtain ⟨h'',σ2,m2,K2,g1,g2,g3⟩:=aJ h' h3 h1
         have hi:Inn σ fr ⟨m,K,ρ,fun _=>false,fr.F,fr.k0⟩ m K ρ (bO σ.H act') σ2 (s.sl.map (·.1)++ap ops.toList):=⟨rfl,rfl,rfl,rfl,rfl,(g2.2.trans h2.2),fe,fun _ _=>rfl⟩
         obtain ⟨σ3,m3,q1,q2,q3⟩:=kD hr hi g3 g1 hh
         exact hQ .normal b σ3 m3 K2 ρ' w' q3 q2 q1)
       have:=tv (id:=id) (Q:=Q) t [] hm hB _ hfr.cfz rfl key hn (r:=E.rd) (n:=0)
       simpa using this
     . cases hh
 | .seq a b=>fun R E fr hrd h σ k r m K ρ w Q hh hr hQ=>by
   have plain:∀ h0,exec J n a h0 σ (gC k (fun h σ=>exec J n b h σ k))=some r→(Code.seq a b).wpIn (ax E.rd) 0 P Q (act1 n ρ) w:=fun h0 hh =>
     wpIn_seq (cA hJ a R E fr hrd h0 σ _ r m K ρ w _ hh hr (pF (σ0:=σ) (fun h' σ' m' K' ρ' w' h1 h2 h3=>cA hJ b R E fr hrd h' σ' k r m' K' ρ' w' Q h3 h1 (fun e h'' σ'' m'' K'' ρ'' w'' q1 q2 q3=>hQ e h'' σ'' m'' K'' ρ'' w'' q1 (h2.trans q2) q3)) hQ))
   cases h with
   | sq mk s act ha hb =>
     have hh:(match Zt.mcs mk σ with | some σ=>gH (fun h σ R k=>exec J n a h σ k) s act (s.sl.map (·.1)++bW a) ha hb σ (fun h σ=>exec J n b h σ k) | none=>none)=some r:=hh
     split at hh
     . rename_i σ1 hm
       obtain ⟨m1,k1,k2⟩:=iP hm hr
       refine wpIn_seq (pR (cA hJ a) hrd hh k2 (fun h' σ' m' K' ρ' w' h1 h2 h3=>?_))
       exact cA hJ b R E fr hrd h' σ' k r m' K' ρ' w' Q h3 h1 (fun e h'' σ'' m'' K'' ρ'' w'' q1 q2 q3=>hQ e h'' σ'' m'' K'' ρ'' w'' q1 ((k1.trans h2).trans q2) q3)
     . cases hh
   | sx mk s act ha hb =>
     have hh:(match Zt.mcs mk σ with | some σ=>gN (fun h σ R k=>exec J n a h σ k) s act (s.sl.map (·.1)++bW a) ha hb σ (gC k (fun h σ=>exec J n b h σ k)) | none=>none)=some r:=hh
     split at hh
     . rename_i σ1 hm
       obtain ⟨m1,k1,k2⟩:=iP hm hr
       refine wpIn_seq (pK (cA hJ a) hrd hh k2 ?_)
       exact pF (σ0:=σ1) (fun h' σ' m' K' ρ' w' h1 h2 h3=>cA hJ b R E fr hrd h' σ' k r m' K' ρ' w' Q h3 h1 (fun e h'' σ'' m'' K'' ρ'' w'' q1 q2 q3=>hQ e h'' σ'' m'' K'' ρ'' w'' q1 ((k1.trans h2).trans q2) q3)) (fun e h' σ' m' K' ρ' w' q1 q2 q3=>hQ e h' σ' m' K' ρ' w' q1 (k1.trans q2) q3)
     . cases hh
   | pl h=>exact plain h hh
   | nil=>exact plain _ hh
   | two _ _ _=>exact plain _ hh
   | tw _ _ _=>exact plain _ hh
   | jn _ _ _ _ _=>exact plain _ hh
   | jx _ _ _ _ _=>exact plain _ hh
   | lp _ _=>exact plain _ hh
   | un _ _=>exact plain _ hh
   | per _ _ _=>exact plain _ hh
   | perb _ _ _ _=>exact plain _ hh
   | mc _ _ _ _=>exact plain _ hh
   | ms _ _=>exact plain _ hh
   | wt _ _=>exact plain _ hh
   | cl _ _ _=>exact plain _ hh
   | c2 _ _ _ _=>exact plain _ hh
   | gp _ _=>exact plain _ hh
   | gj _ _ _ _ _=>exact plain _ hh
   | mix _ _ _ _ _=>exact plain _ hh
   | opn _ _ _=>exact plain _ hh
   | opb _ _ _=>exact plain _ hh
   | cls _ _ _=>exact plain _ hh
   | opp _ _ _ _=>exact plain _ hh
   | ot _ _=>exact plain _ hh
   | cm _ _ _ _=>exact plain _ hh
   | cm2 _ _ _ _ _=>exact plain _ hh
   | tr _ _ _ _ _=>exact plain _ hh
   | tru _=>exact plain _ hh
   | yl _ _=>exact plain _ hh
   | rg _ _=>exact plain _ hh
 | .cond c x y=>fun R E fr hrd h σ k r m K ρ w Q hh hr hQ=>by
   obtain ⟨h1,σ1,m1,K1,g1,g2,g3⟩:=aJ h (show av h σ (fun h σ=>nA c (σ.evr n c) h σ (fun h σ=>exec J n x h σ k) (fun h σ=>exec J n y h σ k))=some r from hh) hr
   have hv:=g3.toPur.evr n c
   have goX:∀ h2 σ2,Rel E fr σ2 m1 K1 ρ w→Same σ σ2→exec J n x h2 σ2 k=some r→x.wpIn (ax E.rd) 0 P Q (act1 n ρ) w:=fun h2 σ2 q1 q2 q3 =>
     cA hJ x R E fr hrd h2 σ2 k r m1 K1 ρ w Q q3 q1 (fun e h'' σ'' m'' K'' ρ'' w'' p1 p2 p3=>hQ e h'' σ'' m'' K'' ρ'' w'' p1 (q2.trans p2) p3)
   have goY:∀ h2 σ2,Rel E fr σ2 m1 K1 ρ w→Same σ σ2→exec J n y h2 σ2 k=some r→y.wpIn (ax E.rd) 0 P Q (act1 n ρ) w:=fun h2 σ2 q1 q2 q3 =>
     cA hJ y R E fr hrd h2 σ2 k r m1 K1 ρ w Q q3 q1 (fun e h'' σ'' m'' K'' ρ'' w'' p1 p2 p3=>hQ e h'' σ'' m'' K'' ρ'' w'' p1 (q2.trans p2) p3)
   have slot:∀ (d:Nat) (sv:SV),c = .tmp d→σ1.evr n c=sv→sv ≠ .any→σ1.get d=sv:=fun d sv hc he hne=>by
     subst hc
     cases hh:Nat.blt d n with
     | false =>
       have:σ1.evr n (.tmp d) = .any:=by show (bif Nat.blt d n then σ1.get d else .any)=_; rw [hh]; rfl
       rw [this] at he; exact absurd he.symm hne
     | true =>
       have:σ1.evr n (.tmp d)=σ1.get d:=by show (bif Nat.blt d n then σ1.get d else .any)=_; rw [hh]; rfl
       rw [← this]; exact he
   unfold nA at g1
   split at g1
   . rename_i jm w0 e
     rw [e] at hv
     obtain ⟨hj,hv⟩:=hv
     split at g1
     . rename_i t
       have hb:ev n ρ c = .bool t:=hv
       rw [hb] at hj
       refine wpIn_cond_split (t:=t) (by rw [ck]; exact hb) (fun ht=>?_) (fun ht=>?_)
       . subst ht
         split at g1
         . exact goX _ _ (g3.fix (v := .bool true) hj rfl) (g2.trans ⟨rfl,rfl⟩) g1
         . exact goX _ σ1 g3 g2 g1
         . exact goX _ σ1 g3 g2 g1
       . subst ht
         split at g1
         . exact goY _ _ (g3.fix (v := .bool false) hj rfl) (g2.trans ⟨rfl,rfl⟩) g1
         . exact goY _ σ1 g3 g2 g1
         . exact goY _ σ1 g3 g2 g1
     . cases g1
   . rename_i t e
     rw [e] at hv
     have hb:ev n ρ c = .bool t:=hv
     refine wpIn_cond_split (t:=t) (by rw [ck]; exact hb) (fun ht=>?_) (fun ht=>?_)
     . subst ht
       split at g1
       . rename_i ha hbn d _
         have hg:=slot d _ rfl e nofun
         exact goX ha _ (g3.ref (fun _ _ u hu=>by rw [hg] at hu; exact hu) (by rw [hg]; nofun)) (g2.trans ⟨rfl,fJ.2⟩) g1
       . exact goX _ σ1 g3 g2 g1
       . exact goX _ σ1 g3 g2 g1
     . subst ht
       split at g1
       . rename_i ha hbn d _
         have hg:=slot d _ rfl e nofun
         exact goY hbn _ (g3.ref (fun _ _ u hu=>by rw [hg] at hu; exact hu) (by rw [hg]; nofun)) (g2.trans ⟨rfl,fJ.2⟩) g1
       . exact goY _ σ1 g3 g2 g1
       . exact goY _ σ1 g3 g2 g1
   . rename_i tp l ng e
     rw [e] at hv
     obtain ⟨q,hb,hl⟩:=hv
     refine wpIn_cond_split (t:=q ^^ ng) (by rw [ck]; exact hb) (fun ht=>?_) (fun ht=>?_)
     . split at g1
       . rename_i ha hbn _
         cases ng with
         | true =>
           rw [Bool.xor_true] at ht
           simp only [cond_true] at g1
           exact goX ha _ g3 g2 (pw g1)
         | false =>
           rw [Bool.xor_false] at ht
           simp only [cond_false] at g1
           exact goX ha _ g3 g2 (qn (hl ht) g1)
       . cases g1
     . split at g1
       . rename_i ha hbn _
         cases ng with
         | true =>
           rw [Bool.xor_true] at ht
           simp only [cond_true] at g1
           exact goY hbn _ g3 g2 (qn (hl (by simpa using ht)) g1)
         | false =>
           rw [Bool.xor_false] at ht
           simp only [cond_false] at g1
           exact goY hbn _ g3 g2 (pw g1)
       . cases g1
   . cases g1
 | .block id b=>fun R E fr hrd h σ k r m K ρ w Q hh hr hQ=>by
   have blk:∀ {R:Type} {k:Exit→Hn P→Zt→Option R} {r:R} {Q:Exit→Act→World→Prop} {fr:Frz} {σ:Zt},(∀ e h' σ' m' K' ρ' w',Rel E fr σ' m' K' ρ' w'→Same σ σ'→k e h' σ'=some r→Q e (act1 n ρ') w') →
       ∀ e h' σ' m' K' ρ' w',Rel E fr σ' m' K' ρ' w'→Same σ σ'→eJ id k e h' σ'=some r→Exit.inBlock id Q e (act1 n ρ') w':=by
     intro R k r Q fr σ hQ e h' σ' m' K' ρ' w' h1 h2 h3
     cases e with
     | exit i =>
       change (bif Nat.beq i id then k .normal h' σ' else k (.exit i) h' σ')=some r at h3
       show if i=id then _ else _
       cases hb:Nat.beq i id with
       | true =>
         rw [hb] at h3
         rw [if_pos (Nat.eq_of_beq_eq_true hb)]
         exact hQ _ h' σ' m' K' ρ' w' h1 h2 h3
       | false =>
         rw [hb] at h3
         rw [if_neg (fun e=>by rw [e,Nat.beq_refl] at hb; cases hb)]
         exact hQ _ h' σ' m' K' ρ' w' h1 h2 h3
     | normal=>exact hQ _ h' σ' m' K' ρ' w' h1 h2 h3
     | goto l=>exact hQ _ h' σ' m' K' ρ' w' h1 h2 h3
     | ret=>exact hQ _ h' σ' m' K' ρ' w' h1 h2 h3
     | panic i=>exact hQ _ h' σ' m' K' ρ' w' h1 h2 h3
     | outgrown=>exact hQ _ h' σ' m' K' ρ' w' h1 h2 h3
   have fb:Fok P n (.block id b) (fun h σ R k=>exec J n b h σ (eJ id k)):=fun R E fr hrd h σ k r m K ρ w Q hh hr hQ=>by
     refine wpIn_block (cA hJ b R E fr hrd h σ _ r m K ρ w _ hh hr ?_)
     intro e h' σ' m' K' ρ' w' h1 h2 h3
     cases e with
     | exit i =>
       change (bif Nat.beq i id then k .normal h' σ' else k (.exit i) h' σ')=some r at h3
       show if i=id then _ else _
       cases hb:Nat.beq i id with
       | true =>
         rw [hb] at h3
         rw [if_pos (Nat.eq_of_beq_eq_true hb)]
         exact hQ _ h' σ' m' K' ρ' w' h1 h2 h3
       | false =>
         rw [hb] at h3
         rw [if_neg (fun e=>by rw [e,Nat.beq_refl] at hb; cases hb)]
         exact hQ _ h' σ' m' K' ρ' w' h1 h2 h3
     | normal=>exact hQ _ h' σ' m' K' ρ' w' h1 h2 h3
     | goto l=>exact hQ _ h' σ' m' K' ρ' w' h1 h2 h3
     | ret=>exact hQ _ h' σ' m' K' ρ' w' h1 h2 h3
     | panic i=>exact hQ _ h' σ' m' K' ρ' w' h1 h2 h3
     | outgrown=>exact hQ _ h' σ' m' K' ρ' w' h1 h2 h3
   have plain:∀ h0,exec J n b h0 σ (eJ id k)=some r→(Code.block id b).wpIn (ax E.rd) 0 P Q (act1 n ρ) w:=fun h0 hh=>fb R E fr hrd h0 σ k r m K ρ w Q hh hr hQ
   cases h with
   | jn mk s act ha hb =>
     have hh:(match Zt.mcs mk σ with | some σ=>gH (fun h σ R k=>exec J n b h σ (eJ id k)) s act (s.sl.map (·.1)++bW b) ha hb σ (k .normal) | none=>none)=some r:=hh
     split at hh
     . rename_i σ1 hm
       obtain ⟨m1,k1,k2⟩:=iP hm hr
       exact pR fb hrd hh k2 (fun h' σ' m' K' ρ' w' h1 h2 h3=>hQ _ h' σ' m' K' ρ' w' h1 (k1.trans h2) h3)
     . cases hh
   | jx mk s act ha hb =>
     have hh:(match Zt.mcs mk σ with | some σ=>gN (fun h σ R k=>exec J n b h σ (eJ id k)) s act (s.sl.map (·.1)++bW b) ha hb σ k | none=>none)=some r:=hh
     split at hh
     . rename_i σ1 hm
       obtain ⟨m1,k1,k2⟩:=iP hm hr
       exact pK fb hrd hh k2 (fun e h' σ' m' K' ρ' w' q1 q2 q3=>hQ e h' σ' m' K' ρ' w' q1 (k1.trans q2) q3)
     . cases hh
   | pl h=>exact plain _ hh
   | nil=>exact plain _ hh
   | two _ _ _=>exact plain _ hh
   | tw _ _ _=>exact plain _ hh
   | sq _ _ _ _ _=>exact plain _ hh
   | sx _ _ _ _ _=>exact plain _ hh
   | lp _ _=>exact plain _ hh
   | un _ _=>exact plain _ hh
   | per _ _ _=>exact plain _ hh
   | perb _ _ _ _=>exact plain _ hh
   | mc _ _ _ _=>exact plain _ hh
   | ms _ _=>exact plain _ hh
   | wt _ _=>exact plain _ hh
   | cl _ _ _=>exact plain _ hh
   | c2 _ _ _ _=>exact plain _ hh
   | gp _ _=>exact plain _ hh
   | gj _ _ _ _ _=>exact plain _ hh
   | mix _ _ _ _ _=>exact plain _ hh
   | opn _ _ _=>exact plain _ hh
   | opb _ _ _=>exact plain _ hh
   | cls _ _ _=>exact plain _ hh
   | opp _ _ _ _=>exact plain _ hh
   | ot _ _=>exact plain _ hh
   | cm _ _ _ _=>exact plain _ hh
   | cm2 _ _ _ _ _=>exact plain _ hh
   | tr _ _ _ _ _=>exact plain _ hh
   | tru _=>exact plain _ hh
   | yl _ _=>exact plain _ hh
   | rg _ _=>exact plain _ hh
 | .loop b=>fun R E fr hrd h σ k r m K ρ w Q hh hr hQ=>by
   obtain ⟨h1,σ1,m1,K1,g1,g2,g3⟩:=aJ h (show av h σ (fun h σ=>match h with
     | .un m r=>iJ (fun h σ k=>exec J n b h σ k) k m r σ
     | .lp s ha=>kY (fun h σ R k=>exec J n b h σ k) s (s.sl.map (·.1)++bW b) ha σ k
     | _=>none)=some r from hh) hr
   have hQ':∀ e h' σ' m' K' ρ' w',Rel E fr σ' m' K' ρ' w'→Same σ1 σ'→k e h' σ'=some r→Q e (act1 n ρ') w':=fun e h'' σ'' m'' K'' ρ'' w'' p1 p2 p3=>hQ e h'' σ'' m'' K'' ρ'' w'' p1 (g2.trans p2) p3
   split at g1
   . exact wpIn_loop_rounds _ (pv (cA hJ b) hrd hQ' _ g1 g3 Same.rfl')
   . exact vL (cA hJ b) hrd g1 g3 hQ'
   . cases g1
 | .rangeFunc g ps ao bo=>fun R E fr hrd h σ k r m K ρ w Q hh hr hQ=>by
   obtain ⟨h1,σ1,m1,K1,g1,g2,g3⟩:=aJ h (show av h σ (fun h σ=>k7 J n g ps ao bo h σ k)=some r from hh) hr
   exact u6 hJ hrd g1 g3 (fun e h'' σ'' m'' K'' ρ'' w'' p1 p2 p3=>hQ e h'' σ'' m'' K'' ρ'' w'' p1 (g2.trans p2) p3)
 | .goto l=>fun R E fr hrd h σ k r m K ρ w Q hh hr hQ=>by cases hh
 | .refuse s=>fun R E fr hrd h σ k r m K ρ w Q hh hr hQ=>by cases hh
theorem qq:∀ d:Nat,JOk (nk (P:=P) d)
 | 0=>fun n c R E fr hrd h σ k r m K ρ w Q hh hr hQ=>by cases hh
 | d + 1=>fun n c=>cA (qq d) c
end
end
section
variable [BldA]
def dG (P:Program) (n:Nat) (σ:Zt):List ResultVar→Option (List SV)
 | []=>some []
 | .tmp t :: r=>(match dG P n σ r with | some vs=>some (σ.ev n (.tmp t) :: vs) | none=>none)
 | .cell a ty :: r=>(match σ.ev n (.tmp a) with
   | .ptr i o=>(match aO (HA.blkR i) (σ.H++σ.Hf) with
     | some q=>(match ldv P ty q.cs o,dG P n σ r with | some v,some vs=>some (v :: vs) | _,_=>none)
     | none=>none)
   | _=>none)
def sL:List SV→SV
 | [v]=>v
 | vs => .tup vs
def eV (σ:Zt) (rs:List SV) (o:Sh):Option (TL o.ts):=bif (match rs,o.sl with | [],[]=>true | _ :: _,[p]=>Nat.beq p.1 0 | _,_=>false) then (match o.get (fun _=>sL rs) σ.H with | some g=>TL.of o.ts g.ds | none=>none) else none
def k9 {P:Program} (σ:Zt) (rs:List SV):(os:List Sh)→Hn P→Option (cO os)
 | [a],_=>eV σ rs a
 | [a,b],h=>(match h with | .pl _=>(eV σ rs b).map Sum.inr | _=>(eV σ rs a).map Sum.inl)
 | _,_=>none
def lg {P:Program} (n:Nat) (fn:Func) (os:List Sh) (h:Hn P) (σ:Zt):Option (cO os):=av h σ fun h σ=>match dG P n σ fn.results.toList with | some rs=>k9 σ rs os h | none=>none
def fin {P:Program} (n:Nat) (fn:Func) (os:List Sh) (e:Exit) (h:Hn P) (σ:Zt):Option (cO os):=match e with
 | .normal=>lg n fn os h σ
 | .ret=>lg n fn os h σ
 | _=>none
def n5 {P:Program} (n:Nat) (fn:Func) (c:Code) (inn:Sh) (os:List Sh) (h:Hn P) (x:TL inn.ts):Option (cO os):=match inn.un (TL.list inn.ts x) 0 with
 | some (vs,u)=>av h ⟨fun _ => .any,vs,u.H,[],u.nx,false⟩ fun h σ=>exec (nk 4) n c h σ (fin n fn os)
 | none=>none
section
variable {P:Program} {E:En} {n:Nat} {m:List M} {K:Hp} {fr:Frz} {σ:Zt} {ρ:Sl1} {w:World}
theorem mL (hr:Rel E fr σ m K ρ w):∀ {l:List ResultVar} {rs:List SV},dG P n σ l=some rs→∃ us:List Value,SV.relL m K rs us∧l.length=us.length∧∀ (j:Nat) (r:ResultVar) (v:Value),l[j]? = some r→us[j]? = some v→iZ P n (Hold E K (σ.atoms fr m)) ρ r v
 | [],rs,h=>by cases h; exact ⟨[],rfl,rfl,fun j r v h=>by simp at h⟩
 | .tmp t :: l,rs,h=>by
   unfold dG at h
   split at h
   . rename_i vs hvs
     cases h
     obtain ⟨us,h1,h2,h3⟩:=mL hr hvs
     refine ⟨ev n ρ (.tmp t) :: us,⟨_,us,rfl,hr.toPur.ev n (.tmp t),h1⟩,by simp [h2],fun j r v hj hv=>?_⟩
     cases j with
     | zero=>simp at hj hv; subst hj hv; rfl
     | succ j=>exact h3 j r v (by simpa using hj) (by simpa using hv)
   . cases h
 | .cell a ty :: l,rs,h=>by
   unfold dG at h
   split at h
   . rename_i i o e
     split at h
     . rename_i q hq
       split at h
       . rename_i v vs hv hvs
         cases h
         obtain ⟨us,h1,h2,h3⟩:=mL hr hvs
         obtain ⟨x,hx,hmem⟩:=br hq
         obtain rfl:=cR hx
         obtain ⟨b,ws,g1,g2,g3⟩:=hr.cls.blk hmem
         obtain ⟨u,g4,g5⟩:=iG (P:=P) (o0:=0) hv g2 (fun j u hu=>by rw [Nat.zero_add]; exact g3 j u hu)
         rw [Nat.zero_add] at g4
         have hev:=hr.toPur.ev n (.tmp a)
         rw [e] at hev
         obtain ⟨b',q1,q2⟩:=hev
         rw [g1] at q1; cases q1
         refine ⟨u :: us,⟨_,us,rfl,g5,h1⟩,by simp [h2],fun j r v hj hv=>?_⟩
         cases j with
         | zero=>simp at hj hv; subst hj hv; exact ⟨b,o,q2,g4⟩
         | succ j=>exact h3 j r v (by simpa using hj) (by simpa using hv)
       . cases h
     . cases h
   . cases h
theorem pJ {C:World→Prop} {w:World} (hw:C w):∀ {l:List ResultVar} {us:List Value},l.length=us.length→(∀ (j:Nat) (r:ResultVar) (v:Value),l[j]? = some r→us[j]? = some v→iZ P n C ρ r v)→(l.mapM (rvS (frm n ρ))).run P w = .ok us w
 | [],us,h,_=>by
   obtain rfl:us=[]:=List.length_eq_zero_iff.1 h.symm
   simp
 | r :: l,us,h,hr=>by
   cases us with
   | nil=>cases h
   | cons u us =>
     have h1:=ru (hr 0 r u rfl rfl) hw
     have h2:=pJ hw (l:=l) (us:=us) (by simpa using h) (fun j r v hj hv=>hr (j + 1) r v (by simpa using hj) (by simpa using hv))
     simp [List.mapM_cons,h1,h2]
def iY:List Value→Value
 | [v]=>v
 | vs => .tuple vs.toArray
theorem wv {C:World→Prop} {w:World} (hw:C w) {fn:Func} {us:List Value} (hl:fn.results.toList.length=us.length) (h:∀ (j:Nat) (r:ResultVar) (v:Value),fn.results.toList[j]? = some r→us[j]? = some v→iZ P n C ρ r v):(results fn (frm n ρ)).run P w = .ok (iY us) w:=by
 have h1:=pJ hw hl h
 rw [oM]
 simp only [Array.mapM_eq_mapM_toList]
 simp only [Sem.run_bind,Sem.run_map,h1,Result.andThen_ok,Sem.run_pure]
 match us with
 | []=>rfl
 | [u]=>rfl
 | u :: v :: r =>
   rw [dif_neg (by simp)]
   rfl
theorem vi {rs:List SV} {us:List Value} (h:SV.relL m K rs us) (hne:rs≠[]):SV.rel m K (sL rs) (iY us):=by
 match rs,us,h with
 | [],_,_=>exact absurd rfl hne
 | [v],us,h =>
   obtain ⟨u,q,rfl,h1,h2⟩:=aF h
   obtain rfl:=aQ h2
   exact h1
 | v :: v2 :: r,us,h =>
   obtain ⟨u,q,rfl,h1,h2⟩:=aF h
   obtain ⟨u2,q2,rfl,h3,h4⟩:=aF h2
   exact ⟨_,rfl,u,_,rfl,h1,u2,q2,rfl,h3,h4⟩
theorem mS {rs:List SV} {us:List Value} {o:Sh} {x:TL o.ts} {K0:Hp} {m0:List M} (h:eV σ rs o=some x) (hr:Rel E fr σ m K ρ w) (hrel:SV.relL m K rs us) (hm:m0 <+: m) (ho:bA o.bl m0.length=true) (hF:σ.Hf=[]) :
   ∃ vs' u' m',o.un (TL.list o.ts x) m0.length=some (vs',u')∧m0 <+: m'∧m'.length=u'.nx∧(∀ a∈u'.H,HA.ok m' K a)∧gX m' K vs' (iY us)∧Sep E K (u'.H.map (HA.conc m')++fr.F) w:=by
 unfold eV at h
 replace h:=ag h; obtain ⟨hs,h⟩:=h
 split at h
 . rename_i g hg
   obtain ⟨vs,u,ms,e1,e2,e3,e4,e5,e6,e7,e8⟩:=Sh.get_un hg hr.okH hm ho
   rw [TL.of_list h]
   refine ⟨vs,u,m0++ms,e1,ar _ _,e2,e4,?_,?_⟩
   . split at hs
     . rename_i hsl
       rw [hsl] at e3
       obtain rfl:vs=[]:=e3
       obtain rfl:=aQ hrel
       rfl
     . rename_i v r p hsl
       rw [hsl] at e3
       obtain ⟨sv,q,rfl,g1,g2⟩:=e3
       obtain rfl:q=[]:=g2
       exact g1 _ (vi hrel (by simp))
     . cases hs
   . have:=e6 E _ w hr.toSep
     have h2:σ.fz fr=fr.F:=by unfold Zt.fz; rw [hF]; rfl
     rw [h2] at this
     have h3:Sep E K (g.H.map (HA.conc m)++(u.H.map (HA.conc (m0++ms))++fr.F)) w:=Sep.perm (gD _ _ _) this
     exact Sep.drops h3
 . cases h
theorem vS {rs:List SV} {us:List Value} {m0:List M} (hr:Rel E fr σ m K ρ w) (hrel:SV.relL m K rs us) (hm:m0 <+: m) (hF:σ.Hf=[]):∀ {os:List Sh} {h0:Hn P} {r:cO os},(∀ o∈os,bA o.bl m0.length=true)→k9 σ rs os h0=some r →
   ∃ vs' u' m',(dk os r).1.un (dk os r).2 m0.length=some (vs',u')∧m0 <+: m'∧m'.length=u'.nx∧(∀ a∈u'.H,HA.ok m' K a)∧gX m' K vs' (iY us)∧Sep E K (u'.H.map (HA.conc m')++fr.F) w
 | [],h0,r,_,h=>Empty.elim r
 | [a],h0,r,ho,h=>mS (K0:=K) (show eV σ rs a=some r from h) hr hrel hm (ho a (by simp)) hF
 | [a,b],h0,r,ho,h=>by
   have key:(eV σ rs b).map Sum.inr=some r∨(eV σ rs a).map Sum.inl=some r:=by
     cases h0 <;> first | exact .inl h | exact .inr h
   clear h
   rcases key with h | h
   . rw [Option.map_eq_some_iff] at h
     obtain ⟨x,h,rfl⟩:=h
     exact mS (K0:=K) h hr hrel hm (ho b (by simp)) hF
   . rw [Option.map_eq_some_iff] at h
     obtain ⟨x,h,rfl⟩:=h
     exact mS (K0:=K) h hr hrel hm (ho a (by simp)) hF
 | a :: b :: c :: os,h0,r,_,h=>by cases h
theorem pE:∀ {sl:List (Nat×Kd)} {vs:List (Nat×SV)} {us:List Value} {j N:Nat},slN j sl N=true→vs.map (·.1)=sl.map (·.1)→slR m K vs us→∀ i sv,an vs i=some sv→∃ k u,i=j + k∧us[k]? = some u∧SV.rel m K sv u
 | [],vs,us,j,N,h1,h2,h3,i,sv,hl=>by
   have:vs=[]:=by cases vs with | nil=>rfl | cons a b=>cases h2
   subst this; cases hl
 | p :: sl,vs,us,j,N,h1,h2,h3,i,sv,hl=>by
   cases vs with
   | nil=>cases h2
   | cons q vs =>
     simp only [List.map_cons,List.cons.injEq] at h2
     simp only [slN,Bool.and_eq_true] at h1
     have hj:=Nat.eq_of_beq_eq_true h1.1
     obtain ⟨u,r,rfl,g1,g2⟩:=h3
     change (bif Nat.beq q.1 i then some q.2 else an vs i)=some sv at hl
     cases hb:Nat.beq q.1 i with
     | true =>
       rw [hb] at hl; cases hl
       have:=Nat.eq_of_beq_eq_true hb
       exact ⟨0,u,by rw [← this,h2.1,hj]; rfl,rfl,g1⟩
     | false =>
       rw [hb] at hl
       obtain ⟨k,u',e1,e2,e3⟩:=pE h1.2 h2.2 g2 i sv hl
       exact ⟨k + 1,u',by omega,by simpa using e2,e3⟩
theorem pT {bi:List Nat}:∀ {sl:List (Nat×Kd)} {u u':Un} {vs:List (Nat×SV)},unS bi sl u=some (vs,u')→vs.map (·.1)=sl.map (·.1)
 | [],u,u',vs,h=>by cases h; rfl
 | p :: sl,u,u',vs,h=>by
   unfold unS at h
   split at h
   . split at h
     . rename_i h2
       cases h
       simp [pT h2]
     . cases h
   . cases h
theorem vW {s:Sh} {ds:List Dat} {nx:Nat} {vs:List (Nat×SV)} {u:Un} (h:s.un ds nx=some (vs,u)):vs.map (·.1)=s.sl.map (·.1):=by
 unfold Sh.un at h
 replace h:=(ag h).2
 split at h
 split at h
 . rename_i h1
   split at h
   . cases h; exact pT h1
   . cases h
 . cases h
theorem qV:∀ {vs:List (Nat×SV)} {us:List Value},slR m K vs us→us.length=vs.length
 | [],us,h=>by obtain rfl:us=[]:=h; rfl
 | p :: vs,us,⟨u,r,e,_,h⟩=>by subst e; simp [qV h]
end
section
variable {P:Program} {E:En} {n:Nat} {m:List M} {K:Hp} {fr:Frz} {σ:Zt} {ρ:Sl1} {w:World}
theorem mP {b:Bool}:∀ l:List ResultVar,dG P n ⟨σ.base,σ.top,σ.H,σ.Hf,σ.nx,b⟩ l=dG P n σ l
 | []=>rfl
 | .tmp t :: r=>by unfold dG; rw [mP r]; rfl
 | .cell a ty :: r=>by unfold dG; rw [mP r]; rfl
theorem v8 {b:Bool} {rs:List SV}:∀ {os:List Sh} {h:Hn P},k9 ⟨σ.base,σ.top,σ.H,σ.Hf,σ.nx,b⟩ rs os h=k9 σ rs os h
 | [],h=>rfl
 | [a],h=>rfl
 | [a,b],h=>by cases h <;> rfl
 | a :: b :: c :: os,h=>rfl
end
section
variable {P:Program} {n:Nat}
theorem xK {s:Spec} {fn:Func} {c:Code} (hf:P.funcs[s.f]? = some fn) (hb:fn.body=some c) (hn:fn.ntmps=n) (h:Hn P) (hc:(slN 0 s.inn.sl s.inn.sl.length&&Nat.ble s.inn.sl.length n)=true) (hold:∀ ds vs u,s.inn.un ds 0=some (vs,u)→∀ o∈s.outs,bA o.bl u.nx=true)
   (hex:∀ (x:TL s.inn.ts) r,s.fn x=some r→n5 n fn c s.inn s.outs h x=some r):cJ P s:=by
 intro x r hx vs u hu m K args hgk hm hok hsl E w F hs
 rw [Bool.and_eq_true] at hc
 obtain ⟨hc1,hc2⟩:=hc
 have hkeys:=vW hu
 have hlen:args.toArray.size≤n:=by
   have h1:=qV hsl
   have h2:vs.length=s.inn.sl.length:=by have:=congrArg List.length hkeys; simpa using this
   simp only [List.size_toArray]
   have:=Nat.le_of_ble_eq_true hc2
   omega
 refine callsIn_wide.1 (callsIn_of_wp_marks (F:=Fence.wide) (n:=0) hf hb trivial ?_)
 rw [hn,mi hlen]
 have hrun:=hex x r hx
 unfold n5 at hrun
 rw [hu] at hrun
 simp only at hrun
 have hrel:Rel E.out0 ⟨m,K,d5 args.toArray,fun _=>false,F,K⟩ ⟨fun _ => .any,vs,u.H,[],u.nx,false⟩ m K (d5 args.toArray) w:=by
   refine ⟨⟨List.prefix_refl m,Hp.le_refl K,hm,fun e=>(by cases e),fun i=>trivial,fun i e=>rfl,fun i _ => .inr rfl,fun i sv hi=>?_,hok,fun a ha=>by simp at ha,MOk.nil hgk (Hp.le_refl K)⟩,?_⟩
   . obtain ⟨k,v,e1,e2,e3⟩:=pE hc1 hkeys hsl i sv hi
     have:d5 args.toArray i=v:=by
       show eO args.toArray i=v
       unfold eO
       rw [e1,Nat.zero_add]
       simp [e2]
     rw [this]; exact e3
   . exact hs.out0
 obtain ⟨hp,σp,mp,Kp,p1,p2,p3⟩:=aJ h hrun hrel
 refine cA (qq 4) c (cO s.outs) E.out0 ⟨m,K,d5 args.toArray,fun _=>false,F,K⟩ (fun l e=>by cases e) hp σp (fin n fn s.outs) r mp Kp _ w _ p1 p3 (fun e h' σ' m' K' ρ' w' h1 h2 h3=>?_)
 have fini:lg n fn s.outs h' σ'=some r→LeavesInM Fence.wide 0 P fn (act1 n ρ').tmps (fun e w'=>∃ v K' L',e = .returned v∧(∃ vs' u' m',(dk s.outs r).1.un (dk s.outs r).2 u.nx=some (vs',u')∧m <+: m'∧m'.length=u'.nx∧(∀ a∈u'.H,HA.ok m' K' a)∧gX m' K' vs' v∧L'=u'.H.map (HA.conc m'))∧K.le K'∧Sep E K' (L'++F) w') (act1 n ρ').defers .returning w':=fun h3=>by
   unfold lg at h3
   obtain ⟨h'',σ2,m2,K2,g1,g2,g3⟩:=aJ h' h3 h1
   split at g1
   . rename_i rs hrs
     refine lO ρ'.ds g3.mks g3.toSep (fun K3 w3 c1 c2 c3=>?_)
     have g4:=g3.unmark c1 c2 c2 c3
     rw [← mP (b:=false)] at hrs
     rw [← v8 (b:=false)] at g1
     obtain ⟨us,q1,q2,q3⟩:=mL g4 hrs
     refine ⟨iY us,wv (ρ:=(⟨ρ'.f,[]⟩:Sl1)) g4.hold q2 q3,?_⟩
     obtain ⟨vs',u',m'',z1,z2,z3,z4,z5,z6⟩:=vS (m0:=m) g4 q1 g4.hm (((p2.trans h2).trans g2).2) (fun o ho=>by rw [hm]; exact hold _ _ _ hu o ho) g1
     rw [hm] at z1
     exact ⟨_,K3,_,rfl,⟨vs',u',m'',z1,z2,z3,z4,z5,rfl⟩,g4.hK,z6.back⟩
   . cases g1
 cases e with
 | normal=>exact fini h3
 | ret=>exact fini h3
 | _=>cases h3
end
end
section
variable [BldA]
mutual
theorem kX {bi:List Nat}:∀ (k:Kd) {u u':Un} {v:SV},Kd.un bi k u=some (v,u')→u.nx≤u'.nx
 | .any,u,u',v,h=>by cases h; exact Nat.le_refl _
 | .dat t,u,u',v,h=>by unfold Kd.un at h; split at h <;> cases h; exact Nat.le_refl _
 | .nilp,u,u',v,h=>by cases h; exact Nat.le_refl _
 | .nils,u,u',v,h=>by cases h; exact Nat.le_refl _
 | .nilf,u,u',v,h=>by cases h; exact Nat.le_refl _
 | .ptr j o,u,u',v,h=>by unfold Kd.un at h; split at h <;> cases h; exact Nat.le_refl _
 | .own e t,u,u',v,h=>by unfold Kd.un at h; split at h <;> cases h; exact Nat.le_add_right _ _
 | .al j,u,u',v,h=>by unfold Kd.un at h; split at h <;> cases h; exact Nat.le_refl _
 | .fsl j m,u,u',v,h=>by unfold Kd.un at h; split at h <;> cases h; exact Nat.le_refl _
 | .agg ks,u,u',v,h=>by
   unfold Kd.un at h; split at h
   . cases h; exact iN ks (by assumption)
   . cases h
 | .tup ks,u,u',v,h=>by
   unfold Kd.un at h; split at h
   . cases h; exact iN ks (by assumption)
   . cases h
 | .fn f ks,u,u',v,h=>by
   unfold Kd.un at h; split at h
   . cases h; exact iN ks (by assumption)
   . cases h
 | .kat t o,u,u',v,h=>by
   unfold Kd.un at h; split at h
   . split at h
     . cases h; exact Nat.le_refl _
     . cases h
   . cases h
 | .ifc t k,u,u',v,h=>by
   unfold Kd.un at h; split at h
   . cases h; exact kX k (by assumption)
   . cases h
 | .lit w,u,u',v,h=>by cases h; exact Nat.le_refl _
 | .od o,u,u',v,h=>by
   unfold Kd.un at h
   replace h:=(ag h).2
   split at h
   . split at h
     . cases h; exact Nat.le_add_right _ _
     . cases h
   . cases h
 | .rp j,u,u',v,h=>by unfold Kd.un at h; split at h <;> cases h; exact Nat.le_refl _
 | .is j k,u,u',v,h=>by
   unfold Kd.un at h; split at h
   . split at h
     . cases h; exact kX k (by assumption)
     . cases h
   . cases h
theorem iN {bi:List Nat}:∀ (ks:List Kd) {u u':Un} {vs:List SV},Kd.unL bi ks u=some (vs,u')→u.nx≤u'.nx
 | [],u,u',vs,h=>by cases h; exact Nat.le_refl _
 | k :: ks,u,u',vs,h=>by
   unfold Kd.unL at h; split at h
   . rename_i h1
     split at h
     . rename_i h2; cases h; exact Nat.le_trans (kX k h1) (iN ks h2)
     . cases h
   . cases h
end
theorem rk {bi:List Nat}:∀ (sl:List (Nat×Kd)) {u u':Un} {vs:List (Nat×SV)},unS bi sl u=some (vs,u')→u.nx≤u'.nx
 | [],u,u',vs,h=>by cases h; exact Nat.le_refl _
 | p :: sl,u,u',vs,h=>by
   unfold unS at h; split at h
   . rename_i h1
     split at h
     . rename_i h2; cases h; exact Nat.le_trans (kX p.2 h1) (rk sl h2)
     . cases h
   . cases h
theorem rO {bi:List Nat}:∀ (bl:List Bk) (is:List Nat) {u u':Un},unB bi bl is u=some u'→u.nx≤u'.nx
 | [],[],u,u',h=>by cases h; exact Nat.le_refl _
 | [],i :: is,u,u',h=>by cases h
 | b :: bl,[],u,u',h=>by cases h
 | b :: bl,i :: is,u,u',h=>by
   unfold unB at h; split at h
   . rename_i u1 h1
     refine Nat.le_trans ?_ (rO bl is h)
     unfold eS at h1
     cases hn:b.nu with
     | true=>rw [hn] at h1; cases h1; exact Nat.le_refl _
     | false =>
       rw [hn] at h1; simp only [cond_false] at h1
       cases hlp:b.lp with
       | true=>rw [hlp] at h1; simp only [cond_true] at h1; cases h1; exact Nat.le_refl _
       | false =>
       rw [hlp] at h1; simp only [cond_false] at h1
       cases hr:b.rw with
       | some o =>
         rw [hr] at h1
         dsimp only at h1
         split at h1
         . split at h1
           . cases h1; exact Nat.le_succ _
           . cases h1
         . cases h1
       | none =>
       rw [hr] at h1
       dsimp only at h1
       cases hb:b.bu with
       | true =>
         rw [hb] at h1; simp only [cond_true] at h1
         split at h1 <;> cases h1
         exact Nat.le_refl _
       | false =>
         rw [hb] at h1; simp only [cond_false] at h1
         split at h1
         . rename_i h2
           cases h1
           exact Nat.le_trans (iN b.ks h2) (Nat.le_succ _)
         . cases h1
   . cases h
theorem qT:∀ (bl:List Bk) (nx:Nat),dC bl=true→(aY bl nx).2=nx + bl.length
 | [],nx,_=>rfl
 | b :: bl,nx,h=>by
   simp only [dC,Bool.and_eq_true] at h
   cases hb:b.old with
   | some i=>rw [hb] at h; cases h.1
   | none =>
     simp only [aY,hb,List.length_cons]
     rw [qT bl (nx + 1) h.2]
     omega
theorem xS {s:Sh} {ds:List Dat} {vs:List (Nat×SV)} {u:Un} (h:s.un ds 0=some (vs,u)) (ho:dC s.bl=true):s.bl.length≤u.nx:=by
 unfold Sh.un at h
 replace h:=(ag h).2
 have hn:=qT s.bl 0 ho
 split at h
 rename_i bi nx he
 rw [he] at hn
 simp only [Nat.zero_add] at hn
 split at h
 . rename_i h1
   split at h
   . rename_i h2
     cases h
     have:=rk s.sl h1
     have:=rO s.bl bi h2
     simp only at *
     omega
   . cases h
 . cases h
theorem pS:∀ (bl:List Bk) {a b:Nat},bA bl a=true→a≤b→bA bl b=true
 | [],a,b,h,hab=>rfl
 | x :: bl,a,b,h,hab=>by
   simp only [bA,Bool.and_eq_true] at h ⊢
   refine ⟨?_,pS bl h.2 hab⟩
   cases ho:x.old with
   | none=>rfl
   | some i =>
     have h1:=h.1
     rw [ho] at h1
     simp only [Nat.blt_eq] at h1 ⊢
     omega
def mX (fn:Func):Code:=match fn.body with | some c=>c | none => .skip
def rH (s:Spec) (fn:Func):Bool:=fn.body.isSome&&(slN 0 s.inn.sl s.inn.sl.length&&Nat.ble s.inn.sl.length fn.ntmps)&&(dC s.inn.bl&&s.outs.all fun o=>bA o.bl s.inn.bl.length)
theorem aj {P:Program} {s:Spec} {fn:Func} (hf:P.funcs[s.f]? = some fn) (h:Hn P) (hc:rH s fn=true) (hex:(fun x=>n5 fn.ntmps fn (mX fn) s.inn s.outs h x)=s.fn):cJ P s:=by
 unfold rH at hc
 simp only [Bool.and_eq_true] at hc
 obtain ⟨⟨h1,h2,h2'⟩,h3,h4⟩:=hc
 have hb:fn.body=some (mX fn):=by
   unfold mX
   cases hbd:fn.body with
   | none=>rw [hbd] at h1; cases h1
   | some c=>rfl
 refine xK hf hb rfl h (by rw [h2,h2']; rfl) (fun ds vs u hu o ho=>pS o.bl (List.all_eq_true.1 h4 o ho) (xS hu h3)) (fun x r hx=>?_)
 rw [← hx]
 exact congrFun hex x
end
theorem xV [BldA] {P:Program} {s:Spec} {W:World} (hs:cJ P s) {x:TL s.inn.ts} {r:cO s.outs} (hr:s.fn x=some r) (hgk:BldA.gk (Hp.of W)) {vs:List (Nat×SV)} (hun:s.inn.un (TL.list _ x) 0=some (vs,⟨[],0,[],[]⟩))
   (hout:(dk s.outs r).1.un (dk s.outs r).2 0=some ([(0,.bool true)],⟨[],0,[],[]⟩)) {args:List Value} (hsl:slR [] (Hp.of W) vs args) :
   Calls P s.f args.toArray W fun e W'=>e = .returned (.bool true)∧Below W.heap.size W W':=by
 have h:=hs x r hr vs _ hun [] (Hp.of W) args hgk rfl (fun a ha=>by cases ha) hsl (En.of W) W [] (Sep.start W)
 refine h.mono fun e W' h=>?_
 obtain ⟨v,K',L',rfl,⟨vs',u',m',h1,_,_,_,h2,_⟩,h3,h4⟩:=h
 have h1:=h1.symm.trans hout
 cases h1
 obtain rfl:v = .bool true:=h2
 exact ⟨rfl,h4.below h3⟩
end
end Go.Proofs.YteciehjlefldmaaDoor
namespace Go.Proofs
open Go.Shelf
def Tryd.lays156_ren:Go.Shelf.Ren:=⟨fun | 156=>25 | 165=>49 | 166=>50 | 169=>51 | 240=>71 | 241=>72 | 276=>87 | 277=>88 | n=>n,fun | 31=>52 | 9=>9 | 3=>3 | 4=>4 | 0=>0 | 20=>20 | 72=>91 | 76=>95 | 70=>89 | 37=>88 | 75=>94 | 127=>121 | 164=>141 | 5=>5 | 80=>97 | n=>n,fun | n=>n⟩
theorem Tryd.lays156:Go.Proofs.Lays.n156 Tryd.prog Tryd.lays156_ren:={
  mixed:=by kernel_rfl
  f156:=Tryd.func25.trans (congrArg some (by kernel_rfl))
  f165:=Tryd.func49.trans (congrArg some (by kernel_rfl))
  f166:=Tryd.func50.trans (congrArg some (by kernel_rfl))
  f169:=Tryd.func51.trans (congrArg some (by kernel_rfl))
  f240:=Tryd.func71.trans (congrArg some (by kernel_rfl))
  f241:=Tryd.func72.trans (congrArg some (by kernel_rfl))
  f276:=Tryd.func87.trans (congrArg some (by kernel_rfl))
  f277:=Tryd.func88.trans (congrArg some (by kernel_rfl))
  t0:=Tryd.underlying0
  a0:=Tryd.isAgg0
  z0:=Tryd.sizeOf0
  v0:=Tryd.zeroValue0
  t3:=Tryd.underlying3
  a3:=Tryd.isAgg3
  z3:=Tryd.sizeOf3
  v3:=Tryd.zeroValue3
  t4:=Tryd.underlying4
  a4:=Tryd.isAgg4
  z4:=Tryd.sizeOf4
  v4:=Tryd.zeroValue4
  t9:=Tryd.underlying9
  a9:=Tryd.isAgg9
  z9:=Tryd.sizeOf9
  v9:=Tryd.zeroValue9
  t20:=Tryd.underlying20
  a20:=Tryd.isAgg20
  z20:=Tryd.sizeOf20
  v20:=Tryd.zeroValue20
  t31:=Tryd.underlying52
  a31:=Tryd.isAgg52
  z31:=Tryd.sizeOf52
  v31:=Tryd.zeroValue52
  t37:=Tryd.underlying88
  a37:=Tryd.isAgg88
  z37:=Tryd.sizeOf88
  v37:=Tryd.zeroValue88
  t70:=Tryd.underlying89
  a70:=Tryd.isAgg89
  z70:=Tryd.sizeOf89
  v70:=Tryd.zeroValue89
  t72:=Tryd.underlying91
  a72:=Tryd.isAgg91
  z72:=Tryd.sizeOf91
  v72:=Tryd.zeroValue91
  t75:=Tryd.underlying94
  a75:=Tryd.isAgg94
  z75:=Tryd.sizeOf94
  v75:=Tryd.zeroValue94
  t76:=Tryd.underlying95
  a76:=Tryd.isAgg95
  z76:=Tryd.sizeOf95
  v76:=Tryd.zeroValue95
  t127:=Tryd.underlying121
  a127:=Tryd.isAgg121
  z127:=Tryd.sizeOf121
  v127:=Tryd.zeroValue121
  t164:=Tryd.underlying141
  a164:=Tryd.isAgg141
  z164:=Tryd.sizeOf141
  v164:=Tryd.zeroValue141 }
theorem Tryd.Builder_Extra_156:Builder.Extra Tryd.prog Tryd.lays156_ren:={
  sizeBuilder:=by kernel_rfl
  liesBuilder:=by kernel_rfl
  t5:=Tryd.underlying5
  a5:=Tryd.isAgg5
  z5:=Tryd.sizeOf5
  v5:=Tryd.zeroValue5
  infoByte:=by kernel_rfl
  cellsByte:=by kernel_rfl
  sizeByte:=by kernel_rfl
  neB5:=by decide }
open Go.RowKit in
/-- No element: the empty string; the gE is as it was. (Whatever the slice's address and capacity: a nil slice too.) (LAID: no walk: one application.) -/
theorem Tryd.strings_Join_none (a:Option Addr) (c:Nat) (sep:ByteArray) (w:World) :
    Calls Tryd.prog 25 #[.slice a 0 c,.string sep] w fun e w'=>e = .returned (.string ⟨#[]⟩)∧w'=w:=Any.strings_Join_none Tryd.lays156 Tryd.Builder_Extra_156 a c sep w
open Go.RowKit in
/-- strings.Join: "Join concatenates the elements of its first argument to create a single string. The separator string sep is placed between elements in the resulting string.": HOWEVER MANY ELEMENTS. Below the heap's end the gE is as it was. (LAID: no walk: one application.) -/
theorem Tryd.strings_Join (bk o c:Nat) (xs:List ByteArray) (sep:ByteArray) (w:World) (hcells:∀ (j:Nat) x,xs[j]? = some x→w.cell? ⟨bk,o + j,none⟩=some (.string x)) (hbk:bk < w.heap.size) (hN:xs.length≤140737488355328) (hcap:xs.length≤c) (hlen:(Lib.join (xs.map (·.data.toList)) sep.data.toList).length≤140737488355328) :
    Calls Tryd.prog 25 #[.slice (some ⟨bk,o,none⟩) xs.length c,.string sep] w fun e w'=>e = .returned (.string ⟨(Lib.join (xs.map (·.data.toList)) sep.data.toList).toArray⟩)∧Below w.heap.size w w':=Any.strings_Join Tryd.lays156 Tryd.Builder_Extra_156 bk o c xs sep w hcells hbk hN hcap hlen
def Tryd.lays143_ren:Go.Shelf.Ren:=⟨fun | 143=>69 | 219=>86 | 217=>99 | 225=>100 | 224=>101 | 267=>102 | 266=>107 | 314=>108 | n=>n,fun | 9=>9 | 3=>3 | 4=>4 | 5=>5 | 46=>153 | 146=>163 | 51=>162 | n=>n,fun | 1=>0 | n=>n⟩
theorem Tryd.lays143:Go.Proofs.Lays.n143 Tryd.prog Tryd.lays143_ren:={
  mixed:=by kernel_rfl
  f143:=Tryd.func69.trans (congrArg some (by kernel_rfl))
  f217:=Tryd.func99.trans (congrArg some (by kernel_rfl))
  f219:=Tryd.func86.trans (congrArg some (by kernel_rfl))
  f224:=Tryd.func101.trans (congrArg some (by kernel_rfl))
  f225:=Tryd.func100.trans (congrArg some (by kernel_rfl))
  f266:=Tryd.func107.trans (congrArg some (by kernel_rfl))
  f267:=Tryd.func102.trans (congrArg some (by kernel_rfl))
  f314:=Tryd.func108.trans (congrArg some (by kernel_rfl))
  t3:=Tryd.underlying3
  a3:=Tryd.isAgg3
  z3:=Tryd.sizeOf3
  v3:=Tryd.zeroValue3
  t4:=Tryd.underlying4
  a4:=Tryd.isAgg4
  z4:=Tryd.sizeOf4
  v4:=Tryd.zeroValue4
  t5:=Tryd.underlying5
  a5:=Tryd.isAgg5
  z5:=Tryd.sizeOf5
  v5:=Tryd.zeroValue5
  t9:=Tryd.underlying9
  a9:=Tryd.isAgg9
  z9:=Tryd.sizeOf9
  v9:=Tryd.zeroValue9
  t46:=Tryd.underlying153
  a46:=Tryd.isAgg153
  z46:=Tryd.sizeOf153
  v46:=Tryd.zeroValue153
  t51:=Tryd.underlying162
  a51:=Tryd.isAgg162
  z51:=Tryd.sizeOf162
  v51:=Tryd.zeroValue162
  t146:=Tryd.underlying163
  a146:=Tryd.isAgg163
  z146:=Tryd.sizeOf163
  v146:=Tryd.zeroValue163
  g1:=by kernel_rfl }
open Go.RowKit Go.Lib in
/-- strings.Index: "Index returns the index of the first instance of substr in s, or -1 if substr is not present in s.": IT RETURNS 'Lib.index s substr'; the gE is as it was. (LAID: no walk: one application.) -/
theorem Tryd.strings_Index (s sub:ByteArray) (m:Int) (w:World) (hs:s.size < 4294967281) (hm:w.cell? ⟨0,0,none⟩=some (.int .i64 m)) :
    Calls Tryd.prog 69 #[.string s,.string sub] w fun e w'=>e = .returned (.int .i64 (Lib.index s.data.toList sub.data.toList))∧w'=w:=Any.strings_Index Tryd.lays143 s sub m w hs hm
def Tryd.lays145_ren:Go.Shelf.Ren:=⟨fun | 145=>106 | 220=>109 | 219=>86 | 217=>99 | 225=>100 | 224=>101 | 267=>102 | 266=>107 | 314=>108 | n=>n,fun | 9=>9 | 4=>4 | 59=>160 | 3=>3 | 5=>5 | 46=>153 | 146=>163 | 51=>162 | n=>n,fun | 1=>0 | n=>n⟩
theorem Tryd.lays145:Go.Proofs.Lays.n145 Tryd.prog Tryd.lays145_ren:={
  mixed:=by kernel_rfl
  f145:=Tryd.func106.trans (congrArg some (by kernel_rfl))
  f217:=Tryd.func99.trans (congrArg some (by kernel_rfl))
  f219:=Tryd.func86.trans (congrArg some (by kernel_rfl))
  f220:=Tryd.func109.trans (congrArg some (by kernel_rfl))
  f224:=Tryd.func101.trans (congrArg some (by kernel_rfl))
  f225:=Tryd.func100.trans (congrArg some (by kernel_rfl))
  f266:=Tryd.func107.trans (congrArg some (by kernel_rfl))
  f267:=Tryd.func102.trans (congrArg some (by kernel_rfl))
  f314:=Tryd.func108.trans (congrArg some (by kernel_rfl))
  t3:=Tryd.underlying3
  a3:=Tryd.isAgg3
  z3:=Tryd.sizeOf3
  v3:=Tryd.zeroValue3
  t4:=Tryd.underlying4
  a4:=Tryd.isAgg4
  z4:=Tryd.sizeOf4
  v4:=Tryd.zeroValue4
  t5:=Tryd.underlying5
  a5:=Tryd.isAgg5
  z5:=Tryd.sizeOf5
  v5:=Tryd.zeroValue5
  t9:=Tryd.underlying9
  a9:=Tryd.isAgg9
  z9:=Tryd.sizeOf9
  v9:=Tryd.zeroValue9
  t46:=Tryd.underlying153
  a46:=Tryd.isAgg153
  z46:=Tryd.sizeOf153
  v46:=Tryd.zeroValue153
  t51:=Tryd.underlying162
  a51:=Tryd.isAgg162
  z51:=Tryd.sizeOf162
  v51:=Tryd.zeroValue162
  t59:=Tryd.underlying160
  a59:=Tryd.isAgg160
  z59:=Tryd.sizeOf160
  v59:=Tryd.zeroValue160
  t146:=Tryd.underlying163
  a146:=Tryd.isAgg163
  z146:=Tryd.sizeOf163
  v146:=Tryd.zeroValue163
  g1:=by kernel_rfl }
open Go.RowKit Go.Lib in
/-- strings.Cut: "Cut slices s around the first instance of sep, returning the text before and after sep. The found result reports whether sep appears in s. If sep does not appear in s, cut returns s, "", false.": IT RETURNS 'Lib.cut s sep'; the gE is as it was but for the count of draws. (LAID: no walk: one application.) -/
theorem Tryd.strings_Cut (s sep:ByteArray) (m:Int) (w:World) (hs:s.size < 4294967281) (hm:w.cell? ⟨0,0,none⟩=some (.int .i64 m)) :
    Calls Tryd.prog 106 #[.string s,.string sep] w fun e w'=>e = .returned (.tuple #[.string ⟨(Lib.cut s.data.toList sep.data.toList).1.toArray⟩,.string ⟨(Lib.cut s.data.toList sep.data.toList).2.1.toArray⟩,.bool (Lib.cut s.data.toList sep.data.toList).2.2])∧∃ n,w'=w.drewN n:=Any.strings_Cut Tryd.lays145 s sep m w hs hm
def Tryd.lays146_ren:Go.Shelf.Ren:=⟨fun | 146=>19 | 221=>45 | 268=>67 | 138=>68 | 143=>69 | 195=>84 | 197=>75 | 218=>85 | 219=>86 | 260=>89 | 217=>99 | 225=>100 | 224=>101 | 267=>102 | 266=>107 | 314=>108 | n=>n,fun | 9=>9 | 31=>52 | 3=>3 | 4=>4 | 0=>0 | 105=>123 | 21=>21 | 5=>5 | 46=>153 | 119=>154 | 139=>157 | 138=>156 | 146=>163 | 51=>162 | n=>n,fun | 1=>0 | 3=>1 | 4=>2 | n=>n⟩
theorem Tryd.lays146:Go.Proofs.Lays.n146 Tryd.prog Tryd.lays146_ren:={
  mixed:=by kernel_rfl
  f138:=Tryd.func68.trans (congrArg some (by kernel_rfl))
  f143:=Tryd.func69.trans (congrArg some (by kernel_rfl))
  f146:=Tryd.func19.trans (congrArg some (by kernel_rfl))
  f195:=Tryd.func84.trans (congrArg some (by kernel_rfl))
  f197:=Tryd.func75.trans (congrArg some (by kernel_rfl))
  f217:=Tryd.func99.trans (congrArg some (by kernel_rfl))
  f218:=Tryd.func85.trans (congrArg some (by kernel_rfl))
  f219:=Tryd.func86.trans (congrArg some (by kernel_rfl))
  f221:=Tryd.func45.trans (congrArg some (by kernel_rfl))
  f224:=Tryd.func101.trans (congrArg some (by kernel_rfl))
  f225:=Tryd.func100.trans (congrArg some (by kernel_rfl))
  f260:=Tryd.func89.trans (congrArg some (by kernel_rfl))
  f266:=Tryd.func107.trans (congrArg some (by kernel_rfl))
  f267:=Tryd.func102.trans (congrArg some (by kernel_rfl))
  f268:=Tryd.func67.trans (congrArg some (by kernel_rfl))
  f314:=Tryd.func108.trans (congrArg some (by kernel_rfl))
  t0:=Tryd.underlying0
  a0:=Tryd.isAgg0
  z0:=Tryd.sizeOf0
  v0:=Tryd.zeroValue0
  t3:=Tryd.underlying3
  a3:=Tryd.isAgg3
  z3:=Tryd.sizeOf3
  v3:=Tryd.zeroValue3
  t4:=Tryd.underlying4
  a4:=Tryd.isAgg4
  z4:=Tryd.sizeOf4
  v4:=Tryd.zeroValue4
  t5:=Tryd.underlying5
  a5:=Tryd.isAgg5
  z5:=Tryd.sizeOf5
  v5:=Tryd.zeroValue5
  t9:=Tryd.underlying9
  a9:=Tryd.isAgg9
  z9:=Tryd.sizeOf9
  v9:=Tryd.zeroValue9
  t21:=Tryd.underlying21
  a21:=Tryd.isAgg21
  z21:=Tryd.sizeOf21
  v21:=Tryd.zeroValue21
  t31:=Tryd.underlying52
  a31:=Tryd.isAgg52
  z31:=Tryd.sizeOf52
  v31:=Tryd.zeroValue52
  t46:=Tryd.underlying153
  a46:=Tryd.isAgg153
  z46:=Tryd.sizeOf153
  v46:=Tryd.zeroValue153
  t51:=Tryd.underlying162
  a51:=Tryd.isAgg162
  z51:=Tryd.sizeOf162
  v51:=Tryd.zeroValue162
  t105:=Tryd.underlying123
  a105:=Tryd.isAgg123
  z105:=Tryd.sizeOf123
  v105:=Tryd.zeroValue123
  t119:=Tryd.underlying154
  a119:=Tryd.isAgg154
  z119:=Tryd.sizeOf154
  t138:=Tryd.underlying156
  a138:=Tryd.isAgg156
  z138:=Tryd.sizeOf156
  v138:=Tryd.zeroValue156
  t139:=Tryd.underlying157
  a139:=Tryd.isAgg157
  z139:=Tryd.sizeOf157
  v139:=Tryd.zeroValue157
  t146:=Tryd.underlying163
  a146:=Tryd.isAgg163
  z146:=Tryd.sizeOf163
  v146:=Tryd.zeroValue163
  g1:=by kernel_rfl
  g3:=by kernel_rfl
  g4:=by kernel_rfl }
open Go.RowKit Go.Lib in
/-- strings.Split. (LAID: no walk: one application.) -/
theorem Tryd.strings_Split (s sep:ByteArray) (m:Int) (w:World) (hs:s.size < 4294967281) (hm:w.cell? ⟨0,0,none⟩=some (.int .i64 m)) (h1:1≤sep.size) :
    Calls Tryd.prog 19 #[.string s,.string sep] w fun e w' =>
      e = .returned (.slice (some ⟨w.heap.size,0,none⟩) (Lib.countB s sep + 1) (Lib.countB s sep + 1))∧w'=w.alloc (.cells ((Lib.splitB sep 0 (Lib.countB s sep) s).map Value.string).toArray 9):=Any.strings_Split Tryd.lays146 (by kernel_rfl) s sep m w hs hm h1
end Go.Proofs
namespace Go.Proofs.YteciehjlefldmaaDoor
noncomputable section
set_option linter.unusedVariables false
set_option linter.unusedSimpArgs false
set_option linter.unnecessarySimpa false
open Go.RowKit
theorem Sep.ofBelow {E:En} {K:Hp} {L:List ab} {w w':World} (h:Sep E K L w) (b:Below w.heap.size w w'):Sep E K L w':=h.fr (Fr.of_below b)
def Gk (K:Hp):Prop:=∃ m:Int,aX K 0 0=some (.int .i64 m)
theorem Gk.mono {K K':Hp} (h:Gk K) (f:K.le K'):Gk K':=let ⟨m,h⟩:=h; ⟨m,dU f h⟩
theorem Gk.of {W:World} (h:W.ShapedOpen Tryd.prog):Gk (Hp.of W) :=
 let ⟨m,hm⟩:=Go.Proofs.cell_of_shapedOpen_int (zero:=#[.int .i64 0]) (t:=3) h (of_decide_eq_true (by kernel_rfl)) (by kernel_rfl) rfl (by kernel_rfl) (by kernel_rfl) Tryd.underlying3
 ⟨m,pX hm⟩
def jj (s sep:List UInt8):Option (List UInt8×List UInt8×Bool):=if s.length < 4294967281 then some (Lib.cut s sep) else none
theorem tq {K:Hp} {xa xb:List UInt8} (fG:Gk K) {r:List UInt8×List UInt8×Bool} (h:jj xa xb=some r) :
   Tr Tryd.prog 106 #[.string ⟨xa.toArray⟩,.string ⟨xb.toArray⟩] K [] (fun v K' L'=>(∃ (s1 s2:List UInt8) (t3:Bool),(s1,s2,t3)=r∧v = .tuple #[.string ⟨s1.toArray⟩,.string ⟨s2.toArray⟩,.bool t3]∧L'=[])∧K=K'):=by
 refine Tr.k (fun E w F hs=>?_)
 unfold jj at h
 split at h
 . rename_i hlt
   cases h
   obtain ⟨m,hm⟩:=fG
   refine (Tryd.strings_Cut ⟨xa.toArray⟩ ⟨xb.toArray⟩ m w (by simpa [ByteArray.size] using hlt) (db hs.sub hm)).mono ?_
   rintro e w' ⟨rfl,n,rfl⟩
   exact ⟨_,K,[],rfl,⟨_,_,_,rfl,rfl,rfl⟩,Hp.le_refl K,hs.fr ((Fr.refl [] w).drewN n)⟩
 . cases h
def cZ (s sep:List UInt8):Option (List (List UInt8)):=if s.length < 4294967281∧1≤sep.length then some ((Lib.splitB ⟨sep.toArray⟩ 0 (Lib.countB ⟨s.toArray⟩ ⟨sep.toArray⟩) ⟨s.toArray⟩).map (·.data.toList)) else none
theorem pV:∀ l:List ByteArray,Els Hp.nil .str (l.map Value.string) (l.map (·.data.toList))
 | []=>rfl
 | x :: l=>⟨[.string x],_,rfl,by simp [Is],pV l⟩
theorem sY {K:Hp} {xa xb:List UInt8} (fG:Gk K) {r:List (List UInt8)} (h:cZ xa xb=some r) :
   Tr Tryd.prog 19 #[.string ⟨xa.toArray⟩,.string ⟨xb.toArray⟩] K [] (fun v K' L'=>(∃ (l1:List (List UInt8)) (ad1:Option Addr) (cp1:Nat),l1=r∧v = .slice ad1 l1.length cp1∧L'=[Row Hp.nil 9 .str (.slice ad1 l1.length cp1) l1])∧K=K'):=by
 refine Tr.k (fun E w F hs=>?_)
 unfold cZ at h
 split at h
 . rename_i hlt
   cases h
   obtain ⟨m,hm⟩:=fG
   have hs1:(⟨xa.toArray⟩:ByteArray).size < 4294967281:=by simpa [ByteArray.size] using hlt.1
   have h1:1≤(⟨xb.toArray⟩:ByteArray).size:=by simpa [ByteArray.size] using hlt.2
   have hlen:=Lib.splitB_all ⟨xb.toArray⟩ h1 0 _ ⟨xa.toArray⟩ rfl
   have hle:=Lib.countB_le ⟨xb.toArray⟩ h1 _ ⟨xa.toArray⟩ (Nat.le_refl _)
   refine (Tryd.strings_Split ⟨xa.toArray⟩ ⟨xb.toArray⟩ m w hs1 (db hs.sub hm) h1).mono ?_
   rintro e w' ⟨rfl,rfl⟩
   refine ⟨_,K,_,rfl,⟨_,_,_,rfl,by rw [List.length_map,hlen],rfl⟩,Hp.le_refl K,?_⟩
   refine (Sep.alloc hs _ _).mono (fun h0 ha=>?_)
   obtain rfl:h0=_:=ha
   have hl2:((Lib.splitB ⟨xb.toArray⟩ 0 (Lib.countB ⟨xa.toArray⟩ ⟨xb.toArray⟩) ⟨xa.toArray⟩).map (·.data.toList)).length=Lib.countB ⟨xa.toArray⟩ ⟨xb.toArray⟩ + 1:=by rw [List.length_map,hlen]
   refine ⟨_,pV _,by simp [Tp.size],.inr ⟨w.heap.size,_,_,by rw [hl2],rfl,by omega,?_,by simp [Tp.size,hlen],by simp only [Tp.size,Nat.mul_one,List.length_map]; exact List.take_of_length_le (by simp)⟩⟩
   have:=hs1
   unfold maxLen
   omega
 . cases h
def eN (xs:List (List UInt8)) (sep:List UInt8):Option (List UInt8):=if (Lib.join xs sep).length≤140737488355328∧xs.length≤140737488355328 then some (Lib.join xs sep) else none
theorem oI {K:Hp}:∀ {xs:List (List UInt8)} {cs:List Value},Els K .str cs xs→cs=xs.map fun x=>Value.string ⟨x.toArray⟩
 | [],cs,h=>h
 | x :: xs,cs,h=>by
   obtain ⟨es,r,rfl,h1,h2⟩:=h
   simp only [Is] at h1
   subst h1
   rw [oI h2]; rfl
theorem th {K:Hp} {xa:List (List UInt8)} {xb:List UInt8} {ad:Option Addr} {cp:Nat} (fa:Is K (.sl .str) [.slice ad xa.length cp] xa) {r:List UInt8} (h:eN xa xb=some r) :
   Tr Tryd.prog 25 #[.slice ad xa.length cp,.string ⟨xb.toArray⟩] K [] (fun v K' L'=>(∃ s1:List UInt8,s1=r∧v = .string ⟨s1.toArray⟩∧L'=[])∧K=K'):=by
 refine Tr.k (fun E w F hs=>?_)
 unfold eN at h
 split at h
 . rename_i hlt
   cases h
   by_cases hx:xa=[]
   . subst hx
     refine (Tryd.strings_Join_none ad cp ⟨xb.toArray⟩ w).mono ?_
     rintro e w' ⟨rfl,rfl⟩
     exact ⟨_,K,[],rfl,⟨[],rfl,rfl,rfl⟩,Hp.le_refl K,hs⟩
   . have fa':=fa
     simp only [Is] at fa
     obtain ⟨ad',cp',e0,a1,a2,a3⟩:=fa
     simp only [List.cons.injEq,Value.slice.injEq,and_true] at e0
     obtain ⟨rfl,_,rfl⟩:=e0
     obtain ⟨b,o,rfl,a4⟩:=a3 hx
     obtain ⟨cs,c1,c2,c3⟩:=fa'.cells (by decide)
     obtain rfl:=oI c1
     have hc:∀ (j:Nat) x,(xa.map fun x=>(⟨x.toArray⟩:ByteArray))[j]? = some x→w.cell? ⟨b,o + j,none⟩=some (.string x):=fun j x hj=>by
       have:=c3 w hs.sub j (.string x) (by rw [List.getElem?_map] at hj ⊢; cases hq:xa[j]? with
         | none=>rw [hq] at hj; simp at hj
         | some q=>rw [hq] at hj; simp at hj ⊢; exact hj)
       rwa [bh] at this
     have hb:b < w.heap.size:=by
       cases xa with
       | nil=>exact absurd rfl hx
       | cons q xs =>
         have:=hc 0 _ rfl
         unfold World.cell? at this
         simp only at this
         split at this
         . rename_i e; exact lt_of_block e
         . cases this
     have hm:(xa.map fun x=>(⟨x.toArray⟩:ByteArray)).map (·.data.toList)=xa:=by simp [Function.comp_def]
     have hl:(xa.map fun x=>(⟨x.toArray⟩:ByteArray)).length=xa.length:=by simp
     have:=Tryd.strings_Join b o cp (xa.map fun x=>(⟨x.toArray⟩:ByteArray)) ⟨xb.toArray⟩ w hc hb (by rw [hl]; exact hlt.2) (by rw [hl]; exact a1) (by rw [hm]; exact hlt.1)
     rw [hl,hm] at this
     refine this.mono ?_
     rintro e w' ⟨rfl,hbl⟩
     exact ⟨_,K,[],rfl,⟨_,rfl,rfl,rfl⟩,Hp.le_refl K,hs.ofBelow hbl⟩
 . cases h
set_option linter.unusedSectionVars false
section
theorem Gk.monoC {K K':Hp} (h:K.cle K') (g:Gk K):Gk K':=let ⟨m,e⟩:=g; ⟨m,h _ _ _ e⟩
variable [BldA]
def m7:Spec:=⟨106,⟨[(0,.dat .str),(1,.dat .str)],[]⟩,[⟨[(0,.tup [.dat .str,.dat .str,.dat .bool])],[]⟩],fun x=>jj x.1 x.2⟩
theorem xp (hg:∀ K,BldA.gk K→Gk K):cJ Tryd.prog m7:=by
 intro x r hr vs u hu m K args hgk hm hH hsl E w F hs
 have hu':m7.inn.un (TL.list _ x) 0=some ([(0,.str x.1),(1,.str x.2)],⟨[],0,[],[]⟩):=rfl
 rw [hu'] at hu
 cases hu
 obtain ⟨v,q,rfl,h1,v2,q2,rfl,h2,rfl⟩:=hsl
 obtain rfl:v = .string ⟨List.toArray (α:=UInt8) x.1⟩:=h1
 obtain rfl:v2 = .string ⟨List.toArray (α:=UInt8) x.2⟩:=h2
 refine (tq (K:=K) (hg K hgk) hr E w F hs).mono ?_
 rintro e w' ⟨v,K',L',rfl,⟨⟨s1,s2,t3,rfl,rfl,rfl⟩,rfl⟩,h1,h2⟩
 exact ⟨_,K,[],rfl,⟨[(0,.tup [.str s1,.str s2,.bool t3])],⟨[],0,[],[]⟩,m,rfl,List.prefix_rfl,hm,fun a h=>(by cases h),⟨_,rfl,_,_,rfl,rfl,_,_,rfl,rfl,_,_,rfl,rfl,rfl⟩,rfl⟩,h1,h2⟩
def ml:Spec:=⟨19,⟨[(0,.dat .str),(1,.dat .str)],[]⟩,[⟨[(0,.own 9 .str)],[]⟩],fun x=>cZ x.1 x.2⟩
theorem vF (hg:∀ K,BldA.gk K→Gk K):cJ Tryd.prog ml:=by
 intro x r hr vs u hu m K args hgk hm hH hsl E w F hs
 have hu':ml.inn.un (TL.list _ x) 0=some ([(0,.str x.1),(1,.str x.2)],⟨[],0,[],[]⟩):=rfl
 rw [hu'] at hu
 cases hu
 replace hm:m.length=0:=hm
 obtain ⟨v,q,rfl,h1,v2,q2,rfl,h2,rfl⟩:=hsl
 obtain rfl:v = .string ⟨List.toArray (α:=UInt8) x.1⟩:=h1
 obtain rfl:v2 = .string ⟨List.toArray (α:=UInt8) x.2⟩:=h2
 refine (sY (K:=K) (hg K hgk) hr E w F hs).mono ?_
 rintro e w' ⟨v,K',L',rfl,⟨⟨l,ad1,cp1,rfl,rfl,rfl⟩,rfl⟩,h1,h2⟩
 have h2:Sep E K (Row Hp.nil 9 .str (.slice ad1 (List.length (α:=List UInt8) l) cp1) l :: F) w':=h2
 obtain ⟨ad',cap',e1,g2,g3,g4⟩:=h2.fact (fun h k=>Row.form h k)
 cases e1
 obtain ⟨h0,⟨cs,hE,hR⟩,hd,hs2⟩:=h2
 have g5:Els K .str cs l:=Els.flat rfl hE
 have g6:Sep E K (Rw 9 1 (.slice ad1 (List.length (α:=List UInt8) l) cp1) (List.length (α:=List UInt8) l) cs :: F) w':=⟨h0,hR,hd,hs2⟩
 have hm0:(m++[M.val (.slice ad1 (List.length (α:=List UInt8) l) cp1),M.cont .str l cs])[0]? = some (.val (.slice ad1 (List.length (α:=List UInt8) l) cp1)):=by
   rw [List.getElem?_append_right (by omega),hm]; rfl
 have hm1:(m++[M.val (.slice ad1 (List.length (α:=List UInt8) l) cp1),M.cont .str l cs])[1]? = some (.cont .str l cs):=by
   rw [List.getElem?_append_right (by omega),hm]; rfl
 refine ⟨_,K,_,rfl,⟨[(0,.own 0)],⟨[],2,[.row 0 1 9 .str l (List.length (α:=List UInt8) l)],[0]⟩,m++[M.val (.slice ad1 (List.length (α:=List UInt8) l) cp1),M.cont .str l cs],rfl,List.prefix_append _ _,by simp [hm],?_,⟨hm0,rfl⟩,rfl⟩,h1,?_⟩
 . intro a ha
   obtain rfl:=List.mem_singleton.1 ha
   exact ⟨ad1,cp1,cs,hm0,hm1,g5,rfl,g2,g3,g4⟩
 . show Sep E K (HA.conc _ (.row 0 1 9 .str l (List.length (α:=List UInt8) l)) :: F) w'
   simp only [HA.conc,hm0,hm1]
   exact g6
def g8 (s sub:List UInt8):Option Int:=if s.length < 4294967281 then some (Lib.index s sub) else none
theorem sX {K:Hp} {xa xb:List UInt8} (fG:Gk K) {r:Int} (h:g8 xa xb=some r) :
   Tr Tryd.prog 69 #[.string ⟨xa.toArray⟩,.string ⟨xb.toArray⟩] K [] (fun v K' L'=>(∃ i1:Int,i1=r∧v = .int .i64 i1∧L'=[])∧K=K'):=by
 refine Tr.k (fun E w F hs=>?_)
 unfold g8 at h
 split at h
 . rename_i hlt
   cases h
   obtain ⟨m,hm⟩:=fG
   refine (Tryd.strings_Index ⟨xa.toArray⟩ ⟨xb.toArray⟩ m w (by simpa [ByteArray.size] using hlt) (db hs.sub hm)).mono ?_
   rintro e w' ⟨rfl,rfl⟩
   exact ⟨_,K,_,rfl,⟨_,rfl,rfl,rfl⟩,Hp.le_refl K,hs⟩
 . cases h
def mz:Spec:=⟨69,⟨[(0,.dat .str),(1,.dat .str)],[]⟩,[⟨[(0,.dat (.int .i64))],[]⟩],fun x=>g8 x.1 x.2⟩
theorem vJ (hg:∀ K,BldA.gk K→Gk K):cJ Tryd.prog mz:=by
 intro x r hr vs u hu m K args hgk hm hH hsl E w F hs
 have hu':mz.inn.un (TL.list _ x) 0=some ([(0,.str x.1),(1,.str x.2)],⟨[],0,[],[]⟩):=rfl
 rw [hu'] at hu
 cases hu
 obtain ⟨v,q,rfl,h1,v2,q2,rfl,h2,rfl⟩:=hsl
 obtain rfl:v = .string ⟨List.toArray (α:=UInt8) x.1⟩:=h1
 obtain rfl:v2 = .string ⟨List.toArray (α:=UInt8) x.2⟩:=h2
 refine (sX (K:=K) (hg K hgk) hr E w F hs).mono ?_
 rintro e w' ⟨v,K',L',rfl,⟨⟨i1,rfl,rfl,rfl⟩,rfl⟩,h1,h2⟩
 exact ⟨_,K,[],rfl,⟨[(0,.int .i64 i1)],⟨[],0,[],[]⟩,m,rfl,List.prefix_rfl,hm,fun a h=>(by cases h),rfl,rfl⟩,h1,h2⟩
end
section
section
variable {E:En} {K K0:Hp} {L:List ab} {w:World}
theorem Sep.arr {b:Nat} {e:TypeId} {t:Tp} {m:Nat} {cs:List Value} {xs:List t.den} (he:Els Hp.nil t cs xs) (hl:xs.length=m) (hm:Nat.ble m 1048576=true) (hs:Sep E K (Cl b e cs :: L) w):Sep E K (Row Hp.nil e t (.slice (some ⟨b,0,none⟩) m m) xs :: L) w:=by
 have hm:=Nat.le_of_ble_eq_true hm
 subst hl
 refine hs.mono (fun h ha=>?_)
 obtain rfl:h=_:=ha
 exact ⟨cs,he,he.len,.inr ⟨b,xs.length,cs.toArray,rfl,rfl,Nat.le_refl _,by unfold maxLen; omega,by rw [List.size_toArray]; exact he.len,by simp [← he.len]⟩⟩
end
section
variable {P:Program} {K0:Hp}
theorem V.subA {tx e:TypeId} {tp:Tp} {b m:Nat} {s z:List tp.den} {l h:Int} (ht:P.underlying tx=some (.array m e)) (hz:(P.info? e).map (·.size)=some tp.size) (hl:s.length=m) (hs:Is K0 (.sl tp) [.slice (some ⟨b,0,none⟩) m m] s) (hy:subL s l h=some z) :
   ∃ ad' cp',(∀ {n:Nat} {C:World→Prop} {ρ:Sl0} {d:Option Nat} {t:TypeId} {pos:String} {af:Array Edge} {g:Option (Nat×Bool)} {x:Operand} {lo hi:Option Operand},ev n ρ x = .pointer (some ⟨b,0,none⟩)→(∀ q,lo=some q→∃ k,ev n ρ q = .int k l)→(lo=none→l=0)→(∀ q,hi=some q→∃ k,ev n ρ q = .int k h)→(hi=none→h=(m:Nat)) →
     Val P n C ρ ⟨d,.slice tx x lo hi none,t,pos,af,g⟩ (.slice ad' z.length cp'))∧Is K0 (.sl tp) [.slice ad' z.length cp'] z:=by
 subst hl
 obtain ⟨a1,a2,a3,rfl⟩:=fl hy
 obtain ⟨l,rfl⟩:=Int.eq_ofNat_of_zero_le a1
 obtain ⟨h,rfl⟩:=Int.eq_ofNat_of_zero_le (show 0≤h by omega)
 have b1:l≤h:=by omega
 have b2:h≤s.length:=by omega
 simp only [Int.toNat_natCast]
 have hlen:((s.take h).drop l).length=h - l:=by rw [List.length_drop,List.length_take]; omega
 refine ⟨some (if s.length=l then ⟨b,0,none⟩ else ⟨b,0 + l * tp.size,none⟩),s.length - l,?_,by rw [hlen]; exact hs.part l h b1 b2⟩
 intro n C ρ d t pos af g x lo hi hx hl hl0 hh hh0 w _
 rw [hlen]
 cases hi':P.info? e with
 | none=>rw [hi'] at hz; simp at hz
 | some i' =>
   rw [hi'] at hz
   simp at hz
   cases lo with
   | none =>
     have:=hl0 rfl
     obtain rfl:l=0:=by omega
     cases hi with
     | none =>
       have:=hh0 rfl
       obtain rfl:h=s.length:=by omega
       simp [execOp,hx,Instr.sliceAt,run_underlying ht,Instr.sureAddr,Instr.sliceBounds,sizeOf,typeInfo,hi',hz,bh]
     | some q =>
       obtain ⟨k,hq⟩:=hh q rfl
       simp [execOp,hx,hq,Instr.sliceAt,run_underlying ht,Instr.sureAddr,Instr.sliceBounds,Instr.sliceBound,asIntOf,b2,sizeOf,typeInfo,hi',hz,bh]
       try (by_cases q:s.length=0 <;> simp [q])
   | some ql =>
     obtain ⟨k1,hq1⟩:=hl ql rfl
     cases hi with
     | none =>
       have:=hh0 rfl
       obtain rfl:h=s.length:=by omega
       simp [execOp,hx,hq1,Instr.sliceAt,run_underlying ht,Instr.sureAddr,Instr.sliceBounds,Instr.sliceBound,asIntOf,b1,sizeOf,typeInfo,hi',hz,bh]
       try (by_cases q:s.length=l <;> simp [q])
     | some q =>
       obtain ⟨k,hq⟩:=hh q rfl
       simp [execOp,hx,hq,hq1,Instr.sliceAt,run_underlying ht,Instr.sureAddr,Instr.sliceBounds,Instr.sliceBound,asIntOf,b1,b2,sizeOf,typeInfo,hi',hz,bh]
       try (by_cases q:s.length=l <;> simp [q])
theorem xe {α:Type} {xs:List α} {i:Int} {m:Nat} (h:i < (xs.length:Nat)) (hl:xs.length=m):i < (m:Nat):=by subst hl; exact h
end
end
set_option maxRecDepth 20000
section
theorem xI:Inf Tryd.prog 87 (.agg #[.int .u8 0,.int .u8 0,.int .u8 0,.int .u8 0,.int .u8 0,.int .u8 0,.int .u8 0,.int .u8 0,.int .u8 0,.int .u8 0,.int .u8 0,.int .u8 0,.int .u8 0,.int .u8 0,.int .u8 0,.int .u8 0,.int .u8 0,.int .u8 0,.int .u8 0,.int .u8 0]) 20 20:=by unfold Inf; kernel_rfl
theorem sz5:(Tryd.prog.info? 5).map (·.size)=some 1:=by kernel_rfl
def hZ  : (Int×(List Int)×Int)→Option ((Int×(List Int)×Int)⊕List UInt8):=fun ((i262,l263,i266):(Int×(List Int)×Int))=>(aa l263 (IntKind.wrap .i64 (i266 - 1))).bind fun x295=>(some (l263.set (IntKind.wrap .i64 (i266 - 1)).toNat (IntKind.wrap .u8 (IntKind.wrap .i64 (48 + (Int.tmod i262 10)))))).bind fun z300=>cond (decide ((IntKind.wrap .i64 (Int.tdiv i262 10))=0)) ((subL z300 (IntKind.wrap .i64 (i266 - 1)) (((20:Nat):Int))).bind fun y308=>some (.inr (bL y308))) (some (.inl ((IntKind.wrap .i64 (Int.tdiv i262 10),z300,IntKind.wrap .i64 (i266 - 1)))))
def da (xa:Int):Option (List UInt8) :=
  cond (decide (xa < 0)) (some (([]:List UInt8))) (loop (hZ) ((xa,([0,0,0,0,0,0,0,0,0,0,0,0,0,0,0,0,0,0,0,0]:List Int),20)))
set_option maxRecDepth 100000 in
set_option maxHeartbeats 4000000 in
theorem s8 {K:Hp} {xa:Int}   {r:List UInt8} (h:da xa=some r) :
    Tr Tryd.prog 24 #[ii xa] K [] (fun v K' L'=>(∃ (s157:List UInt8),s157=r ∧ .string ⟨s157.toArray⟩=v∧L'=[])∧K=K'):=by
 refine Tr.k <| Tr.of Tryd.func24 rfl Tryd.ntmps24 rfl fun E F=>?_
 unfold da at h
 refine cr <| ja (.string ⟨([]:List UInt8).toArray⟩) rfl <| J.nil <| CJ.seq <| CJ.seq <| CJ.region ?_
 refine jm (ii xa) rfl <| jv (.bool (decide (xa < 0))) (V.lss rfl rfl) <| J.nil <| cc rfl h (fun hc158 h=>?_) fun hc158 h=>?_
 . refine cr <| ja (.string ⟨([]:List UInt8).toArray⟩) rfl <| J.nil <| CJ.ret ?_
   obtain rfl:=si h
   exact ⟨_,_,Res.one rfl rfl,⟨([]:List UInt8),rfl,rfl,rfl⟩,(Hp.le_refl _),fun w hs=>hs⟩
 refine CJ.skip <| cr <| jal xI [.int .u8 0,.int .u8 0,.int .u8 0,.int .u8 0,.int .u8 0,.int .u8 0,.int .u8 0,.int .u8 0,.int .u8 0,.int .u8 0,.int .u8 0,.int .u8 0,.int .u8 0,.int .u8 0,.int .u8 0,.int .u8 0,.int .u8 0,.int .u8 0,.int .u8 0,.int .u8 0] rfl fun b159=>?_
 have hl160:([0,0,0,0,0,0,0,0,0,0,0,0,0,0,0,0,0,0,0,0]:List Int).length=20:=rfl
 refine J.by (fun w hs=>Sep.arr (t:=(.int .u8)) (xs:=([0,0,0,0,0,0,0,0,0,0,0,0,0,0,0,0,0,0,0,0]:List Int)) ⟨_,_,rfl,rfl,⟨_,_,rfl,rfl,⟨_,_,rfl,rfl,⟨_,_,rfl,rfl,⟨_,_,rfl,rfl,⟨_,_,rfl,rfl,⟨_,_,rfl,rfl,⟨_,_,rfl,rfl,⟨_,_,rfl,rfl,⟨_,_,rfl,rfl,⟨_,_,rfl,rfl,⟨_,_,rfl,rfl,⟨_,_,rfl,rfl,⟨_,_,rfl,rfl,⟨_,_,rfl,rfl,⟨_,_,rfl,rfl,⟨_,_,rfl,rfl,⟨_,_,rfl,rfl,⟨_,_,rfl,rfl,⟨_,_,rfl,rfl,rfl⟩⟩⟩⟩⟩⟩⟩⟩⟩⟩⟩⟩⟩⟩⟩⟩⟩⟩⟩⟩ hl160 rfl hs) <| J.nil <| cr <| ja (ii 20) rfl <| J.nil <| CJ.block ?_
 refine CJ.loop (fun s ρ K' L'=>∃ (i262:Int) (l263:(List Int)) (i266:Int),(i262,l263,i266)=s∧Fits [(0,ii i262),(3,.pointer (some ⟨b159,0,none⟩)),(4,ii i266)] ρ∧K=K'∧L'=Row Hp.nil 87 (.int .u8) (.slice (some ⟨b159,0,none⟩) 20 20) l263 :: F) h ⟨xa,([0,0,0,0,0,0,0,0,0,0,0,0,0,0,0,0,0,0,0,0]:List Int),20,rfl,⟨rfl,rfl,rfl,trivial⟩,rfl,rfl⟩ ?_
 rintro s ρ _ _ r294 ⟨i262,l263,i266,rfl,hf292,rfl,rfl⟩ h291
 obtain ⟨ρ,rfl⟩:=hf292.ex
 refine CJ.wit Row.len fun hl265=>CJ.block <| cr <| jm (ii i266) rfl <| jv (ii (IntKind.wrap .i64 (i266 - 1))) (V.sub rfl rfl) <| ja (ii (IntKind.wrap .i64 (i266 - 1))) rfl ?_
 refine J.nil <| cr <| jm (ii (IntKind.wrap .i64 (i266 - 1))) rfl <| jm (ii i262) rfl <| jv (ii (Int.tmod i262 10)) (V.rem rfl rfl (by decide)) <| jv (ii (IntKind.wrap .i64 (48 + (Int.tmod i262 10)))) (V.add rfl rfl) ?_
 refine jv (.int .u8 (IntKind.wrap .u8 (IntKind.wrap .i64 (48 + (Int.tmod i262 10))))) (V.conv Tryd.underlying3 Tryd.underlying5 rfl) ?_
 obtain ⟨x295,hx296,h291⟩:=ob h291
 obtain ⟨p297,p298,p299⟩:=dw hx296
 refine jv _ (V.iadA Tryd.underlying87 sz5 rfl rfl p297 (xe p299 hl265)) ?_
 obtain ⟨z300,hz301,h291⟩:=ob h291
 have e302:=Option.some.inj hz301
 have hl303:z300.length=20:=by rw [← e302,List.length_set]; exact hl265
 refine J.op rfl (A.storeR (ty:=(.int .u8)) (q:=0) (y0:=IntKind.wrap .u8 (IntKind.wrap .i64 (48 + (Int.tmod i262 10)))) (zs:=z300) sz5 rfl rfl rfl rfl rfl p298 (by simp [Tp.size]) (by decide) (by rintro _ rfl; exact rfl) e302) ?_
 rintro _ _ _ ⟨rfl,rfl,rfl⟩
 refine J.nil <| cr <| jm (ii i262) rfl <| jv (ii (IntKind.wrap .i64 (Int.tdiv i262 10))) (V.quo rfl rfl (by decide)) <| ja (ii (IntKind.wrap .i64 (Int.tdiv i262 10))) rfl <| J.nil ?_
 refine cr <| jm (ii (IntKind.wrap .i64 (Int.tdiv i262 10))) rfl <| jv (.bool (decide ((IntKind.wrap .i64 (Int.tdiv i262 10))=0))) (V.eql rfl rfl) <| J.nil <| cc rfl h291 (fun hc304 h291=>?_) fun hc304 h291=>?_
 . refine cr <| jm (ii (IntKind.wrap .i64 (i266 - 1))) rfl <| J.persist (Hp.nil_le _) (by decide) fun K305 hK306 f307=>?_
   obtain ⟨y308,hy309,h291⟩:=ob h291
   obtain ⟨ad310,cp311,hv312,f313⟩:=V.subA (tp:=(.int .u8)) Tryd.underlying87 sz5 hl303 f307 hy309
   refine jv (.slice ad310 y308.length cp311) (hv312 rfl (fun _ h=>by cases h; exact ⟨_,rfl⟩) nofun nofun (fun _=>rfl)) <| jv (.string ⟨(bL y308).toArray⟩) (V.b2sK Tryd.underlying88 Tryd.underlying5 Tryd.underlying9 rfl f313 (Hp.le_refl _)) <| ja (.string ⟨(bL y308).toArray⟩) rfl <| J.nil <| CJ.ret ?_
   obtain rfl:=si h291
   refine ⟨nofun,fun e=>?_⟩
   subst e
   exact ⟨_,_,Res.one rfl rfl,⟨bL y308,rfl,rfl,rfl⟩,hK306,fun w hs=>hs⟩
 refine CJ.skip ?_
 obtain rfl:=si h291
 exact ⟨rfl,⟨IntKind.wrap .i64 (Int.tdiv i262 10),z300,IntKind.wrap .i64 (i266 - 1),rfl,⟨rfl,rfl,rfl,trivial⟩,rfl,rfl⟩⟩

variable [BldA]
theorem vB {P:Program} {f:Nat} {fn:Int→Option (List UInt8)} (ok:∀ {K:Hp} {xa:Int} {r:List UInt8},fn xa=some r→Tr P f #[ii xa] K [] (fun v K' L'=>(∃ s:List UInt8,s=r ∧ .string ⟨s.toArray⟩=v∧L'=[])∧K=K')):cJ P ⟨f,⟨[(0,.dat (.int .i64))],[]⟩,[⟨[(0,.dat .str)],[]⟩],fn⟩:=by
  intro x r hr vs u hu m K args hgk hm hH hsl E w F hs
  have hu':Sh.un ⟨[(0,.dat (.int .i64))],[]⟩ (TL.list [Tp.int .i64] x) 0=some ([(0,.int .i64 x)],⟨[],0,[],[]⟩):=rfl
  rw [show (Spec.inn ⟨f,⟨[(0,.dat (.int .i64))],[]⟩,[⟨[(0,.dat .str)],[]⟩],fn⟩).un (TL.list _ x) 0=_ from hu'] at hu
  cases hu
  obtain ⟨v,q,rfl,h1,rfl⟩:=hsl
  obtain rfl:v=ii x:=h1
  refine (ok (K:=K) hr E w F hs).mono ?_
  rintro e w' ⟨v,K',L',rfl,⟨⟨s,rfl,rfl,rfl⟩,rfl⟩,h1,h2⟩
  exact ⟨_,K,[],rfl,⟨[(0,.str s)],⟨[],0,[],[]⟩,m,rfl,List.prefix_rfl,hm,fun a h=>(by cases h),rfl,rfl⟩,h1,h2⟩
theorem wm {P:Program} {f:Nat} {fn:List (List UInt8)→List UInt8→Option (List UInt8)} (ok:∀ {K:Hp} {xa:List (List UInt8)} {xb:List UInt8} {ad:Option Addr} {cp:Nat} (fa:Is K (.sl .str) [.slice ad xa.length cp] xa) {r:List UInt8},fn xa xb=some r→Tr P f #[.slice ad xa.length cp,.string ⟨xb.toArray⟩] K [] (fun v K' L'=>(∃ s1:List UInt8,s1=r∧v = .string ⟨s1.toArray⟩∧L'=[])∧K=K')):cJ P ⟨f,⟨[(0,.dat (.sl .str)),(1,.dat .str)],[]⟩,[⟨[(0,.dat .str)],[]⟩],fun x=>fn x.1 x.2⟩:=by
  intro x r hr vs u hu m K args hgk hm hH hsl E w F hs
  have hu':Sh.un ⟨[(0,.dat (.sl .str)),(1,.dat .str)],[]⟩ (TL.list [Tp.sl .str,Tp.str] x) 0=some ([(0,.row .str x.1 (List.length (α:=List UInt8) x.1)),(1,.str x.2)],⟨[],0,[],[]⟩):=rfl
  rw [show (Spec.inn ⟨f,⟨[(0,.dat (.sl .str)),(1,.dat .str)],[]⟩,[⟨[(0,.dat .str)],[]⟩],fun x=>fn x.1 x.2⟩).un (TL.list _ x) 0=_ from hu'] at hu
  cases hu
  obtain ⟨v,q,rfl,h1,v2,q2,rfl,h2,rfl⟩:=hsl
  obtain rfl:v2 = .string ⟨x.2.toArray⟩:=h2
  obtain ⟨fa,_⟩:=h1
  have fa0:=fa
  simp only [Is] at fa
  obtain ⟨ad,cp,e0,_⟩:=fa
  simp only [List.cons.injEq,and_true] at e0
  subst e0
  refine (ok (K:=K) fa0 hr E w F hs).mono ?_
  rintro e w' ⟨v,K',L',rfl,⟨⟨s,rfl,rfl,rfl⟩,rfl⟩,h1,h2⟩
  exact ⟨_,K,[],rfl,⟨[(0,.str s)],⟨[],0,[],[]⟩,m,rfl,List.prefix_rfl,hm,fun a h=>(by cases h),rfl,rfl⟩,h1,h2⟩
def ox:Spec:=⟨24,⟨[(0,.dat (.int .i64))],[]⟩,[⟨[(0,.dat .str)],[]⟩],da⟩
theorem tg:cJ Tryd.prog ox:=vB fun h=>s8 h
def fS:OkSpec Tryd.prog:=⟨ox,tg,Tryd.call24⟩
def q7:Spec:=⟨25,⟨[(0,.dat (.sl .str)),(1,.dat .str)],[]⟩,[⟨[(0,.dat .str)],[]⟩],fun x=>eN x.1 x.2⟩
theorem wi:cJ Tryd.prog q7:=wm th
def qL:OkSpec Tryd.prog:=⟨q7,wi,Tryd.call25⟩
end
set_option maxRecDepth 100000
set_option maxHeartbeats 4000000
section
open Go.RowKit _root_.Go.Proofs.Tryd
abbrev bkO (i:Nat) (o:OT):Bk:=⟨some i,0,[],false,false,some o,false⟩
abbrev bkC (i:Nat) (e:TypeId) (ks:List Kd):Bk:=⟨some i,e,ks,false,false,none,false⟩
abbrev bkN (e:TypeId) (ks:List Kd):Bk:=⟨none,e,ks,false,false,none,false⟩
abbrev bkU (i:Nat):Bk:=⟨some i,0,[],false,true,none,false⟩
abbrev bkM:Bk:=⟨none,0,[],false,true,none,false⟩
abbrev kdI (i:Nat):Nat×Kd:=(i,.dat (.int .i64))
abbrev kdB (i:Nat):Nat×Kd:=(i,.dat .bool)
abbrev Tq1:Type:=((List (Int×Int×Int×Int×Bool))×(Int×Int×Int×(List Int)×(List Int)×(List Int)))
abbrev Yq1:Tp:=(.int .i64)
abbrev Tq2:Type:=(Int×(List (Int×Int))×(List (List (Int×Bool)))×(List (Int×Bool)))
abbrev Yq2:Tp:=(.cons Yq1 (.one .bool))
abbrev Yq3:Tp:=(.cons Yq1 (.cons Yq1 (.cons Yq1 (.cons (.sl Yq1) (.cons (.sl Yq1) (.one (.sl Yq1)))))))
abbrev Tq3:Type:=(List (Int×Bool))
abbrev Tq4:Type:=(List UInt8)
abbrev Yq4:Tp:=(.one (.sl Yq2))
abbrev Yq5:Tp:=(.cons Yq1 (.one Yq1))
abbrev Yq6:Tp:=(.cons Yq1 (.cons Yq1 (.cons Yq1 Yq2)))
abbrev Tq5:Type:=(List (Int×Int))
abbrev Tq6:Type:=(Int×Int×Tq5×(List Tq3)×Tq3×(List Tq2)×(List Tq1)×Int×Int×List UInt8)
abbrev Tq7:Type:=(Int×Int×Tq5×(List Tq3)×Tq3×(List Tq2)×(List Tq1)×Int×Int)
abbrev Tq8:Type:=(Int×Int×Tq5×(List Tq3)×Tq3×(List Tq2)×(List Tq1))
abbrev Tq9:Type:=((Int×Int×Tq5×(List Tq3)×Tq3×(List Tq2)×(List Tq1)×Int×(List Tq4)×Int))
abbrev dL:Type:=(Int×Int×Int×Int×Bool)
abbrev nP:Type:=(Int×Int×Int×Tq5×(List Tq3)×Tq3×(List Tq2)×(List Tq1)×Int×Bool)
abbrev bE:Type:=(Int×Int)
instance nob:BldA:=⟨1000000000,fun b _=>Cl b 1000000000 [.pointer none,.slice none 0 0],fun h=>h,Gk,Gk.monoC⟩
def wO:OkSpec Tryd.prog:=⟨m7,xp (fun _ h=>h),call106⟩
def iz:OkSpec Tryd.prog:=⟨ml,vF (fun _ h=>h),call19⟩
def uU:OkSpec Tryd.prog:=⟨mz,vJ (fun _ h=>h),call69⟩

def oq (xa:Tq4) (xb:Tq4) (xc:Int):Option (List UInt8×List UInt8×Int) :=
 some ((xb,xa,xc))
def hQ0:Hn Tryd.prog := .nil
def sQ0:Spec:=⟨54,⟨[(0,.dat .str),(1,.dat .str),kdI 2],[]⟩,[⟨[(0,.fn 74 [.ptr 0 0,.ptr 1 0,.ptr 2 0])],[bkN 9 [.dat .str],bkN 9 [.dat .str],bkN 3 [.dat Yq1]]⟩],fun x=>oq x.1 x.2.1 x.2.2⟩
def oQ0:OkSpec Tryd.prog:=⟨sQ0,aj func54 hQ0 (by kernel_rfl) (by kernel_rfl),call54⟩

def ly (xa:Tq4) (xb:Tq4):Option (List UInt8×List UInt8×Int) :=
 (oq xa xb 0).bind fun (s20,s21,i22)=>some ((s20,s21,i22))
def hQ1:Hn Tryd.prog := .cl oQ0 [] .nil
def sQ1:Spec:=⟨32,⟨[(0,.dat .str),(1,.dat .str)],[]⟩,[⟨[(0,.fn 74 [.ptr 0 0,.ptr 1 0,.ptr 2 0])],[bkN 9 [.dat .str],bkN 9 [.dat .str],bkN 3 [.dat Yq1]]⟩],fun x=>ly x.1 x.2⟩
def oQ1:OkSpec Tryd.prog:=⟨sQ1,aj func32 hQ1 (by kernel_rfl) (by kernel_rfl),call32⟩
def sS (xa:List UInt8):Option bE:=none
def sQ2:Spec:=⟨75,⟨[(0,.dat .str)],[]⟩,[⟨[(0,.tup [.dat (.int .i32),.dat Yq1])],[]⟩],fun _=>none⟩
def oQ2:OkSpec Tryd.prog:=⟨sQ2,fun _ _ h=>(by cases h),call75⟩

def ie (xa:Tq4):Option Bool :=
 some (decide (xa=([]:List UInt8)))
def hQ3:Hn Tryd.prog := .nil
def sQ3:Spec:=⟨34,⟨[(0,.dat .str)],[]⟩,[⟨[kdB 0],[]⟩],fun x=>ie x⟩
def oQ3:OkSpec Tryd.prog:=⟨sQ3,aj func34 hQ3 (by kernel_rfl) (by kernel_rfl),call34⟩
def jl (xa:(List Tq4)):Int→Option (Int⊕(Unit⊕Int)):=fun i1=>cond (decide (i1 < (xa.length:Int))) ((aa xa i1).bind fun x2=>(ie x2).bind fun t3=>cond (t3) (some (.inr ((.inr (i1))))) (some (.inl (IntKind.wrap .i64 (i1 + 1))))) (some (.inr ((.inl ()))))
def jp (xa:(List Tq4)):Option Int :=
 (loop (jl xa) 0).bind fun o=>match o with | .inr r=>some r | .inl ()=>some ((-1))
def hQ4:Hn Tryd.prog := .jx [] ⟨[],[]⟩ [] (.lp ⟨[kdI 8],[]⟩ (.tw 9 (.cl oQ3 [] (.tw 16 .nil .nil)) .nil)) .nil
def sQ4:Spec:=⟨55,⟨[(0,.dat (.sl .str)),(1,.fn 34 [])],[]⟩,[⟨[kdI 0],[]⟩],fun x=>jp x⟩
def oQ4:OkSpec Tryd.prog:=⟨sQ4,aj func55 hQ4 (by kernel_rfl) (by kernel_rfl),call55⟩
def lj  : ((List Tq4)×Int×Int)→Option (((List Tq4)×Int×Int)⊕((List Tq4)×Int)):=fun (l1,i2,i3)=>cond (decide (i3 < (l1.length:Int))) ((aa l1 i3).bind fun x4=>(ie x4).bind fun t5=>cond (!t5) ((aa l1 i2).bind fun x6=>(some (l1.set i2.toNat x4)).bind fun z7=>some (.inl ((z7,IntKind.wrap .i64 (i2 + 1),IntKind.wrap .i64 (i3 + 1))))) (some (.inl ((l1,i2,IntKind.wrap .i64 (i3 + 1)))))) (some (.inr (((l1,i2)))))
def fO (qxa:(List Tq4)):Option ((List Tq4)) :=
 (jp qxa).bind fun i1=>cond (decide (i1=(-1))) (some (qxa)) ((loop (lj) ((qxa,i1,IntKind.wrap .i64 (i1 + 1)))).bind fun (l2,i3)=>(subL l2 i3 (l2.length:Int)).bind fun _=>(some (cpy l2 (i3:Int).toNat (List.replicate (((l2.length:Int):Int).toNat - (i3:Int).toNat) ([]:List UInt8)))).bind fun z4=>(subL z4 0 i3).bind fun y5=>some (y5))
def hQ5:Hn Tryd.prog := .cl oQ4 [0] (.tw 12 (.per 0 1 .nil) (.jn [] ⟨[(0,.own 9 .str),kdI 5,(8,.any)],[]⟩ [0] (.lp ⟨[(0,.own 9 .str),kdI 5,kdI 6],[]⟩ (.tw 19 (.cl oQ3 [] (.tw 29 .nil .nil)) .nil)) (.per 2 4 .nil)))
def sQ5:Spec:=⟨33,⟨[(0,.own 9 .str),(1,.fn 34 [])],[]⟩,[⟨[(0,.dat (.sl .str))],[]⟩],fun x=>fO x⟩
def oQ5:OkSpec Tryd.prog:=⟨sQ5,aj func33 hQ5 (by kernel_rfl) (by kernel_rfl),call33⟩

def lm (xa:Tq4) (xb:Tq4):Option Bool :=
 (cond (decide ((xb.length:Int)≤(xa.length:Int))) ((subL xa 0 (xb.length:Int)).bind fun y14=>some (decide (y14=xb))) (some (false))).bind fun t12=>some (t12)
def hQ6:Hn Tryd.prog := .gj 6 ⟨[kdB 17],[]⟩ [] (.two 10 .nil .nil) .nil
def sQ6:Spec:=⟨56,⟨[(0,.dat .str),(1,.dat .str)],[]⟩,[⟨[kdB 0],[]⟩],fun x=>lm x.1 x.2⟩
def oQ6:OkSpec Tryd.prog:=⟨sQ6,aj func56 hQ6 (by kernel_rfl) (by kernel_rfl),call56⟩

def eh (xa:Tq4) (xb:Tq4):Option Bool :=
 (lm xa xb).bind fun t10=>some (t10)
def hQ7:Hn Tryd.prog := .cl oQ6 [] .nil
def sQ7:Spec:=⟨35,⟨[(0,.dat .str),(1,.dat .str)],[]⟩,[⟨[kdB 0],[]⟩],fun x=>eh x.1 x.2⟩
def oQ7:OkSpec Tryd.prog:=⟨sQ7,aj func35 hQ7 (by kernel_rfl) (by kernel_rfl),call35⟩

def aN (xa:Tq4):Option bE :=
 (cond (decide (xa=([98,111,117,110,100,115]:List UInt8))) (some (decide (xa=([98,111,117,110,100,115]:List UInt8)))) (some (decide (xa=([110,101,101,100,115]:List UInt8)))):Option Bool).bind fun t36=>cond (t36) (some ((1,9223372036854775807))) ((cond (decide (xa=([98,108,111,99,107]:List UInt8))) (some (decide (xa=([98,108,111,99,107]:List UInt8)))) (cond (decide (xa=([110,111,112]:List UInt8))) (some (decide (xa=([110,111,112]:List UInt8)))) (some (decide (xa=([114,101,116,117,114,110]:List UInt8))))):Option Bool).bind fun t41=>cond (t41) (some ((1,1))) ((cond (decide (xa=([108,111,99,97,108]:List UInt8))) (some (decide (xa=([108,111,99,97,108]:List UInt8)))) (cond (decide (xa=([103,105,118,101,115]:List UInt8))) (some (decide (xa=([103,105,118,101,115]:List UInt8)))) (cond (decide (xa=([97,114,103]:List UInt8))) (some (decide (xa=([97,114,103]:List UInt8)))) (cond (decide (xa=([117,115,101]:List UInt8))) (some (decide (xa=([117,115,101]:List UInt8)))) (cond (decide (xa=([100,101,97,100]:List UInt8))) (some (decide (xa=([100,101,97,100]:List UInt8)))) (some (decide (xa=([103,111,116,111]:List UInt8)))))))):Option Bool).bind fun t50=>cond (t50) (some ((2,2))) ((cond (decide (xa=([114,101,103,105,111,110,115]:List UInt8))) (some (decide (xa=([114,101,103,105,111,110,115]:List UInt8)))) (cond (decide (xa=([115,105,103]:List UInt8))) (some (decide (xa=([115,105,103]:List UInt8)))) (cond (decide (xa=([97,115,115,105,103,110]:List UInt8))) (some (decide (xa=([97,115,115,105,103,110]:List UInt8)))) (some (decide (xa=([115,119,105,116,99,104]:List UInt8)))))):Option Bool).bind fun t60=>cond (t60) (some ((3,3))) (cond (decide (xa=([98,111,114,114,111,119]:List UInt8))) (some ((4,5))) (cond (decide (xa=([114,101,98,111,114,114,111,119]:List UInt8))) (some ((4,5))) (some ((6,6))))))))
def hQ8:Hn Tryd.prog := .pl (.pl (.pl (.sq [] ⟨[kdB 5],[]⟩ [] (.tw 5 .nil .nil) (.tw 5 .nil (.sq [] ⟨[kdB 8],[]⟩ [] (.tw 8 .nil (.tw 8 .nil .nil)) (.tw 8 .nil (.sq [] ⟨[kdB 12],[]⟩ [] (.tw 12 .nil (.tw 12 .nil (.tw 12 .nil (.tw 12 .nil (.tw 12 .nil .nil))))) (.tw 12 .nil (.sq [] ⟨[kdB 19],[]⟩ [] (.tw 19 .nil (.tw 19 .nil (.tw 19 .nil .nil))) (.tw 19 .nil (.two 24 .nil (.tw 24 .nil .nil))))))))))))
def sQ8:Spec:=⟨57,⟨[(0,.dat .str)],[]⟩,[⟨[(0,.tup [.dat Yq1,.dat Yq1])],[]⟩],fun x=>aN x⟩
def oQ8:OkSpec Tryd.prog:=⟨sQ8,aj func57 hQ8 (by kernel_rfl) (by kernel_rfl),call57⟩
def ju (xa:(List Tq4)) (xb:Tq4):Int→Option (Int⊕(Unit⊕Int)):=fun i1=>cond (decide (i1 < (xa.length:Int))) ((aa xa i1).bind fun x2=>cond (decide (xb=x2)) (some (.inr ((.inr (i1))))) (some (.inl (IntKind.wrap .i64 (i1 + 1))))) (some (.inr ((.inl ()))))
def lq (xa:(List Tq4)) (xb:Tq4):Option Int :=
 (loop (ju xa xb) 0).bind fun o=>match o with | .inr r=>some r | .inl ()=>some ((-1))
def hQ9:Hn Tryd.prog := .jx [] ⟨[],[]⟩ [] (.lp ⟨[kdI 8],[]⟩ (.tw 9 (.tw 16 .nil .nil) .nil)) .nil
def sQ9:Spec:=⟨90,⟨[(0,.dat (.sl .str)),(1,.dat .str)],[]⟩,[⟨[kdI 0],[]⟩],fun x=>lq x.1 x.2⟩
def oQ9:OkSpec Tryd.prog:=⟨sQ9,aj func90 hQ9 (by kernel_rfl) (by kernel_rfl),call90⟩

def bg (xa:(List Tq4)) (xb:Tq4):Option Bool :=
 (lq xa xb).bind fun i10=>some (decide (0≤i10))
def A5:Hn Tryd.prog := .cl oQ9 [] .nil
def A4:Spec:=⟨76,⟨[(0,.dat (.sl .str)),(1,.dat .str)],[]⟩,[⟨[kdB 0],[]⟩],fun x=>bg x.1 x.2⟩
def d9:OkSpec Tryd.prog:=⟨A4,aj func76 A5 (by kernel_rfl) (by kernel_rfl),call76⟩

def sR (xb:Tq4) (qa0:Int) (qa1:Int) (qa2:Tq5) (qa4:Tq3) (qa5:(List Tq2)) (qa6:(List Tq1)) (qa7:Int):Option ((Bool×Tq5×Tq3×(List Tq2)×(List Tq1))) :=
 cond (decide (qa7=0)) ((bg (([([114,101,103,105,111,110,115]:List UInt8)]:List Tq4)) xb).bind fun t3=>some ((t3,qa2,qa4,qa5,qa6))) (cond (decide (qa7=1)) ((bg (([([98,111,117,110,100,115]:List UInt8)]:List Tq4)) xb).bind fun t9=>some ((t9,qa2,qa4,qa5,qa6))) (cond (decide (qa7=2)) ((bg (([([108,111,99,97,108]:List UInt8),([103,105,118,101,115]:List UInt8)]:List Tq4)) xb).bind fun t10=>some ((t10,qa2,qa4,qa5,qa6))) (cond (decide (qa7=3)) ((bg (([([115,105,103]:List UInt8),([98,108,111,99,107]:List UInt8)]:List Tq4)) xb).bind fun t11=>some ((t11,qa2,qa4,qa5,qa6))) (cond (decide (qa7=4)) ((bg (([([110,101,101,100,115]:List UInt8)]:List Tq4)) xb).bind fun t12=>some ((t12,qa2,qa4,qa5,qa6))) (cond (decide (qa7=5)) ((bg (([([97,114,103]:List UInt8),([115,105,103]:List UInt8),([98,108,111,99,107]:List UInt8)]:List Tq4)) xb).bind fun t13=>some ((t13,qa2,qa4,qa5,qa6))) (cond (decide (qa7=6)) ((bg (([([110,111,112]:List UInt8),([97,115,115,105,103,110]:List UInt8),([98,111,114,114,111,119]:List UInt8),([114,101,98,111,114,114,111,119]:List UInt8),([117,115,101]:List UInt8),([100,101,97,100]:List UInt8),([103,111,116,111]:List UInt8),([115,119,105,116,99,104]:List UInt8),([114,101,116,117,114,110]:List UInt8),([99,97,108,108]:List UInt8)]:List Tq4)) xb).bind fun t14=>some ((t14,qa2,qa4,qa5,qa6))) (cond (decide (qa7=7)) ((bg (([([98,108,111,99,107]:List UInt8)]:List Tq4)) xb).bind fun t15=>some ((t15,qa2,qa4,qa5,qa6))) ((bg ([]) xb).bind fun t16=>some ((t16,qa2,qa4,qa5,qa6))))))))))
def om (xa:Tq4):Int→Option (Int⊕(Unit⊕Bool)):=fun i1=>cond (decide (i1 < (xa.length:Int))) ((aa xa i1).bind fun x2=>(cond (decide ((((x2.toNat:Nat):Int)) < 48)) (some (true)) ((aa xa i1).bind fun x3=>some (decide (57 < (((x3.toNat:Nat):Int)))))).bind fun t4=>cond (t4) (some (.inr ((.inr (false))))) (some (.inl (IntKind.wrap .i64 (i1 + 1))))) (some (.inr ((.inl ()))))
def jA (xa:Tq4):Option Bool :=
 (cond (decide (xa=([]:List UInt8))) (some (true)) ((cond (decide (1 < (xa.length:Int))) ((aa xa 0).bind fun x1=>some (decide ((((x1.toNat:Nat):Int))=48))) (some (false))).bind fun t2=>some (t2))).bind fun t3=>cond (t3) (some (false)) ((loop (om xa) 0).bind fun o=>match o with | .inr r=>some r | .inl ()=>some (true))
def Aw:Hn Tryd.prog := .gj 8 ⟨[kdB 15],[]⟩ [] (.two 6 .nil (.wt 10 (.gj 3 ⟨[kdB 14],[]⟩ [] (.two 10 .nil .nil) .nil))) (.tw 15 .nil (.jx [] ⟨[],[]⟩ [] (.lp ⟨[kdI 3],[]⟩ (.tw 19 (.gj 4 ⟨[kdB 31],[]⟩ [] (.two 26 .nil .nil) (.tw 31 .nil .nil)) .nil)) .nil))
def AP:Spec:=⟨47,⟨[(0,.dat .str)],[]⟩,[⟨[kdB 0],[]⟩],fun x=>jA x⟩
def yM:OkSpec Tryd.prog:=⟨AP,aj func47 Aw (by kernel_rfl) (by kernel_rfl),call47⟩
def dO (xa:Tq4) (xb:Int):bE→Option (bE⊕(Int⊕bE)):=fun (i1,i2)=>cond (decide (i2 < (xa.length:Int))) ((aa xa i2).bind fun x3=>cond ((decide (xb < (IntKind.wrap .i64 (IntKind.wrap .u8 ((((x3.toNat:Nat):Int)) - 48)))))||(decide ((IntKind.wrap .i64 (Int.tdiv (IntKind.wrap .i64 (xb - (IntKind.wrap .i64 (IntKind.wrap .u8 ((((x3.toNat:Nat):Int)) - 48))))) 10)) < i1))) (some (.inr ((.inr ((0,5)))))) (some (.inl ((IntKind.wrap .i64 ((IntKind.wrap .i64 (i1 * 10)) + (IntKind.wrap .i64 (IntKind.wrap .u8 ((((x3.toNat:Nat):Int)) - 48)))),IntKind.wrap .i64 (i2 + 1)))))) (some (.inr (.inl i1)))
def eo (xa:Tq4) (xb:Int):Option bE :=
 (jA xa).bind fun t88=>cond (!t88) (some ((0,3))) ((loop (dO xa xb) (0,0)).bind fun o=>match o with | .inr r=>some r | .inl i1=>some ((i1,0)))
def zq:Hn Tryd.prog := .cl yM [] (.tw 11 .nil (.jx [] ⟨[kdI 6],[]⟩ [] (.lp ⟨[kdI 6,kdI 7],[]⟩ (.tw 15 (.gp 6 (.tw 33 .nil .nil)) .nil)) .nil))
def zK:Spec:=⟨21,⟨[(0,.dat .str),kdI 1],[]⟩,[⟨[(0,.tup [.dat Yq1,.dat Yq1])],[]⟩],fun x=>eo x.1 x.2⟩
def jf:OkSpec Tryd.prog:=⟨zK,aj func21 zq (by kernel_rfl) (by kernel_rfl),call21⟩
def hG (xb:Int) (l1:List Tq4):((List Int)×Int)→Option (((List Int)×Int)⊕((List Int)⊕((List Int)×Int))):=fun (l2,i3)=>cond (decide (i3 < (l1.length:Int))) ((aa l1 i3).bind fun x4=>(eo x4 xb).bind fun (i5,i6)=>cond (!decide (i6=0)) (some (.inr ((.inr (([],i6)))))) ((app l2 ([i5]:List Int)).bind fun z7=>some (.inl ((z7,IntKind.wrap .i64 (i3 + 1)))))) (some (.inr (.inl l2)))
def hO (xa:Tq4) (xb:Int):Option (((List Int)×Int)) :=
 cond (decide (xa=([]:List UInt8))) (some (([],0))) ((cZ xa ([44]:List UInt8)).bind fun l1=>(loop (hG xb l1) ([],0)).bind fun o=>match o with | .inr r=>some r | .inl l2=>some ((l2,0)))
def zY:Hn Tryd.prog := .tw 12 .nil (.cl iz [] (.jx [] ⟨[(6,.own 3 Yq1)],[]⟩ [] (.lp ⟨[(6,.own 3 Yq1),kdI 16],[]⟩ (.tw 17 (.cl jf [] (.tw 27 .nil .nil)) .nil)) .nil))
def ym:Spec:=⟨105,⟨[(0,.dat .str),kdI 1],[]⟩,[⟨[(0,.tup [.own 3 Yq1,.dat Yq1])],[]⟩],fun x=>hO x.1 x.2⟩
def zg:OkSpec Tryd.prog:=⟨ym,aj func105 zY (by kernel_rfl) (by kernel_rfl),call105⟩

def lw (xa:Tq4):Option (((List Int)×Int)) :=
 cond (decide (xa=([45]:List UInt8))) (some (([],0))) ((hO xa 1048576).bind fun (l23,i24)=>some ((l23,i24)))
def zf:Hn Tryd.prog := .tw 5 .nil (.cl zg [] .nil)
def Aa:Spec:=⟨104,⟨[(0,.dat .str)],[]⟩,[⟨[(0,.tup [.own 3 Yq1,.dat Yq1])],[]⟩],fun x=>lw x⟩
def zF:OkSpec Tryd.prog:=⟨Aa,aj func104 zf (by kernel_rfl) (by kernel_rfl),call104⟩

def js (qa0:(List Tq4)) (qa1:Int):Option (((List Int)×(List Tq4)×Int)) :=
 cond (!decide (qa1=0)) (some (([],qa0,qa1))) ((aa qa0 0).bind fun x40=>(lw x40).bind fun (l51,i52)=>(subL qa0 1 (qa0.length:Int)).bind fun y60=>some ((l51,y60,i52)))
def ze:Hn Tryd.prog := .tw 10 .nil (.cl zF [] .nil)
def zO:Spec:=⟨103,⟨[(0,.ptr 0 0),(1,.fn 104 [])],[bkN 105 [.dat (.sl .str),.dat Yq1]]⟩,[⟨[(0,.own 3 Yq1)],[bkC 0 105 [.dat (.sl .str),.dat Yq1]]⟩],fun x=>js x.1 x.2⟩
def As:OkSpec Tryd.prog:=⟨zO,aj func103 ze (by kernel_rfl) (by kernel_rfl),call103⟩

def c8 (qa0:(List Tq4)) (qa1:Int):Option (((List Int)×(List Tq4)×Int)) :=
 (js qa0 qa1).bind fun (l28,l29,i30)=>some ((l28,l29,i30))
def zN:Hn Tryd.prog := .cl As [] .nil
def AD:Spec:=⟨91,⟨[(0,.ptr 0 0)],[bkN 105 [.dat (.sl .str),.dat Yq1]]⟩,[⟨[(0,.own 3 Yq1)],[bkC 0 105 [.dat (.sl .str),.dat Yq1]]⟩],fun x=>c8 x.1 x.2⟩
def gV:OkSpec Tryd.prog:=⟨AD,aj func91 zN (by kernel_rfl) (by kernel_rfl),call91⟩

def lu (xa:Tq4):Option bE :=
 (eo xa 1048576).bind fun (i13,i14)=>some ((i13,i14))
def AO:Hn Tryd.prog := .cl jf [] .nil
def Am:Spec:=⟨93,⟨[(0,.dat .str)],[]⟩,[⟨[(0,.tup [.dat Yq1,.dat Yq1])],[]⟩],fun x=>lu x⟩
def yZ:OkSpec Tryd.prog:=⟨Am,aj func93 AO (by kernel_rfl) (by kernel_rfl),call93⟩

def jq (qa0:(List Tq4)) (qa1:Int):Option ((Int×(List Tq4)×Int)) :=
 cond (!decide (qa1=0)) (some ((0,qa0,qa1))) ((aa qa0 0).bind fun x31=>(lu x31).bind fun (i42,i43)=>(subL qa0 1 (qa0.length:Int)).bind fun y47=>some ((i42,y47,i43)))
def Ak:Hn Tryd.prog := .tw 10 .nil (.cl yZ [] .nil)
def AK:Spec:=⟨92,⟨[(0,.ptr 0 0),(1,.fn 93 [])],[bkN 105 [.dat (.sl .str),.dat Yq1]]⟩,[⟨[kdI 0],[bkC 0 105 [.dat (.sl .str),.dat Yq1]]⟩],fun x=>jq x.1 x.2⟩
def zp:OkSpec Tryd.prog:=⟨AK,aj func92 Ak (by kernel_rfl) (by kernel_rfl),call92⟩

def bq (qa0:(List Tq4)) (qa1:Int):Option ((Int×(List Tq4)×Int)) :=
 (jq qa0 qa1).bind fun (i21,l22,i23)=>some ((i21,l22,i23))
def zw:Hn Tryd.prog := .cl zp [] .nil
def yF:Spec:=⟨79,⟨[(0,.ptr 0 0)],[bkN 105 [.dat (.sl .str),.dat Yq1]]⟩,[⟨[kdI 0],[bkC 0 105 [.dat (.sl .str),.dat Yq1]]⟩],fun x=>bq x.1 x.2⟩
def c6:OkSpec Tryd.prog:=⟨yF,aj func79 zw (by kernel_rfl) (by kernel_rfl),call79⟩

def cx (xa:Tq4) (qa0:(List Tq4)) (qa1:Int):Option ((Int×Int×Int×(List Int)×(List Int)×(List Int)×Bool×(List Tq4)×Int)) :=
 cond (decide (xa=([103,111,116,111]:List UInt8))) ((c8 qa0 qa1).bind fun (l2,l3,i4)=>some ((1,0,0,l2,[],[],true,l3,i4))) (cond (decide (xa=([115,119,105,116,99,104]:List UInt8))) ((c8 qa0 qa1).bind fun (l5,l6,i7)=>(c8 l6 i7).bind fun (l9,l10,i11)=>some ((2,0,0,l5,l9,[],true,l10,i11))) (cond (decide (xa=([114,101,116,117,114,110]:List UInt8))) (some ((3,0,0,[],[],[],true,qa0,qa1))) (cond (decide (xa=([99,97,108,108]:List UInt8))) ((bq qa0 qa1).bind fun (i12,l13,i14)=>(bq l13 i14).bind fun (i15,l16,i17)=>(c8 l16 i17).bind fun (l18,l19,i20)=>(c8 l19 i20).bind fun (l21,l22,i23)=>(c8 l22 i23).bind fun (l24,l25,i26)=>some ((4,i12,i15,l18,l24,l21,true,l25,i26))) (some ((0,0,0,[],[],[],false,qa0,qa1))))))
def yJ:Hn Tryd.prog := .tw 9 (.cl gV [] .nil) (.tw 15 (.cl gV [] (.cl gV [] .nil)) (.tw 24 .nil (.tw 27 (.cl c6 [] (.cl c6 [] (.cl gV [] (.cl gV [] (.cl gV [] .nil))))) .nil)))
def Ae:Spec:=⟨77,⟨[(0,.dat .str),(1,.ptr 0 0)],[bkN 105 [.dat (.sl .str),.dat Yq1]]⟩,[⟨[(0,.tup [.agg [.dat Yq1,.dat Yq1,.dat Yq1,.own 3 Yq1,.own 3 Yq1,.own 3 Yq1],.dat .bool])],[bkC 0 105 [.dat (.sl .str),.dat Yq1]]⟩],fun x=>cx x.1 x.2.1 x.2.2⟩
def zl:OkSpec Tryd.prog:=⟨Ae,aj func77 yJ (by kernel_rfl) (by kernel_rfl),call77⟩

def b6 (xa:(List Tq4)) (qa0:(List Tq4)) (qa1:Int):Option ((Int×Int×Int×Int×Bool×(List Tq4)×Int)) :=
 (aa xa 0).bind fun x2=>cond (decide (x2=([97,115,115,105,103,110]:List UInt8))) ((bq qa0 qa1).bind fun (i3,l4,i5)=>(bq l4 i5).bind fun (i6,l7,i9)=>some ((1,i3,i6,0,false,l7,i9))) ((cond (decide (x2=([98,111,114,114,111,119]:List UInt8))) (some (decide (x2=([98,111,114,114,111,119]:List UInt8)))) (some (decide (x2=([114,101,98,111,114,114,111,119]:List UInt8)))):Option Bool).bind fun t10=>cond (t10) (((aa xa 0).bind fun x11=>cond (decide (x11=([114,101,98,111,114,114,111,119]:List UInt8))) (some (3)) (some (2)):Option Int).bind fun i12=>((cond (decide ((xa.length:Int)=5)) ((aa xa 4).bind fun x13=>some (!decide (x13=([109,117,116]:List UInt8)))) (some (false))).bind fun t14=>cond (t14) (some (3)) (some (qa1)):Option Int).bind fun i15=>(bq qa0 i15).bind fun (i16,l17,i18)=>(bq l17 i18).bind fun (i19,l20,i21)=>(bq l20 i21).bind fun (i22,l23,i24)=>some ((i12,i16,i19,i22,decide ((xa.length:Int)=5),l23,i24))) (cond (decide (x2=([117,115,101]:List UInt8))) ((bq qa0 qa1).bind fun (i25,l26,i27)=>some ((4,0,i25,0,false,l26,i27))) (cond (decide (x2=([100,101,97,100]:List UInt8))) ((bq qa0 qa1).bind fun (i28,l29,i30)=>some ((5,i28,0,0,false,l29,i30))) (some ((0,0,0,0,false,qa0,qa1))))))
def A1:Hn Tryd.prog := .tw 9 (.cl c6 [] (.cl c6 [] .nil)) (.sq [] ⟨[kdB 18],[]⟩ [] (.tw 18 .nil .nil) (.tw 18 (.pl (.sq [] ⟨[],[bkC 4 26 [.dat Yq1,.lit (.int .i64 0),.lit (.int .i64 0),.lit (.int .i64 0),.lit (.bool false)]]⟩ [4] (.tw 25 .nil .nil) (.pl (.sq [(0,0)] ⟨[],[bkC 0 105 [.is 1 (.any),.dat Yq1],bkU 9]⟩ [0] (.gj 4 ⟨[kdB 38],[]⟩ [] (.two 33 .nil .nil) (.tw 38 .nil .nil)) (.cl c6 [] (.cl c6 [] (.cl c6 [] .nil))))))) (.tw 51 (.cl c6 [] .nil) (.tw 57 (.cl c6 [] .nil) .nil))))
def Au:Spec:=⟨78,⟨[(0,.dat (.sl .str)),(1,.ptr 0 0)],[bkN 105 [.dat (.sl .str),.dat Yq1]]⟩,[⟨[(0,.agg [.dat Yq1,.dat Yq1,.dat Yq1,.dat Yq1,.dat .bool])],[bkC 0 105 [.dat (.sl .str),.dat Yq1]]⟩],fun x=>b6 x.1 x.2.1 x.2.2⟩
def sH:OkSpec Tryd.prog:=⟨Au,aj func78 A1 (by kernel_rfl) (by kernel_rfl),call78⟩

def sQ (xb:(List Tq4)) (qa0:Int) (qa1:Int) (qa2:Tq5) (qa4:Tq3) (qa5:(List Tq2)) (qa6:(List Tq1)) (qa7:Int) (qb0:(List Tq4)) (qb1:Int):Option ((Tq5×Tq3×(List Tq2)×(List Tq1)×Int×(List Tq4)×Int)) :=
 (aa qa6 (IntKind.wrap .i64 ((qa6.length:Int) - 1))).bind fun _=>(aa xb 0).bind fun x3=>(cx x3 qb0 qb1).bind fun (i9,i10,i11,l12,l13,l14,t15,l16,i17)=>cond (t15) ((aa qa6 (IntKind.wrap .i64 ((qa6.length:Int) - 1))).bind fun x18=>(ay (IntKind.wrap .i64 ((qa6.length:Int) - 1)) (IntKind.wrap .i64 ((qa6.length:Int) - 1))).bind fun _=>some ((qa2,qa4,qa5,qa6.set (IntKind.wrap .i64 ((qa6.length:Int) - 1)).toNat ((x18.1,(i9,i10,i11,l12,l13,l14))),7,l16,i17))) ((((aa qa6 (IntKind.wrap .i64 ((qa6.length:Int) - 1))).bind fun x19=>(ay (IntKind.wrap .i64 ((qa6.length:Int) - 1)) (IntKind.wrap .i64 ((qa6.length:Int) - 1))).bind fun _=>(b6 xb l16 i17).bind fun (i20,i21,i22,i23,t24,l25,i26)=>(app x19.1 (([(i20,i21,i22,i23,t24)]:List dL))).bind fun z27=>(ay (IntKind.wrap .i64 ((qa6.length:Int) - 1)) (IntKind.wrap .i64 ((qa6.length:Int) - 1))).bind fun _=>some ((l25,i26,qa6.set (IntKind.wrap .i64 ((qa6.length:Int) - 1)).toNat ((z27,(x19.2.1,x19.2.2.1,x19.2.2.2.1,x19.2.2.2.2.1,x19.2.2.2.2.2.1,x19.2.2.2.2.2.2)))))).bind fun x28=>((b6 xb l16 i17).bind fun (i29,i30,i31,i32,t33,l34,i35)=>((aa qa6 (IntKind.wrap .i64 ((qa6.length:Int) - 1))).bind fun x36=>(ay (IntKind.wrap .i64 ((qa6.length:Int) - 1)) (IntKind.wrap .i64 ((qa6.length:Int) - 1))).bind fun _=>(app x36.1 (([(i29,i30,i31,i32,t33)]:List dL))).bind fun z37=>(ay (IntKind.wrap .i64 ((qa6.length:Int) - 1)) (IntKind.wrap .i64 ((qa6.length:Int) - 1))).bind fun _=>some ((l34,i35,qa6.set (IntKind.wrap .i64 ((qa6.length:Int) - 1)).toNat ((z37,(x36.2.1,x36.2.2.1,x36.2.2.2.1,x36.2.2.2.2.1,x36.2.2.2.2.2.1,x36.2.2.2.2.2.2)))))).bind fun x38=>((aa qa6 (IntKind.wrap .i64 ((qa6.length:Int) - 1))).bind fun x39=>(ay (IntKind.wrap .i64 ((qa6.length:Int) - 1)) (IntKind.wrap .i64 ((qa6.length:Int) - 1))).bind fun _=>(app x39.1 (([(i29,i30,i31,i32,t33)]:List dL))).bind fun z40=>(ay (IntKind.wrap .i64 ((qa6.length:Int) - 1)) (IntKind.wrap .i64 ((qa6.length:Int) - 1))).bind fun _=>some ((l34,i35,qa6.set (IntKind.wrap .i64 ((qa6.length:Int) - 1)).toNat ((z40,(x39.2.1,x39.2.2.1,x39.2.2.2.1,x39.2.2.2.2.1,x39.2.2.2.2.2.1,x39.2.2.2.2.2.2)))))).bind fun y41=>agr x38 y41 (some x38)).bind fun y42=>agr x28 y42 (some x28):Option (((List Tq4)×Int×(List Tq1)))).bind fun (l43,i44,l45)=>some ((qa2,qa4,qa5,l45,qa7,l43,i44)))
def jy (xa:Tq4) (xb:Int):Option (Int×Int×Int) :=
 (jj xa ([58]:List UInt8)).bind fun (s33,s34,t35)=>cond (!t35) (some ((0,0,3))) ((eo s33 xb).bind fun (i42,i43)=>cond (!decide (i43=0)) (some ((0,0,i43))) ((eo s34 xb).bind fun (i50,i51)=>cond (!decide (i51=0)) (some ((0,0,i51))) (some ((i42,i50,0)))))
def Ap:Hn Tryd.prog := .cl wO [] (.tw 19 .nil (.cl jf [] (.tw 28 .nil (.cl jf [] (.tw 38 .nil .nil)))))
def Al:Spec:=⟨96,⟨[(0,.dat .str),kdI 1],[]⟩,[⟨[(0,.tup [.agg [.dat Yq1,.dat Yq1],.dat Yq1])],[]⟩],fun x=>jy x.1 x.2⟩
def yA:OkSpec Tryd.prog:=⟨Al,aj func96 Ap (by kernel_rfl) (by kernel_rfl),call96⟩

def lr (xa:Tq4):Option (Int×Int×Int) :=
 (jy xa 1048576).bind fun (i17,i18,i19)=>some ((i17,i18,i19))
def yE:Hn Tryd.prog := .cl yA [] .nil
def AL:Spec:=⟨95,⟨[(0,.dat .str)],[]⟩,[⟨[(0,.tup [.agg [.dat Yq1,.dat Yq1],.dat Yq1])],[]⟩],fun x=>lr x⟩
def zn:OkSpec Tryd.prog:=⟨AL,aj func95 yE (by kernel_rfl) (by kernel_rfl),call95⟩

def jo (qa0:(List Tq4)) (qa1:Int):Option ((Int×Int×(List Tq4)×Int)) :=
 cond (!decide (qa1=0)) (some ((0,0,qa0,qa1))) ((aa qa0 0).bind fun x38=>(lr x38).bind fun (i49,i50,i51)=>(subL qa0 1 (qa0.length:Int)).bind fun y55=>some ((i49,i50,y55,i51)))
def y9:Hn Tryd.prog := .tw 10 .nil (.cl zn [] .nil)
def zA:Spec:=⟨94,⟨[(0,.ptr 0 0),(1,.fn 95 [])],[bkN 105 [.dat (.sl .str),.dat Yq1]]⟩,[⟨[(0,.agg [.dat Yq1,.dat Yq1])],[bkC 0 105 [.dat (.sl .str),.dat Yq1]]⟩],fun x=>jo x.1 x.2⟩
def zI:OkSpec Tryd.prog:=⟨zA,aj func94 y9 (by kernel_rfl) (by kernel_rfl),call94⟩
def dM  : (Tq5×(List Tq4)×Int)→Option ((Tq5×(List Tq4)×Int)⊕(Tq5×(List Tq4)×Int)):=fun (l1,l2,i3)=>cond ((decide (0 < (l2.length:Int)))&&(decide (i3=0))) ((jo l2 i3).bind fun (i4,i5,l6,i7)=>(app l1 (([(i4,i5)]:List bE))).bind fun z9=>some (.inl (z9,l6,i7))) (some (.inr (((l1,l2,i3)))))
def dN (qa0:(List Tq4)) (qa1:Int):Option ((Tq5×(List Tq4)×Int)) :=
 (loop (dM) ([],qa0,qa1)).bind fun (l2,l3,i4)=>some ((l2,l3,i4))
def yT:Hn Tryd.prog := .jn [] ⟨[(3,.own 117 Yq5)],[bkC 0 105 [.dat (.sl .str),.dat Yq1]]⟩ [0] (.lp ⟨[(3,.own 117 Yq5)],[bkC 0 105 [.dat (.sl .str),.dat Yq1]]⟩ (.gp 5 (.tw 16 (.cl zI [] .nil) .nil))) .nil
def AB:Spec:=⟨80,⟨[(0,.ptr 0 0)],[bkN 105 [.dat (.sl .str),.dat Yq1]]⟩,[⟨[(0,.own 117 Yq5)],[bkC 0 105 [.dat (.sl .str),.dat Yq1]]⟩],fun x=>dN x.1 x.2⟩
def sw:OkSpec Tryd.prog:=⟨AB,aj func80 yT (by kernel_rfl) (by kernel_rfl),call80⟩

def lk (xa:Tq4) (xb:Tq4):Option Bool :=
 (cond (decide ((xb.length:Int)≤(xa.length:Int))) ((subL xa (IntKind.wrap .i64 ((xa.length:Int) - (xb.length:Int))) (xa.length:Int)).bind fun y14=>some (decide (y14=xb))) (some (false))).bind fun t12=>some (t12)
def zB:Hn Tryd.prog := .gj 9 ⟨[kdB 20],[]⟩ [] (.two 10 .nil .nil) .nil
def za:Spec:=⟨70,⟨[(0,.dat .str),(1,.dat .str)],[]⟩,[⟨[kdB 0],[]⟩],fun x=>lk x.1 x.2⟩
def AG:OkSpec Tryd.prog:=⟨za,aj func70 zB (by kernel_rfl) (by kernel_rfl),call70⟩

def ll (xa:Tq4) (xb:Tq4):Option (List UInt8×Bool) :=
 (lk xa xb).bind fun t14=>cond (!t14) (some ((xa,false))) ((subL xa 0 (IntKind.wrap .i64 ((xa.length:Int) - (xb.length:Int)))).bind fun y19=>some ((y19,true)))
def yx:Hn Tryd.prog := .cl AG [] (.tw 9 .nil .nil)
def zr:Spec:=⟨46,⟨[(0,.dat .str),(1,.dat .str)],[]⟩,[⟨[(0,.tup [.dat .str,.dat .bool])],[]⟩],fun x=>ll x.1 x.2⟩
def ye:OkSpec Tryd.prog:=⟨zr,aj func46 yx (by kernel_rfl) (by kernel_rfl),call46⟩

def jz (xa:Tq4) (xb:Tq4):Option (List UInt8×Bool) :=
 (ll xa xb).bind fun (s12,t13)=>some ((s12,t13))
def Ag:Hn Tryd.prog := .cl ye [] .nil
def AE:Spec:=⟨20,⟨[(0,.dat .str),(1,.dat .str)],[]⟩,[⟨[(0,.tup [.dat .str,.dat .bool])],[]⟩],fun x=>jz x.1 x.2⟩
def zx:OkSpec Tryd.prog:=⟨AE,aj func20 Ag (by kernel_rfl) (by kernel_rfl),call20⟩
def hU (l1:List Tq4):(Int×Tq3)→Option ((Int×Tq3)⊕(Tq3⊕(Tq3×Int))):=fun (i2,l3)=>cond (decide (i2 < (l1.length:Int))) ((aa l1 i2).bind fun x4=>(jz x4 ([33]:List UInt8)).bind fun (s5,t6)=>(eo s5 1048576).bind fun (i7,i9)=>cond (!decide (i9=0)) (some (.inr ((.inr (([],i9)))))) ((app l3 (([(i7,t6)]:List (Int×Bool)))).bind fun z10=>some (.inl ((IntKind.wrap .i64 (i2 + 1),z10))))) (some (.inr (.inl l3)))
def jD (xa:Tq4):Option ((Tq3×Int)) :=
 cond (decide (xa=([45]:List UInt8))) (some (([],0))) ((cZ xa ([47]:List UInt8)).bind fun l1=>(loop (hU l1) (0,[])).bind fun o=>match o with | .inr r=>some r | .inl l2=>some ((l2,0)))
def AV:Hn Tryd.prog := .tw 12 .nil (.cl iz [] (.jx [] ⟨[],[bkC 0 24 [.nils],bkC 2 24 [.own 51 Yq2]]⟩ [2,0] (.lp ⟨[kdI 17],[bkC 0 24 [.nils],bkC 2 24 [.own 51 Yq2]]⟩ (.tw 18 (.cl zx [] (.cl jf [] (.tw 32 .nil .nil))) .nil)) .nil))
def zE:Spec:=⟨7,⟨[(0,.dat .str)],[]⟩,[⟨[(0,.tup [.agg [.own 51 Yq2],.dat Yq1])],[]⟩],fun x=>jD x⟩
def AU:OkSpec Tryd.prog:=⟨zE,aj func7 AV (by kernel_rfl) (by kernel_rfl),call7⟩

def jr (qa0:(List Tq4)) (qa1:Int):Option ((Tq3×(List Tq4)×Int)) :=
 cond (!decide (qa1=0)) (some (([],qa0,qa1))) ((aa qa0 0).bind fun x45=>(jD x45).bind fun (l56,i57)=>(subL qa0 1 (qa0.length:Int)).bind fun y65=>some ((l56,y65,i57)))
def AT:Hn Tryd.prog := .tw 10 .nil (.cl AU [] .nil)
def Aq:Spec:=⟨97,⟨[(0,.ptr 0 0),(1,.fn 7 [])],[bkN 105 [.dat (.sl .str),.dat Yq1]]⟩,[⟨[(0,.agg [.own 51 Yq2])],[bkC 0 105 [.dat (.sl .str),.dat Yq1]]⟩],fun x=>jr x.1 x.2⟩
def yB:OkSpec Tryd.prog:=⟨Aq,aj func97 AT (by kernel_rfl) (by kernel_rfl),call97⟩

def cj (qa0:(List Tq4)) (qa1:Int):Option ((Tq3×(List Tq4)×Int)) :=
 (jr qa0 qa1).bind fun (l30,l31,i33)=>some ((l30,l31,i33))
def yn:Hn Tryd.prog := .cl yB [] .nil
def yg:Spec:=⟨81,⟨[(0,.ptr 0 0)],[bkN 105 [.dat (.sl .str),.dat Yq1]]⟩,[⟨[(0,.agg [.own 51 Yq2])],[bkC 0 105 [.dat (.sl .str),.dat Yq1]]⟩],fun x=>cj x.1 x.2⟩
def jk:OkSpec Tryd.prog:=⟨yg,aj func81 yn (by kernel_rfl) (by kernel_rfl),call81⟩

def sP (xb:Tq4) (qa0:Int) (qa1:Int) (qa2:Tq5) (qa4:Tq3) (qa5:(List Tq2)) (qa6:(List Tq1)) (qa7:Int) (qb0:(List Tq4)) (qb1:Int):Option Tq9 :=
 cond (decide (xb=([114,101,103,105,111,110,115]:List UInt8))) ((bq qb0 qb1).bind fun (i3,l9,i10)=>(bq l9 i10).bind fun (i11,l12,i13)=>some ((i3,i11,qa2,[],qa4,qa5,qa6,1,l12,i13))) (cond (decide (xb=([98,111,117,110,100,115]:List UInt8))) ((dN qb0 qb1).bind fun (l14,l15,i16)=>some ((qa0,qa1,l14,[],qa4,qa5,qa6,2,l15,i16))) (cond (decide (xb=([108,111,99,97,108]:List UInt8))) ((cj qb0 qb1).bind fun (l17,l18,i19)=>(app (([]:List Tq3)) (([l17]:List Tq3))).bind fun z20=>some ((qa0,qa1,qa2,z20,qa4,qa5,qa6,qa7,l18,i19))) (cond (decide (xb=([103,105,118,101,115]:List UInt8))) ((cj qb0 qb1).bind fun (l21,l22,i23)=>some ((qa0,qa1,qa2,[],l21,qa5,qa6,3,l22,i23))) (cond (decide (xb=([115,105,103]:List UInt8))) ((bq qb0 qb1).bind fun (i24,l25,i26)=>(cj l25 i26).bind fun (l27,l28,i29)=>(app (qa5:List Tq2) (([(i24,[],[],l27)]:List Tq2):List Tq2)).bind fun z30=>some ((qa0,qa1,qa2,[],qa4,z30,qa6,4,l28,i29))) (cond (decide (xb=([110,101,101,100,115]:List UInt8))) ((dN qb0 qb1).bind fun (l31,l32,i33)=>(aa qa5 (IntKind.wrap .i64 ((qa5.length:Int) - 1))).bind fun _=>(aa qa5 (IntKind.wrap .i64 ((qa5.length:Int) - 1))).bind fun x34=>(ay (IntKind.wrap .i64 ((qa5.length:Int) - 1)) (IntKind.wrap .i64 ((qa5.length:Int) - 1))).bind fun _=>some ((qa0,qa1,qa2,[],qa4,qa5.set (IntKind.wrap .i64 ((qa5.length:Int) - 1)).toNat (x34.1,l31,x34.2.2.1,x34.2.2.2),qa6,5,l32,i33))) (cond (decide (xb=([97,114,103]:List UInt8))) ((aa qa5 (IntKind.wrap .i64 ((qa5.length:Int) - 1))).bind fun _=>(((aa qa5 (IntKind.wrap .i64 ((qa5.length:Int) - 1))).bind fun x35=>(ay (IntKind.wrap .i64 ((qa5.length:Int) - 1)) (IntKind.wrap .i64 ((qa5.length:Int) - 1))).bind fun _=>(cj qb0 qb1).bind fun (l36,l37,i38)=>(app x35.2.2.1 (([l36]:List Tq3))).bind fun z39=>(ay (IntKind.wrap .i64 ((qa5.length:Int) - 1)) (IntKind.wrap .i64 ((qa5.length:Int) - 1))).bind fun _=>some ((l37,i38,qa5.set (IntKind.wrap .i64 ((qa5.length:Int) - 1)).toNat (x35.1,x35.2.1,z39,x35.2.2.2)))).bind fun x40=>((cj qb0 qb1).bind fun (l41,l42,i43)=>((aa qa5 (IntKind.wrap .i64 ((qa5.length:Int) - 1))).bind fun x44=>(ay (IntKind.wrap .i64 ((qa5.length:Int) - 1)) (IntKind.wrap .i64 ((qa5.length:Int) - 1))).bind fun _=>(app x44.2.2.1 (([l41]:List Tq3))).bind fun z45=>(ay (IntKind.wrap .i64 ((qa5.length:Int) - 1)) (IntKind.wrap .i64 ((qa5.length:Int) - 1))).bind fun _=>some ((l42,i43,qa5.set (IntKind.wrap .i64 ((qa5.length:Int) - 1)).toNat (x44.1,x44.2.1,z45,x44.2.2.2)))).bind fun x46=>((aa qa5 (IntKind.wrap .i64 ((qa5.length:Int) - 1))).bind fun x47=>(ay (IntKind.wrap .i64 ((qa5.length:Int) - 1)) (IntKind.wrap .i64 ((qa5.length:Int) - 1))).bind fun _=>(app x47.2.2.1 (([l41]:List Tq3))).bind fun z48=>(ay (IntKind.wrap .i64 ((qa5.length:Int) - 1)) (IntKind.wrap .i64 ((qa5.length:Int) - 1))).bind fun _=>some ((l42,i43,qa5.set (IntKind.wrap .i64 ((qa5.length:Int) - 1)).toNat (x47.1,x47.2.1,z48,x47.2.2.2)))).bind fun y49=>agr x46 y49 (some x46)).bind fun y50=>agr x40 y50 (some x40):Option (((List Tq4)×Int×(List Tq2)))).bind fun (l51,i52,l53)=>some ((qa0,qa1,qa2,[],qa4,l53,qa6,qa7,l51,i52))) (cond (decide (xb=([98,108,111,99,107]:List UInt8))) ((app (qa6:List Tq1) (([([],(0,0,0,[],[],[]))]:List Tq1):List Tq1)).bind fun z54=>some ((qa0,qa1,qa2,[],qa4,qa5,z54,6,qb0,qb1))) (some ((qa0,qa1,qa2,[],qa4,qa5,qa6,qa7,qb0,qb1))))))))))
def fn_text_parser_line_p0k_iirnrododi (xb:(List Tq4)) (qa0:Int) (qa1:Int) (qa2:Tq5) (qa4:Tq3) (qa5:(List Tq2)) (qa6:(List Tq1)) (qa7:Int):Option ((Int×Int×Int×Tq5×(List Tq3)×Tq3×(List Tq2)×(List Tq1)×Int)) :=
 (aa xb 0).bind fun x3=>(aN x3).bind fun (i9,i10)=>(aa xb 0).bind fun x11=>(sR x11 qa0 qa1 qa2 qa4 qa5 qa6 qa7).bind fun (t12,l13,l14,l15,l16)=>cond (((!t12)||(decide ((xb.length:Int) < i9)))||(decide (i10 < (xb.length:Int)))) (some ((3,qa0,qa1,l13,[],l14,l15,l16,qa7))) ((subL xb 1 (xb.length:Int)).bind fun y17=>(cond (decide (qa7=6)) ((sQ xb qa0 qa1 l13 l14 l15 l16 qa7 y17 0).bind fun (l18,l19,l20,l21,i22,l23,i24)=>some ((qa0,qa1,l18,[],l19,l20,l21,i22,l23,i24))) ((aa xb 0).bind fun x25=>(sP x25 qa0 qa1 l13 l14 l15 l16 qa7 y17 0).bind fun (i26,i27,l28,l29,l30,l31,l32,i33,l34,i35)=>some ((i26,i27,l28,l29,l30,l31,l32,i33,l34,i35))):Option Tq9).bind fun (i36,i37,l38,l39,l40,l41,l42,i43,l44,i45)=>some ((i45,i36,i37,l38,l39,l40,l41,l42,i43)))
def jt (xb:Tq4) (qa0:Int) (qa1:Int) (qa2:Tq5) (qa3:(List Tq3)) (qa4:Tq3) (qa5:(List Tq2)) (qa6:(List Tq1)) (qa7:Int):Option ((Bool×Tq5×(List Tq3)×Tq3×(List Tq2)×(List Tq1))) :=
 cond (decide (qa7=0)) ((bg (([([114,101,103,105,111,110,115]:List UInt8)]:List Tq4)) xb).bind fun t9=>some ((t9,qa2,qa3,qa4,qa5,qa6))) (cond (decide (qa7=1)) ((bg (([([98,111,117,110,100,115]:List UInt8)]:List Tq4)) xb).bind fun t10=>some ((t10,qa2,qa3,qa4,qa5,qa6))) (cond (decide (qa7=2)) ((bg (([([108,111,99,97,108]:List UInt8),([103,105,118,101,115]:List UInt8)]:List Tq4)) xb).bind fun t11=>some ((t11,qa2,qa3,qa4,qa5,qa6))) (cond (decide (qa7=3)) ((bg (([([115,105,103]:List UInt8),([98,108,111,99,107]:List UInt8)]:List Tq4)) xb).bind fun t12=>some ((t12,qa2,qa3,qa4,qa5,qa6))) (cond (decide (qa7=4)) ((bg (([([110,101,101,100,115]:List UInt8)]:List Tq4)) xb).bind fun t13=>some ((t13,qa2,qa3,qa4,qa5,qa6))) (cond (decide (qa7=5)) ((bg (([([97,114,103]:List UInt8),([115,105,103]:List UInt8),([98,108,111,99,107]:List UInt8)]:List Tq4)) xb).bind fun t14=>some ((t14,qa2,qa3,qa4,qa5,qa6))) (cond (decide (qa7=6)) ((bg (([([110,111,112]:List UInt8),([97,115,115,105,103,110]:List UInt8),([98,111,114,114,111,119]:List UInt8),([114,101,98,111,114,114,111,119]:List UInt8),([117,115,101]:List UInt8),([100,101,97,100]:List UInt8),([103,111,116,111]:List UInt8),([115,119,105,116,99,104]:List UInt8),([114,101,116,117,114,110]:List UInt8),([99,97,108,108]:List UInt8)]:List Tq4)) xb).bind fun t15=>some ((t15,qa2,qa3,qa4,qa5,qa6))) (cond (decide (qa7=7)) ((bg (([([98,108,111,99,107]:List UInt8)]:List Tq4)) xb).bind fun t16=>some ((t16,qa2,qa3,qa4,qa5,qa6))) ((bg ([]) xb).bind fun t17=>some ((t17,qa2,qa3,qa4,qa5,qa6))))))))))
def Av:Hn Tryd.prog := .tw 10 (.cl d9 [15] .nil) (.tw 13 (.cl d9 [15] .nil) (.tw 16 (.cl d9 [15] .nil) (.tw 19 (.cl d9 [15] .nil) (.tw 22 (.cl d9 [15] .nil) (.tw 25 (.cl d9 [15] .nil) (.tw 28 (.cl d9 [15] .nil) (.tw 31 (.cl d9 [15] .nil) (.cl d9 [] .nil))))))))
def zk:Spec:=⟨58,⟨[(0,.ptr 0 0),(1,.dat .str)],[bkN 65 [.is 1 (.dat Yq1),.is 2 (.dat Yq1),.own 117 Yq5,.own 24 Yq4,.own 51 Yq2,.od (.row 84 (.cons (.dat Yq1) (.cons (.dat (.sl Yq5)) (.cons (.row 24 (.dat Yq4)) (.one (.dat Yq4)))))),.od (.row 79 (.cons (.row 26 (.dat Yq6)) (.one (.dat Yq3)))),.is 3 (.dat Yq1)],bkM,bkM,bkM]⟩,[⟨[kdB 0],[bkC 0 65 [.is 1 (.any),.is 2 (.any),.own 117 Yq5,.own 24 Yq4,.own 51 Yq2,.od (.row 84 (.cons (.dat Yq1) (.cons (.dat (.sl Yq5)) (.cons (.row 24 (.dat Yq4)) (.one (.dat Yq4)))))),.od (.row 79 (.cons (.row 26 (.dat Yq6)) (.one (.dat Yq3)))),.is 3 (.any)],bkU 1,bkU 2,bkU 3]⟩],fun x=>jt x.1 x.2.1 x.2.2.1 x.2.2.2.1 x.2.2.2.2.1 x.2.2.2.2.2.1 x.2.2.2.2.2.2.1 x.2.2.2.2.2.2.2.1 x.2.2.2.2.2.2.2.2⟩
def Ah:OkSpec Tryd.prog:=⟨zk,aj func58 Av (by kernel_rfl) (by kernel_rfl),call58⟩

def c7 (xb:(List Tq4)) (qa0:Int) (qa1:Int) (qa2:Tq5) (qa3:(List Tq3)) (qa4:Tq3) (qa5:(List Tq2)) (qa6:(List Tq1)) (qa7:Int) (qb0:(List Tq4)) (qb1:Int):Option ((Tq5×(List Tq3)×Tq3×(List Tq2)×(List Tq1)×Int×(List Tq4)×Int)) :=
 (aa qa6 (IntKind.wrap .i64 ((qa6.length:Int) - 1))).bind fun _=>(aa xb 0).bind fun x9=>(cx x9 qb0 qb1).bind fun (i10,i11,i12,l13,l14,l15,t16,l17,i18)=>cond (t16) ((aa qa6 (IntKind.wrap .i64 ((qa6.length:Int) - 1))).bind fun x19=>(ay (IntKind.wrap .i64 ((qa6.length:Int) - 1)) (IntKind.wrap .i64 ((qa6.length:Int) - 1))).bind fun _=>some ((qa2,qa3,qa4,qa5,qa6.set (IntKind.wrap .i64 ((qa6.length:Int) - 1)).toNat ((x19.1,(i10,i11,i12,l13,l14,l15))),7,l17,i18))) ((((aa qa6 (IntKind.wrap .i64 ((qa6.length:Int) - 1))).bind fun x20=>(ay (IntKind.wrap .i64 ((qa6.length:Int) - 1)) (IntKind.wrap .i64 ((qa6.length:Int) - 1))).bind fun _=>(b6 xb l17 i18).bind fun (i21,i22,i23,i24,t25,l26,i27)=>(app x20.1 (([(i21,i22,i23,i24,t25)]:List dL))).bind fun z28=>(ay (IntKind.wrap .i64 ((qa6.length:Int) - 1)) (IntKind.wrap .i64 ((qa6.length:Int) - 1))).bind fun _=>some ((l26,i27,qa6.set (IntKind.wrap .i64 ((qa6.length:Int) - 1)).toNat ((z28,(x20.2.1,x20.2.2.1,x20.2.2.2.1,x20.2.2.2.2.1,x20.2.2.2.2.2.1,x20.2.2.2.2.2.2)))))).bind fun x29=>((b6 xb l17 i18).bind fun (i30,i31,i32,i33,t34,l35,i36)=>((aa qa6 (IntKind.wrap .i64 ((qa6.length:Int) - 1))).bind fun x37=>(ay (IntKind.wrap .i64 ((qa6.length:Int) - 1)) (IntKind.wrap .i64 ((qa6.length:Int) - 1))).bind fun _=>(app x37.1 (([(i30,i31,i32,i33,t34)]:List dL))).bind fun z38=>(ay (IntKind.wrap .i64 ((qa6.length:Int) - 1)) (IntKind.wrap .i64 ((qa6.length:Int) - 1))).bind fun _=>some ((l35,i36,qa6.set (IntKind.wrap .i64 ((qa6.length:Int) - 1)).toNat ((z38,(x37.2.1,x37.2.2.1,x37.2.2.2.1,x37.2.2.2.2.1,x37.2.2.2.2.2.1,x37.2.2.2.2.2.2)))))).bind fun x39=>((aa qa6 (IntKind.wrap .i64 ((qa6.length:Int) - 1))).bind fun x40=>(ay (IntKind.wrap .i64 ((qa6.length:Int) - 1)) (IntKind.wrap .i64 ((qa6.length:Int) - 1))).bind fun _=>(app x40.1 (([(i30,i31,i32,i33,t34)]:List dL))).bind fun z41=>(ay (IntKind.wrap .i64 ((qa6.length:Int) - 1)) (IntKind.wrap .i64 ((qa6.length:Int) - 1))).bind fun _=>some ((l35,i36,qa6.set (IntKind.wrap .i64 ((qa6.length:Int) - 1)).toNat ((z41,(x40.2.1,x40.2.2.1,x40.2.2.2.1,x40.2.2.2.2.1,x40.2.2.2.2.2.1,x40.2.2.2.2.2.2)))))).bind fun y42=>agr x39 y42 (some x39)).bind fun y43=>agr x29 y43 (some x29):Option (((List Tq4)×Int×(List Tq1)))).bind fun (l44,i45,l46)=>some ((qa2,qa3,qa4,qa5,l46,qa7,l44,i45)))
def AS:Hn Tryd.prog := .mix [] [0,1,2,3,4,5,6,7,8,9,10,11,12,13] [] [] (.cl zl [] (.tw 30 (.wt 34 (.opn 12 1000020 (.per 17 18 (.per 19 20 (.per 21 22 (.cls 12 30 .nil)))))) (.tr (.still [0,1,2,3,5,6] (.alt 4 (.alt 7 (.alt 8 (.alt 9 (.still [10,11] (.alt 12 (.leaf []) .done)) .done) .done) .done) (.alt 7 (.alt 4 (.alt 8 (.alt 9 (.still [10,11] (.alt 12 (.leaf []) .done)) .done) .done) (.alt 8 (.alt 4 (.alt 9 (.still [10,11] (.alt 12 (.leaf []) .done)) .done) .done) .done)) .done))) ⟨[],[bkC 1 105 [.dat (.sl .str),.dat Yq1],bkO 12 (.row 79 (.cons (.row 26 (.dat Yq6)) (.one (.dat Yq3))))]⟩ [1,12] (.two 0 (.wt 41 (.opn 12 1000020 (.cl sH [] (.cls 12 36 .nil)))) (.cl sH [] (.two 0 (.wt 41 (.opn 12 1000020 (.cls 12 36 .nil))) (.wt 41 (.opn 12 1000020 (.cls 12 36 .nil)))))) .nil)))
def yw:Spec:=⟨59,⟨[(0,.ptr 0 0),(1,.dat (.sl .str)),(2,.ptr 1 0)],[bkN 65 [.is 2 (.dat Yq1),.is 3 (.dat Yq1),.own 117 Yq5,.own 24 Yq4,.own 51 Yq2,.od (.row 84 (.cons (.dat Yq1) (.cons (.dat (.sl Yq5)) (.cons (.row 24 (.dat Yq4)) (.one (.dat Yq4)))))),.od (.row 79 (.cons (.row 26 (.dat Yq6)) (.one (.dat Yq3)))),.dat Yq1],bkN 105 [.dat (.sl .str),.dat Yq1],bkM,bkM]⟩,[⟨[],[bkC 0 65 [.is 2 (.any),.is 3 (.any),.own 117 Yq5,.own 24 Yq4,.own 51 Yq2,.od (.row 84 (.cons (.dat Yq1) (.cons (.dat (.sl Yq5)) (.cons (.row 24 (.dat Yq4)) (.one (.dat Yq4)))))),.od (.row 79 (.cons (.row 26 (.dat Yq6)) (.one (.dat Yq3)))),.dat Yq1],bkC 1 105 [.dat (.sl .str),.dat Yq1],bkU 2,bkU 3]⟩],fun x=>c7 x.1 x.2.1 x.2.2.1 x.2.2.2.1 x.2.2.2.2.1 x.2.2.2.2.2.1 x.2.2.2.2.2.2.1 x.2.2.2.2.2.2.2.1 x.2.2.2.2.2.2.2.2.1 x.2.2.2.2.2.2.2.2.2.1 x.2.2.2.2.2.2.2.2.2.2⟩
def AZ:OkSpec Tryd.prog:=⟨yw,aj func59 AS (by kernel_rfl) (by kernel_rfl),call59⟩

def aM (xb:Tq4) (qa0:Int) (qa1:Int) (qa2:Tq5) (qa3:(List Tq3)) (qa4:Tq3) (qa5:(List Tq2)) (qa6:(List Tq1)) (qa7:Int) (qb0:(List Tq4)) (qb1:Int):Option Tq9 :=
 cond (decide (xb=([114,101,103,105,111,110,115]:List UInt8))) ((bq qb0 qb1).bind fun (i9,l10,i11)=>(bq l10 i11).bind fun (i12,l13,i14)=>some ((i9,i12,qa2,qa3,qa4,qa5,qa6,1,l13,i14))) (cond (decide (xb=([98,111,117,110,100,115]:List UInt8))) ((dN qb0 qb1).bind fun (l15,l16,i17)=>some ((qa0,qa1,l15,qa3,qa4,qa5,qa6,2,l16,i17))) (cond (decide (xb=([108,111,99,97,108]:List UInt8))) ((cj qb0 qb1).bind fun (l18,l19,i20)=>(app qa3 (([l18]:List Tq3))).bind fun z21=>some ((qa0,qa1,qa2,z21,qa4,qa5,qa6,qa7,l19,i20))) (cond (decide (xb=([103,105,118,101,115]:List UInt8))) ((cj qb0 qb1).bind fun (l22,l23,i24)=>some ((qa0,qa1,qa2,qa3,l22,qa5,qa6,3,l23,i24))) (cond (decide (xb=([115,105,103]:List UInt8))) ((bq qb0 qb1).bind fun (i25,l26,i27)=>(cj l26 i27).bind fun (l28,l29,i30)=>(app (qa5:List Tq2) (([(i25,[],[],l28)]:List Tq2):List Tq2)).bind fun z31=>some ((qa0,qa1,qa2,qa3,qa4,z31,qa6,4,l29,i30))) (cond (decide (xb=([110,101,101,100,115]:List UInt8))) ((dN qb0 qb1).bind fun (l32,l33,i34)=>(aa qa5 (IntKind.wrap .i64 ((qa5.length:Int) - 1))).bind fun _=>(aa qa5 (IntKind.wrap .i64 ((qa5.length:Int) - 1))).bind fun x35=>(ay (IntKind.wrap .i64 ((qa5.length:Int) - 1)) (IntKind.wrap .i64 ((qa5.length:Int) - 1))).bind fun _=>some ((qa0,qa1,qa2,qa3,qa4,qa5.set (IntKind.wrap .i64 ((qa5.length:Int) - 1)).toNat (x35.1,l32,x35.2.2.1,x35.2.2.2),qa6,5,l33,i34))) (cond (decide (xb=([97,114,103]:List UInt8))) ((aa qa5 (IntKind.wrap .i64 ((qa5.length:Int) - 1))).bind fun _=>(((aa qa5 (IntKind.wrap .i64 ((qa5.length:Int) - 1))).bind fun x36=>(ay (IntKind.wrap .i64 ((qa5.length:Int) - 1)) (IntKind.wrap .i64 ((qa5.length:Int) - 1))).bind fun _=>(cj qb0 qb1).bind fun (l37,l38,i39)=>(app x36.2.2.1 (([l37]:List Tq3))).bind fun z40=>(ay (IntKind.wrap .i64 ((qa5.length:Int) - 1)) (IntKind.wrap .i64 ((qa5.length:Int) - 1))).bind fun _=>some ((l38,i39,qa5.set (IntKind.wrap .i64 ((qa5.length:Int) - 1)).toNat (x36.1,x36.2.1,z40,x36.2.2.2)))).bind fun x41=>((cj qb0 qb1).bind fun (l42,l43,i44)=>((aa qa5 (IntKind.wrap .i64 ((qa5.length:Int) - 1))).bind fun x45=>(ay (IntKind.wrap .i64 ((qa5.length:Int) - 1)) (IntKind.wrap .i64 ((qa5.length:Int) - 1))).bind fun _=>(app x45.2.2.1 (([l42]:List Tq3))).bind fun z46=>(ay (IntKind.wrap .i64 ((qa5.length:Int) - 1)) (IntKind.wrap .i64 ((qa5.length:Int) - 1))).bind fun _=>some ((l43,i44,qa5.set (IntKind.wrap .i64 ((qa5.length:Int) - 1)).toNat (x45.1,x45.2.1,z46,x45.2.2.2)))).bind fun x47=>((aa qa5 (IntKind.wrap .i64 ((qa5.length:Int) - 1))).bind fun x48=>(ay (IntKind.wrap .i64 ((qa5.length:Int) - 1)) (IntKind.wrap .i64 ((qa5.length:Int) - 1))).bind fun _=>(app x48.2.2.1 (([l42]:List Tq3))).bind fun z49=>(ay (IntKind.wrap .i64 ((qa5.length:Int) - 1)) (IntKind.wrap .i64 ((qa5.length:Int) - 1))).bind fun _=>some ((l43,i44,qa5.set (IntKind.wrap .i64 ((qa5.length:Int) - 1)).toNat (x48.1,x48.2.1,z49,x48.2.2.2)))).bind fun y50=>agr x47 y50 (some x47)).bind fun y51=>agr x41 y51 (some x41):Option (((List Tq4)×Int×(List Tq2)))).bind fun (l52,i53,l54)=>some ((qa0,qa1,qa2,qa3,qa4,l54,qa6,qa7,l52,i53))) (cond (decide (xb=([98,108,111,99,107]:List UInt8))) ((app (qa6:List Tq1) (([([],(0,0,0,[],[],[]))]:List Tq1):List Tq1)).bind fun z55=>some ((qa0,qa1,qa2,qa3,qa4,qa5,z55,6,qb0,qb1))) (some ((qa0,qa1,qa2,qa3,qa4,qa5,qa6,qa7,qb0,qb1))))))))))
def zb:Hn Tryd.prog := .tw 13 (.cl c6 [] (.cl c6 [] .nil)) (.tw 28 (.cl sw [] .nil) (.tw 38 (.mix [([0,1,2,3,4,5],6),([],7),([],8)] [9,10] [11] [4,1] (.cl jk [] (.per 15 16 .nil))) (.tw 51 (.cl jk [] .nil) (.tw 61 (.cl c6 [] (.cl jk [] (.per 20 21 (.mix [([0,1,2,3,4,5],6),([],7)] [8,9] [10] [8] (.ot (.cons (.dat Yq1) (.cons (.dat (.sl Yq5)) (.cons (.row 24 (.dat Yq4)) (.one (.dat Yq4))))) (.ot (.cons (.dat Yq1) (.cons (.dat (.sl Yq5)) (.cons (.row 24 (.dat Yq4)) (.one (.dat Yq4))))) .nil)))))) (.tw 82 (.mix [([0,1,2,3,4,5,6,7,8,9,10],11)] [12,13] [14] [1] (.cl sw [] (.wt 97 (.opn 8 1000093 (.per 15 16 (.cls 8 21 .nil)))))) (.tw 101 (.mix [] [0,1,2,3,4,5,6,7,8,9,10,11] [] [] (.tr (.still [0,1,2,3,5] (.alt 4 (.alt 6 (.alt 7 (.alt 8 (.still [9,10] (.alt 11 (.leaf []) .done)) .done) .done) .done) (.alt 6 (.alt 4 (.alt 7 (.alt 8 (.still [9,10] (.alt 11 (.leaf []) .done)) .done) .done) (.alt 7 (.alt 4 (.alt 8 (.still [9,10] (.alt 11 (.leaf []) .done)) .done) .done) .done)) .done))) ⟨[],[bkC 1 105 [.dat (.sl .str),.dat Yq1],bkO 8 (.row 84 (.cons (.dat Yq1) (.cons (.dat (.sl Yq5)) (.cons (.row 24 (.dat Yq4)) (.one (.dat Yq4))))))]⟩ [1,8] (.two 0 (.wt 117 (.opn 8 1000112 (.cl jk [] (.per 18 19 (.cls 8 25 .nil))))) (.cl jk [] (.two 0 (.wt 117 (.opn 8 1000112 (.per 15 16 (.cls 8 25 .nil)))) (.per 15 16 (.wt 117 (.opn 8 1000112 (.cls 8 25 .nil))))))) .nil)) (.tw 125 (.ot (.cons (.row 26 (.dat Yq6)) (.one (.dat Yq3))) (.ot (.cons (.row 26 (.dat Yq6)) (.one (.dat Yq3))) .nil)) .nil)))))))
def A0:Spec:=⟨60,⟨[(0,.ptr 0 0),(1,.dat .str),(2,.ptr 1 0)],[bkN 65 [.dat Yq1,.dat Yq1,.own 117 Yq5,.own 24 Yq4,.own 51 Yq2,.od (.row 84 (.cons (.dat Yq1) (.cons (.dat (.sl Yq5)) (.cons (.row 24 (.dat Yq4)) (.one (.dat Yq4)))))),.od (.row 79 (.cons (.row 26 (.dat Yq6)) (.one (.dat Yq3)))),.dat Yq1],bkN 105 [.dat (.sl .str),.dat Yq1]]⟩,[⟨[],[bkC 0 65 [.dat Yq1,.dat Yq1,.own 117 Yq5,.own 24 Yq4,.own 51 Yq2,.od (.row 84 (.cons (.dat Yq1) (.cons (.dat (.sl Yq5)) (.cons (.row 24 (.dat Yq4)) (.one (.dat Yq4)))))),.od (.row 79 (.cons (.row 26 (.dat Yq6)) (.one (.dat Yq3)))),.dat Yq1],bkC 1 105 [.dat (.sl .str),.dat Yq1]]⟩],fun x=>aM x.1 x.2.1 x.2.2.1 x.2.2.2.1 x.2.2.2.2.1 x.2.2.2.2.2.1 x.2.2.2.2.2.2.1 x.2.2.2.2.2.2.2.1 x.2.2.2.2.2.2.2.2.1 x.2.2.2.2.2.2.2.2.2.1 x.2.2.2.2.2.2.2.2.2.2⟩
def zH:OkSpec Tryd.prog:=⟨A0,aj func60 zb (by kernel_rfl) (by kernel_rfl),call60⟩

def dn (xb:(List Tq4)) (qa0:Int) (qa1:Int) (qa2:Tq5) (qa3:(List Tq3)) (qa4:Tq3) (qa5:(List Tq2)) (qa6:(List Tq1)) (qa7:Int):Option ((Int×Int×Int×Tq5×(List Tq3)×Tq3×(List Tq2)×(List Tq1)×Int)) :=
 (aa xb 0).bind fun x9=>(aN x9).bind fun (i10,i11)=>(aa xb 0).bind fun x12=>(jt x12 qa0 qa1 qa2 qa3 qa4 qa5 qa6 qa7).bind fun (t13,l14,l15,l16,l17,l18)=>cond (((!t13)||(decide ((xb.length:Int) < i10)))||(decide (i11 < (xb.length:Int)))) (some ((3,qa0,qa1,l14,l15,l16,l17,l18,qa7))) ((subL xb 1 (xb.length:Int)).bind fun y19=>(cond (decide (qa7=6)) ((c7 xb qa0 qa1 l14 l15 l16 l17 l18 qa7 y19 0).bind fun (l20,l21,l22,l23,l24,i25,l26,i27)=>some ((qa0,qa1,l20,l21,l22,l23,l24,i25,l26,i27))) ((aa xb 0).bind fun x28=>(aM x28 qa0 qa1 l14 l15 l16 l17 l18 qa7 y19 0).bind fun (i29,i30,l31,l32,l33,l34,l35,i36,l37,i38)=>some ((i29,i30,l31,l32,l33,l34,l35,i36,l37,i38))):Option Tq9).bind fun (i39,i40,l41,l42,l43,l44,l45,i46,l47,i48)=>some ((i48,i39,i40,l41,l42,l43,l44,l45,i46)))
def AH:Hn Tryd.prog := .cl oQ8 [] (.mc 0 0 11 (.mc 0 1 11 (.mc 0 7 11 (.cl Ah [] (.gp 4 (.wt 27 (.gp 4 (.tw 32 .nil (.pl (.sq [] ⟨[],[bkC 0 65 [.dat Yq1,.dat Yq1,.own 117 Yq5,.own 24 Yq4,.own 51 Yq2,.od (.row 84 (.cons (.dat Yq1) (.cons (.dat (.sl Yq5)) (.cons (.row 24 (.dat Yq4)) (.one (.dat Yq4)))))),.od (.row 79 (.cons (.row 26 (.dat Yq6)) (.one (.dat Yq3)))),.dat Yq1],bkC 37 105 [.dat (.sl .str),.dat Yq1]]⟩ [37,30,28,26,0,32,34] (.tw 41 (.cl AZ [] .nil) (.cl zH [] .nil)) .nil))))))))))
def Az:Spec:=⟨36,⟨[(0,.ptr 0 0),(1,.dat (.sl .str))],[bkN 65 [.dat Yq1,.dat Yq1,.own 117 Yq5,.own 24 Yq4,.own 51 Yq2,.od (.row 84 (.cons (.dat Yq1) (.cons (.dat (.sl Yq5)) (.cons (.row 24 (.dat Yq4)) (.one (.dat Yq4)))))),.od (.row 79 (.cons (.row 26 (.dat Yq6)) (.one (.dat Yq3)))),.dat Yq1]]⟩,[⟨[kdI 0],[bkC 0 65 [.dat Yq1,.dat Yq1,.own 117 Yq5,.own 24 Yq4,.own 51 Yq2,.od (.row 84 (.cons (.dat Yq1) (.cons (.dat (.sl Yq5)) (.cons (.row 24 (.dat Yq4)) (.one (.dat Yq4)))))),.od (.row 79 (.cons (.row 26 (.dat Yq6)) (.one (.dat Yq3)))),.dat Yq1]]⟩],fun x=>dn x.1 x.2.1 x.2.2.1 x.2.2.2.1 x.2.2.2.2.1 x.2.2.2.2.2.1 x.2.2.2.2.2.2.1 x.2.2.2.2.2.2.2.1 x.2.2.2.2.2.2.2.2⟩
def nO:OkSpec Tryd.prog:=⟨Az,aj func36 AH (by kernel_rfl) (by kernel_rfl),call36⟩

def fP (qa0:Int) (qa1:Int) (qa2:Tq5) (qa3:(List Tq3)) (qa4:Tq3) (qa5:(List Tq2)) (qa6:(List Tq1)) (qa7:Int):Option ((Bool×Tq5×(List Tq3)×Tq3×(List Tq2)×(List Tq1))) :=
 some ((((decide (qa7=3))||(decide (qa7=5)))||(decide (qa7=7)),qa2,qa3,qa4,qa5,qa6))
def A6:Hn Tryd.prog := .gp 5 (.wt 15 (.gp 5 .nil))
def yY:Spec:=⟨37,⟨[(0,.ptr 0 0)],[bkN 65 [.is 1 (.dat Yq1),.is 2 (.dat Yq1),.own 117 Yq5,.own 24 Yq4,.own 51 Yq2,.od (.row 84 (.cons (.dat Yq1) (.cons (.dat (.sl Yq5)) (.cons (.row 24 (.dat Yq4)) (.one (.dat Yq4)))))),.od (.row 79 (.cons (.row 26 (.dat Yq6)) (.one (.dat Yq3)))),.is 3 (.dat Yq1)],bkM,bkM,bkM]⟩,[⟨[kdB 0],[bkC 0 65 [.is 1 (.any),.is 2 (.any),.own 117 Yq5,.own 24 Yq4,.own 51 Yq2,.od (.row 84 (.cons (.dat Yq1) (.cons (.dat (.sl Yq5)) (.cons (.row 24 (.dat Yq4)) (.one (.dat Yq4)))))),.od (.row 79 (.cons (.row 26 (.dat Yq6)) (.one (.dat Yq3)))),.is 3 (.any)],bkU 1,bkU 2,bkU 3]⟩],fun x=>fP x.1 x.2.1 x.2.2.1 x.2.2.2.1 x.2.2.2.2.1 x.2.2.2.2.2.1 x.2.2.2.2.2.2.1 x.2.2.2.2.2.2.2⟩
def n4:OkSpec Tryd.prog:=⟨yY,aj func37 A6 (by kernel_rfl) (by kernel_rfl),call37⟩
def sZ  : Tq6→Option (Tq6⊕(Tq6⊕Tq7)):=fun (i1,i2,l3,l4,l5,l6,l7,i9,i10,s11)=>cond (decide (0 < (s11.length:Int))) ((sS s11).bind fun (v12,v13)=>(subL s11 0 v13).bind fun y14=>(cZ y14 ([32]:List UInt8)).bind fun l15=>(fO l15).bind fun l16=>(cond (decide ((l16.length:Int)=0)) (some (true)) ((aa l16 0).bind fun x17=>(eh x17 ([35]:List UInt8)).bind fun t18=>some (t18))).bind fun t19=>cond (t19) ((subL s11 v13 (s11.length:Int)).bind fun y20=>some (.inl ((i1,i2,l3,l4,l5,l6,l7,i9,IntKind.wrap .i64 (i10 + 1),y20)))) ((dn l16 i1 i2 l3 l4 l5 l6 l7 i9).bind fun (i21,i22,i23,l24,l25,l26,l27,l28,i29)=>cond (!decide (i21=0)) (some (.inr ((.inr ((0,0,[],[],[],[],[],IntKind.wrap .i64 (i10 + 1),i21)))))) ((subL s11 v13 (s11.length:Int)).bind fun y30=>some (.inl ((i22,i23,l24,l25,l26,l27,l28,i29,IntKind.wrap .i64 (i10 + 1),y30)))))) (some (.inr ((.inl (i1,i2,l3,l4,l5,l6,l7,i9,i10,s11)))))
def eW (s1:List UInt8) (i2:Int):Tq6→Option (Tq6⊕(Tq6⊕Tq7)):=fun (i3,i4,l5,l6,l7,l9,l10,i11,i12,s13)=>(g8 s13 s1).bind fun i14=>cond (decide (i14 < 0)) (some (.inr ((.inl (i3,i4,l5,l6,l7,l9,l10,i11,i12,s13))))) ((subL s13 0 (IntKind.wrap .i64 (i14 + i2))).bind fun y15=>(cZ y15 ([32]:List UInt8)).bind fun l16=>(fO l16).bind fun l17=>(cond (decide ((l17.length:Int)=0)) (some (true)) ((aa l17 0).bind fun x18=>(eh x18 ([35]:List UInt8)).bind fun t19=>some (t19))).bind fun t20=>cond (t20) ((subL s13 (IntKind.wrap .i64 (i14 + (s1.length:Int))) (s13.length:Int)).bind fun y21=>some (.inl ((i3,i4,l5,l6,l7,l9,l10,i11,IntKind.wrap .i64 (i12 + 1),y21)))) ((dn l17 i3 i4 l5 l6 l7 l9 l10 i11).bind fun (i22,i23,i24,l25,l26,l27,l28,l29,i30)=>cond (!decide (i22=0)) (some (.inr ((.inr ((0,0,[],[],[],[],[],IntKind.wrap .i64 (i12 + 1),i22)))))) ((subL s13 (IntKind.wrap .i64 (i14 + (s1.length:Int))) (s13.length:Int)).bind fun y31=>some (.inl ((i23,i24,l25,l26,l27,l28,l29,i30,IntKind.wrap .i64 (i12 + 1),y31))))))
def fU (xa:Tq4):Option (Tq7) :=
 cond (decide (1048576 < (xa.length:Int))) (some ((0,0,[],[],[],[],[],0,5))) ((ly xa ([10]:List UInt8)).bind fun (s1,s2,i3)=>cond (decide ((s1.length:Int)=0)) ((loop (sZ) (0,0,[],[],[],[],[],0,0,s2)).bind fun o=>match o with | .inr r=>some r | .inl (i4,i5,l6,l7,l9,l10,l11,i12,i13,s14)=>(fP i4 i5 l6 l7 l9 l10 l11 i12).bind fun (t15,l16,l17,l18,l19,l20)=>cond (!t15) (some ((0,0,[],[],[],[],[],0,14))) (some ((i4,i5,l16,l17,l18,l19,l20,0,0)))) ((loop (eW s1 i3) (0,0,[],[],[],[],[],0,0,s2)).bind fun o=>match o with | .inr r=>some r | .inl (i21,i22,l23,l24,l25,l26,l27,i28,i29,s30)=>(cZ s30 ([32]:List UInt8)).bind fun l31=>(fO l31).bind fun l32=>(cond (decide ((l32.length:Int)=0)) (some (true)) ((aa l32 0).bind fun x33=>(eh x33 ([35]:List UInt8)).bind fun t34=>some (t34))).bind fun t35=>cond (t35) ((fP i21 i22 l23 l24 l25 l26 l27 i28).bind fun (t36,l37,l38,l39,l40,l41)=>cond (!t36) (some ((0,0,[],[],[],[],[],0,14))) (some ((i21,i22,l37,l38,l39,l40,l41,0,0)))) ((dn l32 i21 i22 l23 l24 l25 l26 l27 i28).bind fun (i42,i43,i44,l45,l46,l47,l48,l49,i50)=>cond (!decide (i42=0)) (some ((0,0,[],[],[],[],[],IntKind.wrap .i64 (i29 + 1),i42))) ((fP i43 i44 l45 l46 l47 l48 l49 i50).bind fun (t51,l52,l53,l54,l55,l56)=>cond (!t51) (some ((0,0,[],[],[],[],[],0,14))) (some ((i43,i44,l52,l53,l54,l55,l56,0,0)))))))
def zL:Hn Tryd.prog := .tw 12 .nil (.cl oQ1 [] (.rg ⟨74,_,func74,call74⟩ (.tw 11 (.jx [] ⟨[],[bkC 0 45 [.lit (.int .i64 0),.lit (.int .i64 0),.nils,.nils,.nils,.nils,.nils],bkC 2 3 [.lit (.int .i64 0)],bkC 4 32 [.lit (.int .i64 0)],bkC 6 65 [.dat Yq1,.dat Yq1,.own 117 Yq5,.own 24 Yq4,.own 51 Yq2,.od (.row 84 (.cons (.dat Yq1) (.cons (.dat (.sl Yq5)) (.cons (.row 24 (.dat Yq4)) (.one (.dat Yq4)))))),.od (.row 79 (.cons (.row 26 (.dat Yq6)) (.one (.dat Yq3)))),.dat Yq1],bkC 9 3 [.dat Yq1],bkC 13 9 [.dat .str],⟨(some 18),0,[],false,false,none,true⟩]⟩ [18,13,9,6,4,2,0] (.lp ⟨[],[bkC 0 45 [.lit (.int .i64 0),.lit (.int .i64 0),.nils,.nils,.nils,.nils,.nils],bkC 2 3 [.lit (.int .i64 0)],bkC 4 32 [.lit (.int .i64 0)],bkC 6 65 [.dat Yq1,.dat Yq1,.own 117 Yq5,.own 24 Yq4,.own 51 Yq2,.od (.row 84 (.cons (.dat Yq1) (.cons (.dat (.sl Yq5)) (.cons (.row 24 (.dat Yq4)) (.one (.dat Yq4)))))),.od (.row 79 (.cons (.row 26 (.dat Yq6)) (.one (.dat Yq3)))),.dat Yq1],bkC 9 3 [.dat Yq1],bkC 13 9 [.dat .str],⟨(some 18),0,[],false,false,none,true⟩]⟩ (.tw 14 (.cl oQ2 [] (.yl 4 (.cl iz [] (.cl oQ5 [] (.gj 4 ⟨[kdB 31],[]⟩ [] (.two 26 .nil (.cl oQ7 [] .nil)) (.tw 31 .nil (.cl nO [] (.tw 35 (.mix [([0,1,2],3),([],4)] [] [5] [0,2] .nil) .nil)))))))) .nil)) (.wt 1000035 (.mc 6 0 32 (.mc 6 1 32 (.mc 6 7 32 (.cl n4 [] (.tw 40 .nil .nil))))))) (.jx [] ⟨[],[bkC 0 45 [.lit (.int .i64 0),.lit (.int .i64 0),.nils,.nils,.nils,.nils,.nils],bkC 2 3 [.lit (.int .i64 0)],bkC 4 32 [.lit (.int .i64 0)],bkC 6 65 [.dat Yq1,.dat Yq1,.own 117 Yq5,.own 24 Yq4,.own 51 Yq2,.od (.row 84 (.cons (.dat Yq1) (.cons (.dat (.sl Yq5)) (.cons (.row 24 (.dat Yq4)) (.one (.dat Yq4)))))),.od (.row 79 (.cons (.row 26 (.dat Yq6)) (.one (.dat Yq3)))),.dat Yq1],bkC 9 3 [.dat Yq1],bkC 13 9 [.dat .str],⟨(some 18),0,[],false,false,none,true⟩]⟩ [18,13,9,6,4,2,0] (.lp ⟨[],[bkC 0 45 [.lit (.int .i64 0),.lit (.int .i64 0),.nils,.nils,.nils,.nils,.nils],bkC 2 3 [.lit (.int .i64 0)],bkC 4 32 [.lit (.int .i64 0)],bkC 6 65 [.dat Yq1,.dat Yq1,.own 117 Yq5,.own 24 Yq4,.own 51 Yq2,.od (.row 84 (.cons (.dat Yq1) (.cons (.dat (.sl Yq5)) (.cons (.row 24 (.dat Yq4)) (.one (.dat Yq4)))))),.od (.row 79 (.cons (.row 26 (.dat Yq6)) (.one (.dat Yq3)))),.dat Yq1],bkC 9 3 [.dat Yq1],bkC 13 9 [.dat .str],⟨(some 18),0,[],false,false,none,true⟩]⟩ (.cl uU [] (.tw 33 .nil (.wt 8 (.yl 2 (.cl iz [] (.cl oQ5 [] (.gj 4 ⟨[kdB 31],[]⟩ [] (.two 26 .nil (.cl oQ7 [] .nil)) (.tw 31 .nil (.cl nO [] (.tw 35 (.mix [([0,1,2],3),([],4)] [] [5] [0,2] .nil) .nil))))))))))) (.yl 2 (.cl iz [] (.cl oQ5 [] (.gj 4 ⟨[kdB 31],[]⟩ [] (.two 26 .nil (.cl oQ7 [] .nil)) (.tw 31 (.wt 1000040 (.mc 6 0 32 (.mc 6 1 32 (.mc 6 7 32 (.cl n4 [] (.tw 40 .nil .nil)))))) (.cl nO [] (.tw 35 (.mix [([0,1,2],3),([],4)] [] [5] [0,2] .nil) (.mc 6 0 61 (.mc 6 1 61 (.mc 6 7 61 (.cl n4 [] (.tw 40 .nil .nil))))))))))))))))
def zo:Spec:=⟨16,⟨[(0,.dat .str)],[]⟩,[⟨[(0,.tup [.agg [.dat Yq1,.dat Yq1,.own 117 Yq5,.own 24 Yq4,.own 51 Yq2,.od (.row 84 (.cons (.dat Yq1) (.cons (.dat (.sl Yq5)) (.cons (.row 24 (.dat Yq4)) (.one (.dat Yq4)))))),.od (.row 79 (.cons (.row 26 (.dat Yq6)) (.one (.dat Yq3))))],.dat Yq1,.dat Yq1])],[]⟩],fun x=>fU x⟩
def sJ:OkSpec Tryd.prog:=⟨zo,aj func16 zL (by kernel_rfl) (by kernel_rfl),call16⟩
def ib (xa:Tq3):((List Tq4)×Int)→Option (((List Tq4)×Int)⊕(List Tq4)):=fun (l1,i2)=>cond (decide (i2 < (xa.length:Int))) ((aa xa i2).bind fun x3=>(da x3.1).bind fun s4=>(cond (x3.2) ((app s4 ([33]:List UInt8)).bind fun z5=>some (z5)) (some (s4)):Option Tq4).bind fun s6=>(app l1 (([s6]:List Tq4))).bind fun z7=>some (.inl ((z7,IntKind.wrap .i64 (i2 + 1))))) (some (.inr (l1)))
def io (xa:Tq3):Option Tq4 :=
 cond (decide ((xa.length:Int)=0)) (some (([45]:List UInt8))) ((loop (ib xa) ([],0)).bind fun l1=>(eN l1 ([47]:List UInt8)).bind fun s2=>some (s2))
def zz:Hn Tryd.prog := .tw 10 .nil (.jn [] ⟨[(3,.own 9 .str)],[]⟩ [0] (.lp ⟨[(3,.own 9 .str),kdI 14],[]⟩ (.tw 15 (.cl fS [] (.sq [] ⟨[(6,.dat .str)],[]⟩ [] (.tw 22 .nil .nil) .nil)) .nil)) (.cl qL [2] .nil))
def zJ:Spec:=⟨9,⟨[(0,.dat Yq4)],[]⟩,[⟨[(0,.dat .str)],[]⟩],fun x=>io x⟩
def A3:OkSpec Tryd.prog:=⟨zJ,aj func9 zz (by kernel_rfl) (by kernel_rfl),call9⟩

def du (xa:(List Tq4)):Option Tq4 :=
 (eN xa ([32]:List UInt8)).bind fun s10=>some (s10)
def yX:Hn Tryd.prog := .cl qL [] .nil
def Ay:Spec:=⟨28,⟨[(0,.dat (.sl .str))],[]⟩,[⟨[(0,.dat .str)],[]⟩],fun x=>du x⟩
def jg:OkSpec Tryd.prog:=⟨Ay,aj func28 yX (by kernel_rfl) (by kernel_rfl),call28⟩

def eZ (xa:Tq4) (xb:dL):Option Tq4 :=
 (da xb.2.1).bind fun s1=>(da xb.2.2.1).bind fun s2=>(da xb.2.2.2.1).bind fun s3=>cond (xb.2.2.2.2) ((app (([xa,s1,s2,s3]:List Tq4)) (([([109,117,116]:List UInt8)]:List Tq4))).bind fun z4=>(du z4).bind fun s5=>some (s5)) ((du (([xa,s1,s2,s3]:List Tq4))).bind fun s6=>some (s6))
def AX:Hn Tryd.prog := .mix [([0,1,2,4,5,7,8],3),([],6),([],9),([],10)] [11] [] [] (.cl fS [] (.cl fS [] (.cl fS [] (.tw 18 (.cl jg [6] .nil) (.cl jg [2] .nil)))))
def yq:Spec:=⟨29,⟨[(0,.dat .str),(1,.dat Yq6)],[]⟩,[⟨[(0,.dat .str)],[]⟩],fun x=>eZ x.1 x.2⟩
def sm:OkSpec Tryd.prog:=⟨yq,aj func29 AX (by kernel_rfl) (by kernel_rfl),call29⟩

def im (xa:dL):Option Tq4 :=
 (da xa.2.1).bind fun s1=>(da xa.2.2.1).bind fun s2=>cond (decide (xa.1=0)) (some (([110,111,112]:List UInt8))) (cond (decide (xa.1=1)) ((du (([([97,115,115,105,103,110]:List UInt8),s1,s2]:List Tq4))).bind fun s3=>some (s3)) (cond (decide (xa.1=2)) ((eZ ([98,111,114,114,111,119]:List UInt8) (xa.1,xa.2.1,xa.2.2.1,xa.2.2.2.1,xa.2.2.2.2)).bind fun s4=>some (s4)) (cond (decide (xa.1=3)) ((eZ ([114,101,98,111,114,114,111,119]:List UInt8) (xa.1,xa.2.1,xa.2.2.1,xa.2.2.2.1,xa.2.2.2.2)).bind fun s5=>some (s5)) (cond (decide (xa.1=4)) ((du (([([117,115,101]:List UInt8),s2]:List Tq4))).bind fun s6=>some (s6)) (cond (decide (xa.1=5)) ((du (([([100,101,97,100]:List UInt8),s1]:List Tq4))).bind fun s7=>some (s7)) (some (([63]:List UInt8))))))))
def yH:Hn Tryd.prog := .mix [([0,1,3,4],2)] [] [5,6,7] [] (.cl fS [] (.cl fS [] (.tw 13 .nil (.tw 15 (.cl jg [2] .nil) (.tw 21 (.cl sm [] .nil) (.tw 25 (.cl sm [] .nil) (.tw 29 (.cl jg [2] .nil) (.tw 34 (.cl jg [2] .nil) .nil))))))))
def yK:Spec:=⟨12,⟨[(0,.dat Yq6)],[]⟩,[⟨[(0,.dat .str)],[]⟩],fun x=>im x⟩
def yf:OkSpec Tryd.prog:=⟨yK,aj func12 yH (by kernel_rfl) (by kernel_rfl),call12⟩

def fT  : Option Bool :=
 (fU ([114,101,103,105,111,110,115,32,49,32,49,10,98,111,117,110,100,115,10,108,111,99,97,108,32,45,10,103,105,118,101,115,32,45,10,98,108,111,99,107,10,114,101,116,117,114,110,10]:List UInt8)).bind fun (i1,i2,l3,l4,l5,l6,l7,i9,i10)=>(io (([(1,false),(2,true)]:List (Int×Bool)))).bind fun s11=>(cond (decide (s11=([49,47,50,33]:List UInt8))) ((im (2,0,1,3,true)).bind fun s12=>some (decide (s12=([98,111,114,114,111,119,32,48,32,49,32,51,32,109,117,116]:List UInt8)))) (some (false))).bind fun t13=>some (((t13&&(decide (i9=0)))&&(decide (i10=0)))&&(decide ((l7.length:Int)=1)))
def tB:Hn Tryd.prog := .cl sJ [] (.cl A3 [0] (.gj 3 ⟨[kdB 21],[]⟩ [] (.two 17 (.cl yf [] .nil) .nil) (.wt 22 (.gp 2 (.wt 26 (.gp 2 (.wt 30 (.gp 4 .nil))))))))
def oy:Spec:=⟨6,⟨[],[]⟩,[⟨[kdB 0],[]⟩],fun x=>fT⟩
theorem tj:cJ Tryd.prog oy:=aj func6 tB (by kernel_rfl) (by kernel_rfl)
def oz:OkSpec Tryd.prog:=⟨oy,tj,call6⟩
def fR (xa:Tq4) (xb:Int):((List Tq4)×Int×Int)→Option (((List Tq4)×Int×Int)⊕(List Tq4)):=fun (l1,i2,i3)=>cond (decide (i3≤(xa.length:Int))) ((cond (decide (i3=(xa.length:Int))) (some (true)) ((aa xa i3).bind fun x4=>some (decide ((((x4.toNat:Nat):Int))=xb)))).bind fun t5=>cond (t5) ((subL xa i2 i3).bind fun y6=>(app l1 (([y6]:List Tq4))).bind fun z7=>some (.inl ((z7,IntKind.wrap .i64 (i3 + 1),IntKind.wrap .i64 (i3 + 1))))) (some (.inl ((l1,i2,IntKind.wrap .i64 (i3 + 1)))))) (some (.inr (l1)))
def dP (xa:Tq4) (xb:Int):Option ((List Tq4)) :=
 (loop (fR xa xb) ((([]:List Tq4),0,0))).bind fun l1=>some (l1)
def zj:Hn Tryd.prog := .jn [] ⟨[(5,.own 9 .str),(8,.any)],[]⟩ [0] (.lp ⟨[(5,.own 9 .str),kdI 6,kdI 7],[]⟩ (.tw 12 (.gj 5 ⟨[kdB 25],[]⟩ [] (.two 19 .nil .nil) (.tw 25 .nil .nil)) .nil)) .nil
def zu:Spec:=⟨22,⟨[(0,.dat .str),(1,.dat (.int .u8))],[]⟩,[⟨[(0,.own 9 .str)],[]⟩],fun x=>dP x.1 x.2⟩
def n6:OkSpec Tryd.prog:=⟨zu,aj func22 zj (by kernel_rfl) (by kernel_rfl),call22⟩
def ia (l1:(List Tq4)):((List Tq4)×Int)→Option (((List Tq4)×Int)⊕(List Tq4)):=fun (l2,i3)=>cond (decide (i3 < (l1.length:Int))) ((aa l1 i3).bind fun x4=>cond (!decide (x4=([]:List UInt8))) ((aa l1 i3).bind fun x5=>(app l2 (([x5]:List Tq4))).bind fun z6=>some (.inl ((z6,IntKind.wrap .i64 (i3 + 1))))) (some (.inl ((l2,IntKind.wrap .i64 (i3 + 1)))))) (some (.inr (l2)))
def jJ (xa:Tq4):Option ((List Tq4)) :=
 (dP xa 32).bind fun l1=>(loop (ia l1) ((([]:List Tq4),0))).bind fun l2=>some (l2)
def AY:Hn Tryd.prog := .cl n6 [] (.jn [] ⟨[(3,.own 9 .str),(6,.any)],[]⟩ [0] (.lp ⟨[(3,.own 9 .str),kdI 5],[]⟩ (.tw 12 (.tw 19 .nil .nil) .nil)) .nil)
def yU:Spec:=⟨38,⟨[(0,.dat .str)],[]⟩,[⟨[(0,.own 9 .str)],[]⟩],fun x=>jJ x⟩
def AI:OkSpec Tryd.prog:=⟨yU,aj func38 AY (by kernel_rfl) (by kernel_rfl),call38⟩
def ow (xa:Tq4):Int→Option (Int⊕(Unit⊕Bool)):=fun i1=>cond (decide (i1 < (xa.length:Int))) ((aa xa i1).bind fun x2=>(cond (decide ((((x2.toNat:Nat):Int)) < 48)) (some (true)) ((aa xa i1).bind fun x3=>some (decide (57 < (((x3.toNat:Nat):Int)))))).bind fun t4=>cond (t4) (some (.inr ((.inr (false))))) (some (.inl (IntKind.wrap .i64 (i1 + 1))))) (some (.inr ((.inl ()))))
def jL (xa:Tq4):Option Bool :=
 (loop (ow xa) 0).bind fun o=>match o with | .inr r=>some r | .inl ()=>(cond (decide ((xa.length:Int)=1)) (some (true)) ((cond (decide (1 < (xa.length:Int))) ((aa xa 0).bind fun x1=>some (!decide ((((x1.toNat:Nat):Int))=48))) (some (false))).bind fun t2=>some (t2))).bind fun t3=>some (t3)
def yV:Hn Tryd.prog := .jx [] ⟨[],[]⟩ [] (.lp ⟨[kdI 3],[]⟩ (.tw 7 (.gj 4 ⟨[kdB 19],[]⟩ [] (.two 14 .nil .nil) (.tw 19 .nil .nil)) .nil)) (.gj 8 ⟨[kdB 32],[]⟩ [] (.two 23 .nil (.wt 27 (.gj 3 ⟨[kdB 31],[]⟩ [] (.two 27 .nil .nil) .nil))) .nil)
def yh:Spec:=⟨48,⟨[(0,.dat .str)],[]⟩,[⟨[kdB 0],[]⟩],fun x=>jL x⟩
def yC:OkSpec Tryd.prog:=⟨yh,aj func48 yV (by kernel_rfl) (by kernel_rfl),call48⟩
def en (xa:Tq4):bE→Option (bE⊕(Int⊕bE)):=fun (i1,i2)=>cond (decide (i2 < (xa.length:Int))) ((aa xa i2).bind fun x3=>cond ((decide (922337203685477580 < i1))||((decide (i1=922337203685477580))&&(decide (7 < (IntKind.wrap .i64 (IntKind.wrap .u8 ((((x3.toNat:Nat):Int)) - 48))))))) (some (.inr ((.inr ((0,5)))))) (some (.inl ((IntKind.wrap .i64 ((IntKind.wrap .i64 (i1 * 10)) + (IntKind.wrap .i64 (IntKind.wrap .u8 ((((x3.toNat:Nat):Int)) - 48)))),IntKind.wrap .i64 (i2 + 1)))))) (some (.inr (.inl i1)))
def ep (xa:Tq4) (xb:Int):Option bE :=
 (jL xa).bind fun t1=>cond (!t1) (some ((0,3))) ((loop (en xa) (0,0)).bind fun o=>match o with | .inr r=>some r | .inl i2=>cond (decide (xb < i2)) (some ((0,5))) (some ((i2,0))))
def AJ:Hn Tryd.prog := .cl yC [] (.tw 11 .nil (.jx [] ⟨[kdI 6],[]⟩ [] (.lp ⟨[kdI 6,kdI 7],[]⟩ (.tw 15 (.gp 6 (.tw 32 .nil .nil)) .nil)) (.tw 39 .nil .nil)))
def zZ:Spec:=⟨23,⟨[(0,.dat .str),kdI 1],[]⟩,[⟨[(0,.tup [.dat Yq1,.dat Yq1])],[]⟩],fun x=>ep x.1 x.2⟩
def i8:OkSpec Tryd.prog:=⟨zZ,aj func23 AJ (by kernel_rfl) (by kernel_rfl),call23⟩

def cy (xa:Tq4) (xb:Int):Option bE :=
 (ep xa 1048576).bind fun (i13,i14)=>cond (!decide (xb=0)) (some ((0,xb))) (some ((i13,i14)))
def yp:Hn Tryd.prog := .cl i8 [] (.tw 14 .nil .nil)
def Ar:Spec:=⟨63,⟨[(0,.dat .str),kdI 1],[]⟩,[⟨[(0,.tup [.dat Yq1,.dat Yq1])],[]⟩],fun x=>cy x.1 x.2⟩
def eP:OkSpec Tryd.prog:=⟨Ar,aj func63 yp (by kernel_rfl) (by kernel_rfl),call63⟩
def jw (xa:Tq4) (xb:Int):Int→Option (Int⊕(Unit⊕(Int×Int×Int))):=fun i1=>cond (decide (i1 < (xa.length:Int))) ((aa xa i1).bind fun x2=>cond (!decide ((((x2.toNat:Nat):Int))=58)) (some (.inl (IntKind.wrap .i64 (i1 + 1)))) ((subL xa 0 i1).bind fun y3=>(ep y3 xb).bind fun (i4,i5)=>cond (!decide (i5=0)) (some (.inr ((.inr ((0,0,i5)))))) ((subL xa (IntKind.wrap .i64 (i1 + 1)) (xa.length:Int)).bind fun y6=>(ep y6 xb).bind fun (i7,i9)=>cond (!decide (i9=0)) (some (.inr ((.inr ((0,0,i9)))))) (some (.inr ((.inr ((i4,i7,0))))))))) (some (.inr ((.inl ()))))
def jC (xa:Tq4) (xb:Int):Option (Int×Int×Int) :=
 (loop (jw xa xb) 0).bind fun o=>match o with | .inr r=>some r | .inl ()=>some ((0,0,3))
def yr:Hn Tryd.prog := .jx [] ⟨[],[bkC 0 117 [.lit (.int .i64 0),.lit (.int .i64 0)]]⟩ [0] (.lp ⟨[kdI 6],[bkC 0 117 [.lit (.int .i64 0),.lit (.int .i64 0)]]⟩ (.tw 14 (.tw 20 .nil (.cl i8 [] (.tw 30 .nil (.cl i8 [] (.tw 43 .nil .nil))))) .nil)) .nil
def zM:Spec:=⟨83,⟨[(0,.dat .str),kdI 1],[]⟩,[⟨[(0,.tup [.agg [.dat Yq1,.dat Yq1],.dat Yq1])],[]⟩],fun x=>jC x.1 x.2⟩
def zX:OkSpec Tryd.prog:=⟨zM,aj func83 yr (by kernel_rfl) (by kernel_rfl),call83⟩
def fQ (xa:(List Tq4)):(Tq5×Int)→Option ((Tq5×Int)⊕(Tq5⊕(Tq5×Int))):=fun (l1,i2)=>cond (decide (i2 < (xa.length:Int))) ((aa xa i2).bind fun x3=>(jC x3 1048576).bind fun (i4,i5,i6)=>cond (!decide (i6=0)) (some (.inr ((.inr (([],i6)))))) ((app l1 (([(i4,i5)]:List bE))).bind fun z7=>some (.inl ((z7,IntKind.wrap .i64 (i2 + 1)))))) (some (.inr (.inl l1)))
def ij (xa:(List Tq4)):Option ((Tq5×Int)) :=
 (loop (fQ xa) ((([]:List bE),1))).bind fun o=>match o with | .inr r=>some r | .inl l1=>some ((l1,0))
def yI:Hn Tryd.prog := .jx [] ⟨[(4,.own 117 Yq5),(8,.any)],[]⟩ [0] (.lp ⟨[(4,.own 117 Yq5),kdI 5],[]⟩ (.tw 12 (.cl zX [] (.tw 24 .nil .nil)) .nil)) .nil
def z8:Spec:=⟨64,⟨[(0,.dat (.sl .str))],[]⟩,[⟨[(0,.tup [.own 117 Yq5,.dat Yq1])],[]⟩],fun x=>ij x⟩
def sF:OkSpec Tryd.prog:=⟨z8,aj func64 yI (by kernel_rfl) (by kernel_rfl),call64⟩
def hI (l1:(List Tq4)):(Tq3×Int)→Option ((Tq3×Int)⊕(Tq3⊕(Tq3×Int))):=fun (l2,i3)=>cond (decide (i3 < (l1.length:Int))) ((aa l1 i3).bind fun x4=>(cond (decide (0 < (x4.length:Int))) ((aa x4 (IntKind.wrap .i64 ((x4.length:Int) - 1))).bind fun x5=>some (decide ((((x5.toNat:Nat):Int))=33))) (some (false))).bind fun t6=>(cond (t6) ((subL x4 0 (IntKind.wrap .i64 ((x4.length:Int) - 1))).bind fun y7=>some (y7)) (some (x4)):Option Tq4).bind fun s9=>(ep s9 1048576).bind fun (i10,i11)=>cond (!decide (i11=0)) (some (.inr ((.inr (([],i11)))))) ((app l2 (([(i10,t6)]:List (Int×Bool)))).bind fun z12=>some (.inl ((z12,IntKind.wrap .i64 (i3 + 1)))))) (some (.inr (.inl l2)))
def hY (xa:Tq4):Option ((Tq3×Int)) :=
 cond (decide (xa=([45]:List UInt8))) (some (([],0))) ((dP xa 47).bind fun l1=>(loop (hI l1) ((([]:List (Int×Bool)),0))).bind fun o=>match o with | .inr r=>some r | .inl l2=>some ((l2,0)))
def yu:Hn Tryd.prog := .tw 12 .nil (.cl n6 [] (.jx [] ⟨[(4,.own 51 Yq2),(14,.any)],[bkC 0 24 [.nils]]⟩ [2,0] (.lp ⟨[(4,.own 51 Yq2),kdI 6],[bkC 0 24 [.nils]]⟩ (.tw 20 (.gj 6 ⟨[kdB 37],[]⟩ [] (.two 30 .nil .nil) (.sq [] ⟨[(7,.dat .str)],[]⟩ [] (.tw 38 .nil .nil) (.cl i8 [] (.tw 50 .nil .nil)))) .nil)) .nil))
def Ab:Spec:=⟨8,⟨[(0,.dat .str)],[]⟩,[⟨[(0,.tup [.agg [.own 51 Yq2],.dat Yq1])],[]⟩],fun x=>hY x⟩
def su:OkSpec Tryd.prog:=⟨Ab,aj func8 yu (by kernel_rfl) (by kernel_rfl),call8⟩

def dQ (xa:(List Tq4)):Option ((Tq3×Int)) :=
 cond (!decide ((xa.length:Int)=2)) (some (([],3))) ((aa xa 1).bind fun x32=>(hY x32).bind fun (l43,i44)=>some ((l43,i44)))
def zy:Hn Tryd.prog := .tw 6 .nil (.cl su [] .nil)
def Ai:Spec:=⟨65,⟨[(0,.dat (.sl .str))],[]⟩,[⟨[(0,.tup [.agg [.own 51 Yq2],.dat Yq1])],[]⟩],fun x=>dQ x⟩
def n3:OkSpec Tryd.prog:=⟨Ai,aj func65 zy (by kernel_rfl) (by kernel_rfl),call65⟩

def jH (xa:(List Tq4)):bE→Option (bE⊕Int):=fun (i1,i2)=>cond (decide (i2 < 6)) ((aa (([([110,111,112]:List UInt8),([97,115,115,105,103,110]:List UInt8),([98,111,114,114,111,119]:List UInt8),([114,101,98,111,114,114,111,119]:List UInt8),([117,115,101]:List UInt8),([100,101,97,100]:List UInt8)]:List Tq4)) i2).bind fun x3=>(aa xa 0).bind fun x4=>cond (decide (x3=x4)) (some (.inl ((i2,IntKind.wrap .i64 (i2 + 1))))) (some (.inl ((i1,IntKind.wrap .i64 (i2 + 1)))))) (some (.inr (i1)))
def jM (xa:(List Tq4)):Option (Int×Int×Int×Int×Bool×Bool×Int) :=
 (loop (jH xa) (((-1),0))).bind fun i1=>cond (decide (i1 < 0)) (some ((0,0,0,0,false,false,0))) (((cond (((decide (i1=2))||(decide (i1=3)))&&(decide ((xa.length:Int)=5))) ((aa xa 4).bind fun x2=>some (decide (x2=([109,117,116]:List UInt8)))) (some (false))).bind fun t3=>cond (t3) ((subL xa 0 4).bind fun y4=>some ((y4,true))) (some ((xa,false))):Option (((List Tq4)×Bool))).bind fun (l5,t6)=>(aa ([1,3,4,4,2,2]:List Int) i1).bind fun x7=>cond (!decide ((l5.length:Int)=x7)) (some ((0,0,0,0,false,true,3))) ((cond ((((decide (i1=1))||(decide (i1=2)))||(decide (i1=3)))||(decide (i1=5))) ((aa l5 1).bind fun x9=>(cy x9 0).bind fun (i10,i11)=>some ((i11,IntKind.wrap .i64 (1 + 1),i10))) (some ((0,1,0))):Option (Int×Int×Int)).bind fun (i12,i13,i14)=>(cond ((decide (1≤i1))&&(decide (i1≤4))) ((aa l5 i13).bind fun x15=>(cy x15 i12).bind fun (i16,i17)=>some ((i17,IntKind.wrap .i64 (i13 + 1),i16))) (some ((i12,i13,0))):Option (Int×Int×Int)).bind fun (i18,i19,i20)=>(cond ((decide (i1=2))||(decide (i1=3))) ((aa l5 i19).bind fun x21=>(cy x21 i18).bind fun (i22,i23)=>some ((i23,i22))) (some ((i18,0))):Option bE).bind fun (i24,i25)=>some ((i1,i14,i20,i25,t6,true,i24))))
def yk:Hn Tryd.prog := .jn [] ⟨[kdI 5],[]⟩ [] (.lp ⟨[kdI 5,kdI 8],[]⟩ (.tw 15 (.mix [] [0,1,2,3,4,5,6,7] [] [] (.tw 25 .nil .nil)) .nil)) (.tw 28 .nil (.pl (.sq [(6,0)] ⟨[(0,.dat (.sl .str))],[bkC 6 26 [.is 1 (.any),.lit (.int .i64 0),.lit (.int .i64 0),.lit (.int .i64 0),.dat .bool],bkU 9]⟩ [6] (.gp 2 (.wt 38 (.gp 3 (.wt 43 (.gj 4 ⟨[kdB 48],[]⟩ [] (.two 43 .nil .nil) (.tw 48 .nil .nil)))))) (.tw 58 .nil (.pl (.pl (.sq [(6,4)] ⟨[kdI 10,kdI 11],[bkC 6 26 [.is 1 (.any),.dat Yq1,.lit (.int .i64 0),.lit (.int .i64 0),.is 2 (.any)],bkU 9,bkU 11]⟩ [6] (.gp 2 (.wt 66 (.gp 2 (.wt 70 (.gp 2 (.tw 73 (.cl eP [] .nil) .nil)))))) (.sq [(6,1)] ⟨[kdI 10,kdI 11],[bkC 6 26 [.is 1 (.any),.is 2 (.any),.dat Yq1,.lit (.int .i64 0),.is 3 (.any)],bkU 9,bkU 13,bkU 11]⟩ [6] (.gp 2 (.tw 91 (.cl eP [] .nil) .nil)) (.sq [(6,2)] ⟨[kdI 10],[bkC 6 26 [.is 1 (.any),.is 2 (.any),.is 3 (.any),.dat Yq1,.is 4 (.any)],bkU 9,bkU 13,bkU 15,bkU 11]⟩ [6] (.gp 2 (.tw 109 (.cl eP [] .nil) .nil)) .nil)))))))))
def zi:Spec:=⟨61,⟨[(0,.dat (.sl .str))],[]⟩,[⟨[(0,.tup [.agg [.dat Yq1,.dat Yq1,.dat Yq1,.dat Yq1,.dat .bool],.dat .bool,.dat Yq1])],[]⟩],fun x=>jM x⟩
def zV:OkSpec Tryd.prog:=⟨zi,aj func61 yk (by kernel_rfl) (by kernel_rfl),call61⟩
def c9 (xa:Tq4) (xb:Int):((List Int)×Int×Int)→Option (((List Int)×Int×Int)⊕((List Int)⊕((List Int)×Int))):=fun (l1,i2,i3)=>cond ((decide (i3≤(xa.length:Int)))&&(!decide (xa=([]:List UInt8)))) ((cond (decide (i3 < (xa.length:Int))) ((aa xa i3).bind fun x4=>some (!decide ((((x4.toNat:Nat):Int))=44))) (some (false))).bind fun t5=>cond (t5) (some (.inl ((l1,i2,IntKind.wrap .i64 (i3 + 1))))) ((subL xa i2 i3).bind fun y6=>(ep y6 xb).bind fun (i7,i9)=>cond (!decide (i9=0)) (some (.inr ((.inr (([],i9)))))) (cond (decide (i3=(IntKind.wrap .i64 ((xa.length:Int) - 1)))) (some (.inr ((.inr (([],3)))))) ((app l1 ([i7]:List Int)).bind fun z10=>some (.inl ((z10,IntKind.wrap .i64 (i3 + 1),IntKind.wrap .i64 (i3 + 1)))))))) (some (.inr (.inl l1)))
def jB (xa:Tq4) (xb:Int):Option (((List Int)×Int)) :=
 (loop (c9 xa xb) ((([]:List Int),0,0))).bind fun o=>match o with | .inr r=>some r | .inl l1=>some ((l1,0))
def AN:Hn Tryd.prog := .jx [] ⟨[(6,.own 3 Yq1),(11,.any)],[]⟩ [0] (.lp ⟨[(6,.own 3 Yq1),kdI 7,kdI 8],[]⟩ (.gp 2 (.tw 19 (.gj 4 ⟨[kdB 31],[]⟩ [] (.two 26 .nil .nil) (.tw 31 .nil (.cl i8 [] (.tw 42 .nil (.tw 48 .nil .nil))))) .nil))) .nil
def yz:Spec:=⟨98,⟨[(0,.dat .str),kdI 1],[]⟩,[⟨[(0,.tup [.own 3 Yq1,.dat Yq1])],[]⟩],fun x=>jB x.1 x.2⟩
def yo:OkSpec Tryd.prog:=⟨yz,aj func98 AN (by kernel_rfl) (by kernel_rfl),call98⟩

def er (xa:Tq4) (xb:Int):Option (((List Int)×Int)) :=
 cond ((!decide (xb=0))||(decide (xa=([45]:List UInt8)))) (some (([],xb))) ((jB xa 1048576).bind fun (l27,i28)=>some ((l27,i28)))
def yv:Hn Tryd.prog := .gp 2 (.tw 13 .nil (.cl yo [] .nil))
def zW:Spec:=⟨82,⟨[(0,.dat .str),kdI 1],[]⟩,[⟨[(0,.tup [.own 3 Yq1,.dat Yq1])],[]⟩],fun x=>er x.1 x.2⟩
def je:OkSpec Tryd.prog:=⟨zW,aj func82 yv (by kernel_rfl) (by kernel_rfl),call82⟩
def jG (xa:(List Tq4)):bE→Option (bE⊕Int):=fun (i1,i2)=>cond (decide (i2 < 5)) ((aa (([([]:List UInt8),([103,111,116,111]:List UInt8),([115,119,105,116,99,104]:List UInt8),([114,101,116,117,114,110]:List UInt8),([99,97,108,108]:List UInt8)]:List Tq4)) i2).bind fun x3=>(aa xa 0).bind fun x4=>cond (decide (x3=x4)) (some (.inl ((i2,IntKind.wrap .i64 (i2 + 1))))) (some (.inl ((i1,IntKind.wrap .i64 (i2 + 1)))))) (some (.inr (i1)))
def dq (xa:(List Tq4)):Option ((Int×Int×Int×(List Int)×(List Int)×(List Int)×Bool×Int)) :=
 (loop (jG xa) (0,1)).bind fun i1=>(cond (decide (i1=0)) (some (true)) ((aa ([0,2,3,1,6]:List Int) i1).bind fun x2=>some (!decide ((xa.length:Int)=x2)))).bind fun t3=>cond (t3) (some ((0,0,0,[],[],[],decide (0 < i1),3))) ((cond (decide (i1=4)) ((aa xa 1).bind fun x4=>(cy x4 0).bind fun (i5,i6)=>(aa xa 2).bind fun x7=>(cy x7 i6).bind fun (i9,i10)=>(aa xa 3).bind fun x11=>(er x11 i10).bind fun (l12,i13)=>(aa xa 4).bind fun x14=>(er x14 i13).bind fun (l15,i16)=>(aa xa 5).bind fun x17=>(er x17 i16).bind fun (l18,i19)=>some ((i19,i5,i9,l12,l18,l15))) (some ((0,0,0,[],[],[]))):Option ((Int×Int×Int×(List Int)×(List Int)×(List Int)))).bind fun (i20,i21,i22,l23,l24,l25)=>(cond ((decide (i1=1))||(decide (i1=2))) ((aa xa 1).bind fun x26=>(er x26 i20).bind fun (l27,i28)=>some ((i28,l27))) (some ((i20,l23))):Option ((Int×(List Int)))).bind fun (i29,l30)=>(cond (decide (i1=2)) ((aa xa 2).bind fun x31=>(er x31 i29).bind fun (l32,i33)=>some ((i33,l32))) (some ((i29,l24))):Option ((Int×(List Int)))).bind fun (i34,l35)=>some ((i1,i21,i22,l30,l35,l25,true,i34)))
def yS:Hn Tryd.prog := .jn [] ⟨[kdI 7],[]⟩ [] (.lp ⟨[kdI 7,kdI 8],[]⟩ (.tw 14 (.mix [] [0,1,2,3,4,5,6,7] [] [] (.tw 24 .nil .nil)) .nil)) (.gj 7 ⟨[kdB 38],[]⟩ [] (.two 30 .nil .nil) (.tw 38 .nil (.pl (.sq [(6,0)] ⟨[kdI 10],[bkC 6 29 [.is 1 (.any),.dat Yq1,.dat Yq1,.own 3 Yq1,.own 3 Yq1,.own 3 Yq1],bkU 9]⟩ [6] (.tw 43 (.cl eP [] (.cl eP [] (.cl je [] (.cl je [] (.cl je [] .nil))))) .nil) (.sq [(6,1),(6,2),(6,4),(6,5)] ⟨[kdI 10],[bkC 6 29 [.is 1 (.any),.is 2 (.any),.is 3 (.any),.own 3 Yq1,.is 4 (.any),.is 5 (.any)],bkU 9,bkU 17,bkU 18,bkU 19,bkU 20]⟩ [6,10] (.gp 2 (.tw 94 (.cl je [] .nil) .nil)) (.sq [(6,3)] ⟨[kdI 10],[bkC 6 29 [.is 1 (.any),.is 2 (.any),.is 3 (.any),.is 4 (.any),.own 3 Yq1,.is 5 (.any)],bkU 9,bkU 17,bkU 18,bkU 24,bkU 20]⟩ [6,12] (.tw 105 (.cl je [] .nil) .nil) .nil))))))
def zD:Spec:=⟨62,⟨[(0,.dat (.sl .str))],[]⟩,[⟨[(0,.tup [.agg [.dat Yq1,.dat Yq1,.dat Yq1,.own 3 Yq1,.own 3 Yq1,.own 3 Yq1],.dat .bool,.dat Yq1])],[]⟩],fun x=>dq x⟩
def zQ:OkSpec Tryd.prog:=⟨zD,aj func62 yS (by kernel_rfl) (by kernel_rfl),call62⟩

def ig (xb:(List Tq4)) (qxa_0:Int) (qxa_1:Int) (qxa_2:Tq5) (qxa_3:(List Tq3)) (qxa_4:Tq3) (qxa_5:(List Tq2)) (qxa_6:(List Tq1)) (qxa_7:Int) (qxa_8:Bool):Option ((Int×Int×Tq5×(List Tq3)×Tq3×(List Tq2)×(List Tq1)×Int×Bool×Int)) :=
 (jM xb).bind fun (i1,i2,i3,i4,t5,t6,i7)=>cond (t6) (((aa qxa_6 (IntKind.wrap .i64 ((qxa_6.length:Int) - 1))).bind fun _=>((aa qxa_6 (IntKind.wrap .i64 ((qxa_6.length:Int) - 1))).bind fun x9=>(ay (IntKind.wrap .i64 ((qxa_6.length:Int) - 1)) (IntKind.wrap .i64 ((qxa_6.length:Int) - 1))).bind fun _=>(app x9.1 (([(i1,i2,i3,i4,t5)]:List dL))).bind fun z10=>(aa qxa_6 (IntKind.wrap .i64 ((qxa_6.length:Int) - 1))).bind fun _=>(ay (IntKind.wrap .i64 ((qxa_6.length:Int) - 1)) (IntKind.wrap .i64 ((qxa_6.length:Int) - 1))).bind fun _=>some (qxa_6.set (IntKind.wrap .i64 ((qxa_6.length:Int) - 1)).toNat ((z10,(x9.2.1,x9.2.2.1,x9.2.2.2.1,x9.2.2.2.2.1,x9.2.2.2.2.2.1,x9.2.2.2.2.2.2))))).bind fun x11=>((aa qxa_6 (IntKind.wrap .i64 ((qxa_6.length:Int) - 1))).bind fun x12=>(ay (IntKind.wrap .i64 ((qxa_6.length:Int) - 1)) (IntKind.wrap .i64 ((qxa_6.length:Int) - 1))).bind fun _=>(app x12.1 (([(i1,i2,i3,i4,t5)]:List dL))).bind fun z13=>(aa qxa_6 (IntKind.wrap .i64 ((qxa_6.length:Int) - 1))).bind fun _=>(ay (IntKind.wrap .i64 ((qxa_6.length:Int) - 1)) (IntKind.wrap .i64 ((qxa_6.length:Int) - 1))).bind fun _=>some (qxa_6.set (IntKind.wrap .i64 ((qxa_6.length:Int) - 1)).toNat ((z13,(x12.2.1,x12.2.2.1,x12.2.2.2.1,x12.2.2.2.2.1,x12.2.2.2.2.2.1,x12.2.2.2.2.2.2))))).bind fun y14=>agr x11 y14 (some x11):Option ((List Tq1))).bind fun l15=>some ((qxa_0,qxa_1,qxa_2,qxa_3,qxa_4,qxa_5,l15,qxa_7,qxa_8,i7))) ((dq xb).bind fun (i16,i17,i18,l19,l20,l21,t22,i23)=>(aa qxa_6 (IntKind.wrap .i64 ((qxa_6.length:Int) - 1))).bind fun _=>(aa qxa_6 (IntKind.wrap .i64 ((qxa_6.length:Int) - 1))).bind fun x24=>(ay (IntKind.wrap .i64 ((qxa_6.length:Int) - 1)) (IntKind.wrap .i64 ((qxa_6.length:Int) - 1))).bind fun _=>some ((qxa_0,qxa_1,qxa_2,qxa_3,qxa_4,qxa_5,qxa_6.set (IntKind.wrap .i64 ((qxa_6.length:Int) - 1)).toNat ((x24.1,(i16,i17,i18,l19,l20,l21))),qxa_7,false,i23)))
def yL:Hn Tryd.prog := .cl zV [] (.tw 24 (.tr (.still [0,1,2,3,4,5,6,7,8,9,11] (.alt 10 (.alt 12 (.alt 13 (.still [14,15] (.alt 16 (.leaf []) .done)) .done) .done) (.alt 12 (.alt 10 (.alt 13 (.still [14,15] (.alt 16 (.leaf []) .done)) .done) .done) .done))) ⟨[],[bkO 8 (.row 79 (.cons (.row 26 (.dat Yq6)) (.one (.dat Yq3))))]⟩ [8] (.two 0 (.wt 34 (.opn 8 1000006 (.cls 8 24 .nil))) (.wt 34 (.opn 8 1000006 (.cls 8 24 .nil)))) .nil) (.cl zQ [] (.wt 55 (.opn 8 1000006 (.per 17 18 (.per 19 20 (.per 21 22 (.cls 8 29 .nil))))))))
def y8:Spec:=⟨39,⟨[(0,.agg [.dat Yq1,.dat Yq1,.own 117 Yq5,.own 24 Yq4,.own 51 Yq2,.od (.row 84 (.cons (.dat Yq1) (.cons (.dat (.sl Yq5)) (.cons (.row 24 (.dat Yq4)) (.one (.dat Yq4)))))),.od (.row 79 (.cons (.row 26 (.dat Yq6)) (.one (.dat Yq3)))),.dat Yq1,.dat .bool]),(1,.dat (.sl .str))],[]⟩,[⟨[(0,.tup [.agg [.dat Yq1,.dat Yq1,.own 117 Yq5,.own 24 Yq4,.own 51 Yq2,.od (.row 84 (.cons (.dat Yq1) (.cons (.dat (.sl Yq5)) (.cons (.row 24 (.dat Yq4)) (.one (.dat Yq4)))))),.od (.row 79 (.cons (.row 26 (.dat Yq6)) (.one (.dat Yq3)))),.dat Yq1,.dat .bool],.dat Yq1])],[]⟩],fun x=>ig x.2.2.2.2.2.2.2.2.2 x.1 x.2.1 x.2.2.1 x.2.2.2.1 x.2.2.2.2.1 x.2.2.2.2.2.1 x.2.2.2.2.2.2.1 x.2.2.2.2.2.2.2.1 x.2.2.2.2.2.2.2.2.1⟩
def yy:OkSpec Tryd.prog:=⟨y8,aj func39 yL (by kernel_rfl) (by kernel_rfl),call39⟩

def bF (xb:(List Tq4)) (qxa_0:Int) (qxa_1:Int) (qxa_2:Tq5) (qxa_3:(List Tq3)) (qxa_4:Tq3) (qxa_5:(List Tq2)) (qxa_6:(List Tq1)) (qxa_7:Int) (qxa_8:Bool):Option ((Int×Int×Tq5×(List Tq3)×Tq3×(List Tq2)×(List Tq1)×Int×Bool×Int)) :=
 (aa xb 0).bind fun x1=>cond (((decide (x1=([114,101,103,105,111,110,115]:List UInt8)))&&(decide (qxa_7=0)))&&(decide ((xb.length:Int)=3))) ((aa xb 1).bind fun x2=>(cy x2 0).bind fun (i3,i4)=>(aa xb 2).bind fun x5=>(cy x5 i4).bind fun (i6,i7)=>some ((i3,i6,qxa_2,qxa_3,qxa_4,qxa_5,qxa_6,1,qxa_8,i7))) ((aa xb 0).bind fun x9=>cond ((decide (x9=([98,111,117,110,100,115]:List UInt8)))&&(decide (qxa_7=1))) ((ij xb).bind fun (l10,i11)=>some ((qxa_0,qxa_1,l10,qxa_3,qxa_4,qxa_5,qxa_6,2,qxa_8,i11))) ((aa xb 0).bind fun x12=>cond ((decide (x12=([108,111,99,97,108]:List UInt8)))&&(decide (qxa_7=2))) ((dQ xb).bind fun (l13,i14)=>(app qxa_3 (([l13]:List Tq3))).bind fun z15=>some ((qxa_0,qxa_1,qxa_2,z15,qxa_4,qxa_5,qxa_6,qxa_7,qxa_8,i14))) ((aa xb 0).bind fun x16=>cond ((decide (x16=([103,105,118,101,115]:List UInt8)))&&(decide (qxa_7=2))) ((dQ xb).bind fun (l17,i18)=>some ((qxa_0,qxa_1,qxa_2,qxa_3,l17,qxa_5,qxa_6,3,qxa_8,i18))) ((aa xb 0).bind fun x19=>cond (((decide (x19=([115,105,103]:List UInt8)))&&(decide (qxa_7=3)))&&(decide ((xb.length:Int)=3))) ((aa xb 1).bind fun x20=>(cy x20 0).bind fun (i21,i22)=>(aa xb 2).bind fun x23=>(hY x23).bind fun (l24,i25)=>(cond (decide (i22=0)) (some (i25)) (some (i22)):Option Int).bind fun i26=>(app (qxa_5:List Tq2) (([(i21,[],[],l24)]:List Tq2):List Tq2)).bind fun z27=>some ((qxa_0,qxa_1,qxa_2,qxa_3,qxa_4,z27,qxa_6,4,qxa_8,i26))) ((aa xb 0).bind fun x28=>cond ((decide (x28=([110,101,101,100,115]:List UInt8)))&&(decide (qxa_7=4))) ((ij xb).bind fun (l29,i30)=>(aa qxa_5 (IntKind.wrap .i64 ((qxa_5.length:Int) - 1))).bind fun _=>(aa qxa_5 (IntKind.wrap .i64 ((qxa_5.length:Int) - 1))).bind fun x31=>(ay (IntKind.wrap .i64 ((qxa_5.length:Int) - 1)) (IntKind.wrap .i64 ((qxa_5.length:Int) - 1))).bind fun _=>some ((qxa_0,qxa_1,qxa_2,qxa_3,qxa_4,qxa_5.set (IntKind.wrap .i64 ((qxa_5.length:Int) - 1)).toNat (x31.1,l29,x31.2.2.1,x31.2.2.2),qxa_6,3,qxa_8,i30))) ((aa xb 0).bind fun x32=>cond (((decide (x32=([97,114,103]:List UInt8)))&&(decide (qxa_7=3)))&&(decide (0≤(IntKind.wrap .i64 ((qxa_5.length:Int) - 1))))) ((dQ xb).bind fun (l33,i34)=>((aa qxa_5 (IntKind.wrap .i64 ((qxa_5.length:Int) - 1))).bind fun _=>((aa qxa_5 (IntKind.wrap .i64 ((qxa_5.length:Int) - 1))).bind fun x35=>(ay (IntKind.wrap .i64 ((qxa_5.length:Int) - 1)) (IntKind.wrap .i64 ((qxa_5.length:Int) - 1))).bind fun _=>(app x35.2.2.1 (([l33]:List Tq3))).bind fun z36=>(aa qxa_5 (IntKind.wrap .i64 ((qxa_5.length:Int) - 1))).bind fun _=>(ay (IntKind.wrap .i64 ((qxa_5.length:Int) - 1)) (IntKind.wrap .i64 ((qxa_5.length:Int) - 1))).bind fun _=>some (qxa_5.set (IntKind.wrap .i64 ((qxa_5.length:Int) - 1)).toNat (x35.1,x35.2.1,z36,x35.2.2.2))).bind fun x37=>((aa qxa_5 (IntKind.wrap .i64 ((qxa_5.length:Int) - 1))).bind fun x38=>(ay (IntKind.wrap .i64 ((qxa_5.length:Int) - 1)) (IntKind.wrap .i64 ((qxa_5.length:Int) - 1))).bind fun _=>(app x38.2.2.1 (([l33]:List Tq3))).bind fun z39=>(aa qxa_5 (IntKind.wrap .i64 ((qxa_5.length:Int) - 1))).bind fun _=>(ay (IntKind.wrap .i64 ((qxa_5.length:Int) - 1)) (IntKind.wrap .i64 ((qxa_5.length:Int) - 1))).bind fun _=>some (qxa_5.set (IntKind.wrap .i64 ((qxa_5.length:Int) - 1)).toNat (x38.1,x38.2.1,z39,x38.2.2.2))).bind fun y40=>agr x37 y40 (some x37):Option ((List Tq2))).bind fun l41=>some ((qxa_0,qxa_1,qxa_2,qxa_3,qxa_4,l41,qxa_6,qxa_7,qxa_8,i34))) (some ((qxa_0,qxa_1,qxa_2,qxa_3,qxa_4,qxa_5,qxa_6,qxa_7,qxa_8,3)))))))))
def zd:Hn Tryd.prog := .gp 3 (.wt 30 (.gp 3 (.tw 34 (.cl eP [] (.cl eP [] .nil)) (.gp 3 (.tw 65 (.cl sF [] .nil) (.gp 3 (.tw 84 (.cl n3 [] (.per 14 15 .nil)) (.gp 3 (.tw 108 (.cl n3 [] .nil) (.gp 3 (.wt 128 (.gp 3 (.tw 132 (.cl eP [] (.cl su [] (.sq [] ⟨[kdI 11],[]⟩ [] (.tw 148 .nil .nil) (.per 14 15 (.ot (.cons (.dat Yq1) (.cons (.dat (.sl Yq5)) (.cons (.row 24 (.dat Yq4)) (.one (.dat Yq4))))) (.ot (.cons (.dat Yq1) (.cons (.dat (.sl Yq5)) (.cons (.row 24 (.dat Yq4)) (.one (.dat Yq4))))) .nil)))))) (.gp 3 (.tw 171 (.mix [([0,1,2,3,4],5),([6,7,8,9,10],11)] [12] [] [6] (.cl sF [] (.wt 182 (.opn 6 1000006 (.per 14 15 (.cls 6 19 .nil)))))) (.gp 3 (.wt 195 (.gp 2 (.tw 198 (.cl n3 [] (.tr (.still [0,1,2,3,4,5,6,7,8,9,11] (.alt 10 (.alt 12 (.alt 13 (.still [14,15] (.alt 16 (.leaf []) .done)) .done) .done) (.alt 12 (.alt 10 (.alt 13 (.still [14,15] (.alt 16 (.leaf []) .done)) .done) .done) .done))) ⟨[(201,.any),(199,.any),(202,.any)],[bkO 6 (.row 84 (.cons (.dat Yq1) (.cons (.dat (.sl Yq5)) (.cons (.row 24 (.dat Yq4)) (.one (.dat Yq4))))))]⟩ [14,6] (.two 0 (.wt 213 (.opn 6 1000006 (.per 14 15 (.cls 6 26 .nil)))) (.per 14 15 (.wt 213 (.opn 6 1000006 (.cls 6 26 .nil))))) .nil)) .nil)))))))))))))))))))
def yQ:Spec:=⟨40,⟨[(0,.agg [.dat Yq1,.dat Yq1,.own 117 Yq5,.own 24 Yq4,.own 51 Yq2,.od (.row 84 (.cons (.dat Yq1) (.cons (.dat (.sl Yq5)) (.cons (.row 24 (.dat Yq4)) (.one (.dat Yq4)))))),.od (.row 79 (.cons (.row 26 (.dat Yq6)) (.one (.dat Yq3)))),.dat Yq1,.dat .bool]),(1,.dat (.sl .str))],[]⟩,[⟨[(0,.tup [.agg [.dat Yq1,.dat Yq1,.own 117 Yq5,.own 24 Yq4,.own 51 Yq2,.od (.row 84 (.cons (.dat Yq1) (.cons (.dat (.sl Yq5)) (.cons (.row 24 (.dat Yq4)) (.one (.dat Yq4)))))),.od (.row 79 (.cons (.row 26 (.dat Yq6)) (.one (.dat Yq3)))),.dat Yq1,.dat .bool],.dat Yq1])],[]⟩],fun x=>bF x.2.2.2.2.2.2.2.2.2 x.1 x.2.1 x.2.2.1 x.2.2.2.1 x.2.2.2.2.1 x.2.2.2.2.2.1 x.2.2.2.2.2.2.1 x.2.2.2.2.2.2.2.1 x.2.2.2.2.2.2.2.2.1⟩
def AW:OkSpec Tryd.prog:=⟨yQ,aj func40 zd (by kernel_rfl) (by kernel_rfl),call40⟩
def ek (l1:(List Tq4)):nP→Option (nP⊕((Int×Int×Tq5×(List Tq3)×Tq3×(List Tq2)×(List Tq1)×Int×Bool)⊕Tq7)):=fun (i2,i3,i4,l5,l6,l7,l9,l10,i11,t12)=>cond (decide (i2 < (l1.length:Int))) ((aa l1 i2).bind fun x13=>(jJ x13).bind fun l14=>(cond (decide ((l14.length:Int)=0)) (some (true)) ((aa l14 0).bind fun x15=>(aa x15 0).bind fun x16=>some (decide ((((x16.toNat:Nat):Int))=35)))).bind fun t17=>cond (t17) (some (.inl ((IntKind.wrap .i64 (i2 + 1),i3,i4,l5,l6,l7,l9,l10,i11,t12)))) ((cond (t12) ((ig l14 i3 i4 l5 l6 l7 l9 l10 i11 t12).bind fun (i18,i19,l20,l21,l22,l23,l24,i25,t26,i27)=>some ((i27,i18,i19,l20,l21,l22,l23,l24,i25,t26))) ((cond (decide ((l14.length:Int)=1)) ((aa l14 0).bind fun x28=>some (decide (x28=([98,108,111,99,107]:List UInt8)))) (some (false))).bind fun t29=>cond (t29&&(decide (i11=3))) ((app (l10:List Tq1) (([([],(0,0,0,[],[],[]))]:List Tq1):List Tq1)).bind fun z30=>some ((0,i3,i4,l5,l6,l7,l9,z30,i11,true))) (cond (decide (0 < (l10.length:Int))) (some ((3,i3,i4,l5,l6,l7,l9,l10,i11,t12))) ((bF l14 i3 i4 l5 l6 l7 l9 l10 i11 t12).bind fun (i31,i32,l33,l34,l35,l36,l37,i38,t39,i40)=>some ((i40,i31,i32,l33,l34,l35,l36,l37,i38,t39))))):Option (nP)).bind fun (i41,i42,i43,l44,l45,l46,l47,l48,i49,t50)=>cond (!decide (i41=0)) (some (.inr ((.inr ((0,0,[],[],[],[],[],IntKind.wrap .i64 (i2 + 1),i41)))))) (some (.inl ((IntKind.wrap .i64 (i2 + 1),i42,i43,l44,l45,l46,l47,l48,i49,t50)))))) (some (.inr ((.inl (i3,i4,l5,l6,l7,l9,l10,i11,t12)))))
def jK (xa:Tq4):Option (Tq7) :=
 cond (decide (1048576 < (xa.length:Int))) (some ((0,0,[],[],[],[],[],0,5))) ((dP xa 10).bind fun l1=>(loop (ek l1) (0,0,0,[],[],[],[],[],0,false)).bind fun o=>match o with | .inr r=>some r | .inl (i2,i3,l4,l5,l6,l7,l9,i10,t11)=>cond (t11||(!decide (i10=3))) (some ((0,0,[],[],[],[],[],0,14))) (some ((i2,i3,l4,l5,l6,l7,l9,0,0))))
def Ac:Hn Tryd.prog := .tw 12 .nil (.cl n6 [] (.jx [] ⟨[],[bkC 0 45 [.lit (.int .i64 0),.lit (.int .i64 0),.nils,.nils,.nils,.nils,.nils],bkC 2 73 [.dat Yq1,.dat Yq1,.own 117 Yq5,.own 24 Yq4,.own 51 Yq2,.od (.row 84 (.cons (.dat Yq1) (.cons (.dat (.sl Yq5)) (.cons (.row 24 (.dat Yq4)) (.one (.dat Yq4)))))),.od (.row 79 (.cons (.row 26 (.dat Yq6)) (.one (.dat Yq3)))),.dat Yq1,.dat .bool]]⟩ [2,0] (.lp ⟨[kdI 7],[bkC 0 45 [.lit (.int .i64 0),.lit (.int .i64 0),.nils,.nils,.nils,.nils,.nils],bkC 2 73 [.dat Yq1,.dat Yq1,.own 117 Yq5,.own 24 Yq4,.own 51 Yq2,.od (.row 84 (.cons (.dat Yq1) (.cons (.dat (.sl Yq5)) (.cons (.row 24 (.dat Yq4)) (.one (.dat Yq4)))))),.od (.row 79 (.cons (.row 26 (.dat Yq6)) (.one (.dat Yq3)))),.dat Yq1,.dat .bool]]⟩ (.tw 20 (.cl AI [] (.gj 5 ⟨[kdB 37],[]⟩ [] (.two 31 .nil .nil) (.per 19 20 (.tw 37 .nil (.sq [] ⟨[kdI 9],[bkC 2 73 [.dat Yq1,.dat Yq1,.own 117 Yq5,.own 24 Yq4,.own 51 Yq2,.od (.row 84 (.cons (.dat Yq1) (.cons (.dat (.sl Yq5)) (.cons (.row 24 (.dat Yq4)) (.one (.dat Yq4)))))),.od (.row 79 (.cons (.row 26 (.dat Yq6)) (.one (.dat Yq3)))),.dat Yq1,.dat .bool]]⟩ [2,8,10,12,14,16] (.tw 39 (.cl yy [] .nil) (.gj 4 ⟨[kdB 54],[]⟩ [] (.two 49 .nil .nil) (.wt 55 (.gp 3 (.tw 59 (.ot (.cons (.row 26 (.dat Yq6)) (.one (.dat Yq3))) (.ot (.cons (.row 26 (.dat Yq6)) (.one (.dat Yq3))) .nil)) (.tw 73 .nil (.cl AW [] .nil))))))) (.tw 81 .nil .nil)))))) .nil)) (.gp 3 (.tw 92 .nil .nil))))
def AF:Spec:=⟨17,⟨[(0,.dat .str)],[]⟩,[⟨[(0,.tup [.agg [.dat Yq1,.dat Yq1,.own 117 Yq5,.own 24 Yq4,.own 51 Yq2,.od (.row 84 (.cons (.dat Yq1) (.cons (.dat (.sl Yq5)) (.cons (.row 24 (.dat Yq4)) (.one (.dat Yq4)))))),.od (.row 79 (.cons (.row 26 (.dat Yq6)) (.one (.dat Yq3))))],.dat Yq1,.dat Yq1])],[]⟩],fun x=>jK x⟩
def yD:OkSpec Tryd.prog:=⟨AF,aj func17 Ac (by kernel_rfl) (by kernel_rfl),call17⟩
def lz (xa:Tq5) (xb:Tq5):Int→Option (Int⊕(Unit⊕Bool)):=fun i1=>cond (decide (i1 < (xa.length:Int))) ((aa xa i1).bind fun x2=>(aa xb i1).bind fun x3=>cond (!((decide (x2.1=x3.1))&&((decide (x2.2=x3.2))))) (some (.inr ((.inr (false))))) (some (.inl (IntKind.wrap .i64 (i1 + 1))))) (some (.inr ((.inl ()))))
def ic (xa:Tq5) (xb:Tq5):Option Bool :=
 cond (!decide ((xa.length:Int)=(xb.length:Int))) (some (false)) ((loop (lz xa xb) 0).bind fun o=>match o with | .inr r=>some r | .inl ()=>some (true))
def An:Hn Tryd.prog := .tw 10 .nil (.jx [] ⟨[],[]⟩ [] (.lp ⟨[kdI 5],[]⟩ (.tw 14 (.mix [] [0,1,2,3,4,5,6,7,8] [] [] (.tw 25 .nil .nil)) .nil)) .nil)
def zt:Spec:=⟨41,⟨[(0,.dat (.sl Yq5)),(1,.dat (.sl Yq5))],[]⟩,[⟨[kdB 0],[]⟩],fun x=>ic x.1 x.2⟩
def sE:OkSpec Tryd.prog:=⟨zt,aj func41 An (by kernel_rfl) (by kernel_rfl),call41⟩
def lB (xa:Tq3) (xb:Tq3):Int→Option (Int⊕(Unit⊕Bool)):=fun i1=>cond (decide (i1 < (xa.length:Int))) ((aa xa i1).bind fun x2=>(aa xb i1).bind fun x3=>cond (!(x2.2 == x3.2)) (some (.inr ((.inr (false))))) (some (.inl (IntKind.wrap .i64 (i1 + 1))))) (some (.inr ((.inl ()))))
def jI (xa:Tq3) (xb:Tq3):Option Bool :=
 cond (!decide ((xa.length:Int)=(xb.length:Int))) (some (false)) ((loop (lB xa xb) 0).bind fun o=>match o with | .inr r=>some r | .inl ()=>some (true))
def zC:Hn Tryd.prog := .tw 12 .nil (.jx [] ⟨[],[]⟩ [] (.lp ⟨[kdI 5],[]⟩ (.tw 17 (.mix [] [0,1,2,3,4,5,6,7,8,9,10,11,12] [] [] (.tw 32 .nil .nil)) .nil)) .nil)
def AC:Spec:=⟨27,⟨[(0,.dat Yq4),(1,.dat Yq4)],[]⟩,[⟨[kdB 0],[]⟩],fun x=>jI x.1 x.2⟩
def Af:OkSpec Tryd.prog:=⟨AC,aj func27 zC (by kernel_rfl) (by kernel_rfl),call27⟩
def jE (xa:Tq3) (xb:Tq3):Int→Option (Int⊕(Unit⊕Bool)):=fun i1=>cond (decide (i1 < (xa.length:Int))) ((aa xa i1).bind fun x2=>(aa xb i1).bind fun x3=>cond (!decide (x2.1=x3.1)) (some (.inr ((.inr (false))))) (some (.inl (IntKind.wrap .i64 (i1 + 1))))) (some (.inr ((.inl ()))))
def fV (xa:Tq3) (xb:Tq3):Option Bool :=
 (jI xa xb).bind fun t1=>cond (!t1) (some (false)) ((loop (jE xa xb) 0).bind fun o=>match o with | .inr r=>some r | .inl ()=>some (true))
def yO:Hn Tryd.prog := .cl Af [] (.tw 9 .nil (.jx [] ⟨[],[]⟩ [] (.lp ⟨[kdI 5],[]⟩ (.tw 14 (.mix [] [0,1,2,3,4,5,6,7,8,9,10,11,12] [] [] (.tw 29 .nil .nil)) .nil)) .nil))
def zG:Spec:=⟨11,⟨[(0,.dat Yq4),(1,.dat Yq4)],[]⟩,[⟨[kdB 0],[]⟩],fun x=>fV x.1 x.2⟩
def nT:OkSpec Tryd.prog:=⟨zG,aj func11 yO (by kernel_rfl) (by kernel_rfl),call11⟩
def lC (xa:(List Tq3)) (xb:(List Tq3)):Int→Option (Int⊕(Unit⊕Bool)):=fun i1=>cond (decide (i1 < (xa.length:Int))) ((aa xa i1).bind fun x2=>(aa xb i1).bind fun x3=>(fV x2 x3).bind fun t4=>cond (!t4) (some (.inr ((.inr (false))))) (some (.inl (IntKind.wrap .i64 (i1 + 1))))) (some (.inr ((.inl ()))))
def ik (xa:(List Tq3)) (xb:(List Tq3)):Option Bool :=
 cond (!decide ((xa.length:Int)=(xb.length:Int))) (some (false)) ((loop (lC xa xb) 0).bind fun o=>match o with | .inr r=>some r | .inl ()=>some (true))
def zm:Hn Tryd.prog := .tw 10 .nil (.jx [] ⟨[],[]⟩ [] (.lp ⟨[kdI 5],[]⟩ (.tw 14 (.mix [] [0,1,2,3,4,5,6,7] [8,9] [] (.cl nT [] (.tw 26 .nil .nil))) .nil)) .nil)
def yG:Spec:=⟨42,⟨[(0,.dat (.sl Yq4)),(1,.dat (.sl Yq4))],[]⟩,[⟨[kdB 0],[]⟩],fun x=>ik x.1 x.2⟩
def sO:OkSpec Tryd.prog:=⟨yG,aj func42 zm (by kernel_rfl) (by kernel_rfl),call42⟩

def lI (xa:Tq2) (xb:Tq2):Option Bool :=
 (cond (decide (xa.1=xb.1)) ((ic xa.2.1 xb.2.1).bind fun t62=>some (t62)) (some (false))).bind fun t58=>(cond (t58) ((ik xa.2.2.1 xb.2.2.1).bind fun t77=>some (t77)) (some (false))).bind fun t73=>(cond (t73) ((fV xa.2.2.2 xb.2.2.2).bind fun t92=>some (t92)) (some (false))).bind fun t88=>some (t88)
def A2:Hn Tryd.prog := .gj 5 ⟨[kdB 16],[]⟩ [] (.two 10 (.cl sE [] .nil) .nil) (.wt 17 (.gj 5 ⟨[kdB 23],[]⟩ [] (.two 17 (.cl sO [] .nil) .nil) (.wt 24 (.gj 5 ⟨[kdB 30],[]⟩ [] (.two 24 (.cl nT [] .nil) .nil) .nil))))
def zh:Spec:=⟨43,⟨[(0,.dat (.cons Yq1 (.cons (.sl Yq5) (.cons (.sl Yq4) (.one Yq4))))),(1,.dat (.cons Yq1 (.cons (.sl Yq5) (.cons (.sl Yq4) (.one Yq4)))))],[]⟩,[⟨[kdB 0],[]⟩],fun x=>lI x.1 x.2⟩
def Aj:OkSpec Tryd.prog:=⟨zh,aj func43 A2 (by kernel_rfl) (by kernel_rfl),call43⟩
def jF (xa:(List Int)) (xb:(List Int)):Int→Option (Int⊕(Unit⊕Bool)):=fun i1=>cond (decide (i1 < (xa.length:Int))) ((aa xa i1).bind fun x2=>(aa xb i1).bind fun x3=>cond (!decide (x2=x3)) (some (.inr ((.inr (false))))) (some (.inl (IntKind.wrap .i64 (i1 + 1))))) (some (.inr ((.inl ()))))
def eX (xa:(List Int)) (xb:(List Int)):Option Bool :=
 cond (!decide ((xa.length:Int)=(xb.length:Int))) (some (false)) ((loop (jF xa xb) 0).bind fun o=>match o with | .inr r=>some r | .inl ()=>some (true))
def yP:Hn Tryd.prog := .tw 10 .nil (.jx [] ⟨[],[]⟩ [] (.lp ⟨[kdI 5],[]⟩ (.tw 14 (.mix [] [0,1,2,3,4,5,6,7,8] [] [] (.tw 25 .nil .nil)) .nil)) .nil)
def AA:Spec:=⟨66,⟨[(0,.dat (.sl Yq1)),(1,.dat (.sl Yq1))],[]⟩,[⟨[kdB 0],[]⟩],fun x=>eX x.1 x.2⟩
def nX:OkSpec Tryd.prog:=⟨AA,aj func66 yP (by kernel_rfl) (by kernel_rfl),call66⟩

def lJ (xa:(Int×Int×Int×(List Int)×(List Int)×(List Int))) (xb:(Int×Int×Int×(List Int)×(List Int)×(List Int))):Option Bool :=
 (cond (((decide (xa.1=xb.1))&&(decide (xa.2.1=xb.2.1)))&&(decide (xa.2.2.1=xb.2.2.1))) ((eX xa.2.2.2.1 xb.2.2.2.1).bind fun t70=>some (t70)) (some (false))).bind fun t66=>(cond (t66) ((eX xa.2.2.2.2.1 xb.2.2.2.2.1).bind fun t85=>some (t85)) (some (false))).bind fun t81=>(cond (t81) ((eX xa.2.2.2.2.2 xb.2.2.2.2.2).bind fun t1=>some (t1)) (some (false))).bind fun t96=>some (t96)
def Ax:Hn Tryd.prog := .gp 5 (.wt 17 (.gp 5 (.wt 24 (.gj 5 ⟨[kdB 30],[]⟩ [] (.two 24 (.cl nX [] .nil) .nil) (.wt 31 (.gj 5 ⟨[kdB 37],[]⟩ [] (.two 31 (.cl nX [] .nil) .nil) (.wt 38 (.gj 5 ⟨[kdB 44],[]⟩ [] (.two 38 (.cl nX [] .nil) .nil) .nil))))))))
def AR:Spec:=⟨44,⟨[(0,.dat Yq3),(1,.dat Yq3)],[]⟩,[⟨[kdB 0],[]⟩],fun x=>lJ x.1 x.2⟩
def zR:OkSpec Tryd.prog:=⟨AR,aj func44 Ax (by kernel_rfl) (by kernel_rfl),call44⟩
def lF (xa:Tq8) (xb:Tq8):Int→Option (Int⊕(Unit⊕Bool)):=fun i1=>cond (decide (i1 < (xa.2.2.2.2.2.1.length:Int))) ((aa xa.2.2.2.2.2.1 i1).bind fun x2=>(aa xb.2.2.2.2.2.1 i1).bind fun x3=>(lI (x2.1,x2.2.1,x2.2.2.1,x2.2.2.2) (x3.1,x3.2.1,x3.2.2.1,x3.2.2.2)).bind fun t4=>cond (!t4) (some (.inr ((.inr (false))))) (some (.inl (IntKind.wrap .i64 (i1 + 1))))) (some (.inr ((.inl ()))))
def lD (x1:Tq1) (x2:Tq1):Int→Option (Int⊕(Unit⊕(Int⊕(Unit⊕Bool)))):=fun i3=>cond (decide (i3 < (x1.1.length:Int))) ((aa x1.1 i3).bind fun x4=>(aa x2.1 i3).bind fun x5=>cond (!((decide (x4.1=x5.1))&&((decide (x4.2.1=x5.2.1))&&((decide (x4.2.2.1=x5.2.2.1))&&((decide (x4.2.2.2.1=x5.2.2.2.1))&&(x4.2.2.2.2 == x5.2.2.2.2)))))) (some (.inr ((.inr (.inr ((.inr (false)))))))) (some (.inl (IntKind.wrap .i64 (i3 + 1))))) (some (.inr ((.inl ()))))
def lE (xa:Tq8) (xb:Tq8):Int→Option (Int⊕(Unit⊕Bool)):=fun i1=>cond (decide (i1 < (xa.2.2.2.2.2.2.length:Int))) ((aa xa.2.2.2.2.2.2 i1).bind fun x2=>(aa xb.2.2.2.2.2.2 i1).bind fun x3=>cond (!decide ((x2.1.length:Int)=(x3.1.length:Int))) (some (.inr ((.inr (false))))) ((aa xa.2.2.2.2.2.2 i1).bind fun x4=>(aa xb.2.2.2.2.2.2 i1).bind fun x5=>(lJ (x4.2.1,x4.2.2.1,x4.2.2.2.1,x4.2.2.2.2.1,x4.2.2.2.2.2.1,x4.2.2.2.2.2.2) (x5.2.1,x5.2.2.1,x5.2.2.2.1,x5.2.2.2.2.1,x5.2.2.2.2.2.1,x5.2.2.2.2.2.2)).bind fun t6=>cond (!t6) (some (.inr ((.inr (false))))) ((loop (lD x2 x3) 0).bind fun o=>match o with | .inr r=>some r | .inl ()=>some (.inl (IntKind.wrap .i64 (i1 + 1)))))) (some (.inr ((.inl ()))))
def il (xa:Tq8) (xb:Tq8):Option Bool :=
 (cond ((!decide (xa.1=xb.1))||(!decide (xa.2.1=xb.2.1))) (some (true)) ((ic xa.2.2.1 xb.2.2.1).bind fun t1=>some (!t1))).bind fun t2=>(cond (t2) (some (true)) ((ik xa.2.2.2.1 xb.2.2.2.1).bind fun t3=>some (!t3))).bind fun t4=>(cond (t4) (some (true)) ((fV xa.2.2.2.2.1 xb.2.2.2.2.1).bind fun t5=>some (!t5))).bind fun t6=>cond ((t6||(!decide ((xa.2.2.2.2.2.1.length:Int)=(xb.2.2.2.2.2.1.length:Int))))||(!decide ((xa.2.2.2.2.2.2.length:Int)=(xb.2.2.2.2.2.2.length:Int)))) (some (false)) ((loop (lF xa xb) 0).bind fun o=>match o with | .inr r=>some r | .inl ()=>(loop (lE xa xb) 0).bind fun o=>match o with | .inr r=>some r | .inl ()=>some (true))
def zP:Hn Tryd.prog := .gp 5 (.wt 22 (.gj 6 ⟨[kdB 29],[]⟩ [] (.two 22 .nil (.cl sE [] .nil)) (.wt 30 (.gj 6 ⟨[kdB 37],[]⟩ [] (.two 30 .nil (.cl sO [] .nil)) (.wt 38 (.gj 6 ⟨[kdB 45],[]⟩ [] (.two 38 .nil (.cl nT [] .nil)) (.wt 46 (.gp 7 (.wt 55 (.gp 7 (.tw 63 .nil (.jx [] ⟨[],[]⟩ [] (.lp ⟨[kdI 5],[]⟩ (.tw 68 (.mix [] [0,1,2,3,4,5,6,7,8,9] [10,11] [] (.cl Aj [] (.tw 82 .nil .nil))) .nil)) (.jx [] ⟨[],[]⟩ [] (.lp ⟨[kdI 6],[]⟩ (.tw 87 (.mix [] [0,1,2,3,4,5,6,7,8,9,10,11,12,13] [] [] (.mix [] [0,1,2,3,4,5,6,7,8,9,10,11,12,13,14,15,16,17] [18,19,20] [] (.two 107 .nil (.cl zR [] (.tw 122 .nil (.jx [] ⟨[],[]⟩ [] (.lp ⟨[kdI 9],[]⟩ (.tw 126 (.mix [] [0,1,2,3,4,5,6,7,8] [] [] (.tw 137 .nil .nil)) .nil)) .nil)))))) .nil)) .nil)))))))))))))
def yR:Spec:=⟨18,⟨[(0,.dat (.cons Yq1 (.cons Yq1 (.cons (.sl Yq5) (.cons (.sl Yq4) (.cons Yq4 (.cons (.sl (.cons Yq1 (.cons (.sl Yq5) (.cons (.sl Yq4) (.one Yq4))))) (.one (.sl (.cons (.sl Yq6) (.one Yq3))))))))))),(1,.dat (.cons Yq1 (.cons Yq1 (.cons (.sl Yq5) (.cons (.sl Yq4) (.cons Yq4 (.cons (.sl (.cons Yq1 (.cons (.sl Yq5) (.cons (.sl Yq4) (.one Yq4))))) (.one (.sl (.cons (.sl Yq6) (.one Yq3)))))))))))],[]⟩,[⟨[kdB 0],[]⟩],fun x=>il x.1 x.2⟩
def yj:OkSpec Tryd.prog:=⟨yR,aj func18 zP (by kernel_rfl) (by kernel_rfl),call18⟩

def lx (xa:Tq4):Option Bool :=
 cond (decide (800 < (xa.length:Int))) ((fT).bind fun t1=>some (t1)) ((fU xa).bind fun (i2,i3,l4,l5,l6,l7,l9,i10,i11)=>(jK xa).bind fun (i12,i13,l14,l15,l16,l17,l18,i19,i20)=>(il (i2,i3,l4,l5,l6,l7,l9) (i12,i13,l14,l15,l16,l17,l18)).bind fun t21=>(cond ((t21&&(decide (i10=i19)))&&(decide (i11=i20))) ((fT).bind fun t22=>some (t22)) (some (false))).bind fun t23=>some (t23))
def sW:Hn Tryd.prog := .tw 11 (.cl oz [] .nil) (.cl sJ [] (.cl yD [] (.per 6 7 (.per 8 9 (.per 19 20 (.per 21 22 (.cl yj [0,2,4,13,15,17] (.gp 3 (.wt 33 (.gp 3 (.wt 38 (.gj 1 ⟨[kdB 40],[]⟩ [] (.two 38 (.cl oz [] .nil) .nil) .nil))))))))))))
def ou:Spec:=⟨4,⟨[(0,.dat .str)],[]⟩,[⟨[kdB 0],[]⟩],fun x=>lx x⟩
theorem sU:cJ Tryd.prog ou:=aj func4 sW (by kernel_rfl) (by kernel_rfl)
end
section
section
variable {σ β:Type} {body:σ→Option (σ⊕β)}
theorem dx (st:Nat→σ) (n:Nat) {b:β} (h:∀ k,k < n→body (st k)=some (.inl (st (k + 1)))) (he:body (st n)=some (.inr b)):loop body (st 0)=some b:=by
 have:∀ m k,k + m=n→loop body (st k)=some b:=by
   intro m
   induction m with
   | zero => intro k hk; have : k = n := by omega
             subst this; exact aR he
   | succ m ih=>intro k hk; rw [bM (h k (by omega))]; exact ih (k + 1) (by omega)
 exact this n 0 (by omega)
theorem aG (p:Nat→Prop):∀ n,(∃ k,k < n∧p k∧∀ j,j < k→¬ p j)∨∀ j,j < n→¬ p j
 | 0 => .inr (fun j hj=>by omega)
 | n + 1=>by
   rcases aG p n with ⟨k,h1,h2,h3⟩ | h
   . exact .inl ⟨k,by omega,h2,h3⟩
   . by_cases hp:p n
     . exact .inl ⟨n,by omega,hp,h⟩
     . exact .inr (fun j hj=>if e:j=n then e ▸ hp else h j (by omega))
theorem pq (p:Nat→Prop) (st:Nat→σ) (n:Nat) (hit:Nat→β) (e:β) (hgo:∀ k,k < n→¬ p k→body (st k)=some (.inl (st (k + 1)))) (hhit:∀ k,k < n→p k→body (st k)=some (.inr (hit k))) (hend:body (st n)=some (.inr e)) :
   (∃ k,k < n∧p k∧(∀ j,j < k→¬ p j)∧loop body (st 0)=some (hit k))∨((∀ j,j < n→¬ p j)∧loop body (st 0)=some e):=by
 rcases aG p n with ⟨k,h1,h2,h3⟩ | h
 . exact .inl ⟨k,h1,h2,h3,dx st k (fun j hj=>hgo j (by omega) (h3 j hj)) (hhit k h1 h2)⟩
 . exact .inr ⟨h,dx st n (fun k hk=>hgo k hk (h k hk)) hend⟩
end
theorem w64 {x:Int} (h1 : -9223372036854775808≤x) (h2:x≤9223372036854775807):IntKind.wrap .i64 x=x:=by
 rw [IntWalk.i64_left,IntWalk.wrap64_in _ ⟨h1,h2⟩]
theorem aH {k n:Nat} (h:k < n) (hn:n≤9223372036854775807):IntKind.wrap .i64 ((k:Int) + 1)=((k + 1:Nat):Int):=by
 rw [w64 (by omega) (by omega)]; rfl
theorem aw {α:Type} {l:List α} {k:Nat} (h:k < l.length):aa l (k:Int)=some l[k]:=wb rfl h
end
section
theorem dlt {k n:Nat} (h:k < n):decide ((k:Int) < (n:Int))=true:=by simp; omega
theorem dge {k n:Nat} (h:¬ k < n):decide ((k:Int) < (n:Int))=false:=by simp; omega
theorem vN {α:Type} [DecidableEq α] (a b:α):(a == b)=decide (a=b):=Bool.beq_eq_decide_eq a b
section
variable {α β γ σ:Type}
theorem iq {body:Int→Option (Int⊕β)} (xa:List α) (t:α→Bool) (hit:Nat→β) (e:β) (hb:∀ (k:Nat) (h:k < xa.length),body (k:Int)=some (if t xa[k] then .inr (hit k) else .inl ((k + 1:Nat):Int))) (he:body (xa.length:Int)=some (.inr e)) :
   loop body 0=some (match xa.findIdx? t with | some k=>hit k | none=>e):=by
 rcases pq (fun k=>∃ h:k < xa.length,t xa[k]=true) (fun k:Nat=>(k:Int)) xa.length hit e (fun k hk hp=>by
     rw [hb k hk,if_neg (fun h=>hp ⟨hk,h⟩)]) (fun k hk ⟨_,hp⟩=>by rw [hb k hk,if_pos hp]) he with ⟨k,h1,⟨_,h2⟩,h3,h4⟩ | ⟨h1,h2⟩
 . rw [show ((0:Int))=((0:Nat):Int) from rfl,h4]
   have:xa.findIdx? t=some k:=by
     rw [List.findIdx?_eq_some_iff_getElem]
     exact ⟨h1,h2,fun j hj=>fun hc=>h3 j hj ⟨by omega,by simpa using hc⟩⟩
   rw [this]
 . rw [show ((0:Int))=((0:Nat):Int) from rfl,h2]
   have:xa.findIdx? t=none:=by
     rw [List.findIdx?_eq_none_iff]
     intro x hx
     obtain ⟨k,hk,rfl⟩:=List.getElem_of_mem hx
     cases hc:t xa[k] with
     | false=>rfl
     | true=>exact absurd ⟨hk,hc⟩ (h1 k hk)
   rw [this]
theorem uz {body:Int→Option (Int⊕β)} (xa:List α) (t:α→Bool) (hit e:β) (hb:∀ (k:Nat) (h:k < xa.length),body (k:Int)=some (if t xa[k] then .inr hit else .inl ((k + 1:Nat):Int))) (he:body (xa.length:Int)=some (.inr e)) :
   loop body 0=some (if xa.any t then hit else e):=by
 rw [iq xa t (fun _=>hit) e hb he]
 cases h:xa.findIdx? t with
 | none =>
   have:xa.any t=false:=by
     rw [List.any_eq_false]; intro x hx; have:=List.findIdx?_eq_none_iff.1 h x hx; simp [this]
   rw [this]; rfl
 | some k =>
   obtain ⟨hk,h1,_⟩:=List.findIdx?_eq_some_iff_getElem.1 h
   have:xa.any t=true:=List.any_eq_true.2 ⟨_,List.getElem_mem hk,h1⟩
   rw [this]; rfl
theorem oU {δ:Type} {body:(γ×Int)→Option ((γ×Int)⊕δ)} (xa:List α) (acc:Nat→γ) (out:δ) (hb:∀ (k:Nat) (h:k < xa.length),body (acc k,(k:Int))=some (.inl (acc (k + 1),((k + 1:Nat):Int)))) (he:body (acc xa.length,(xa.length:Int))=some (.inr out)) :
   loop body (acc 0,0)=some out:=dx (fun k=>(acc k,(k:Int))) xa.length hb he
theorem lQ [DecidableEq α] {body:Int→Option (Int⊕β)} (xa xb:List α) (hit e:β) (hl:xa.length=xb.length) (hb:∀ (k:Nat) (h:k < xa.length),body (k:Int)=some (if xa[k]=(xb[k]'(by omega)) then .inl ((k + 1:Nat):Int) else .inr hit)) (he:body (xa.length:Int)=some (.inr e)) :
   loop body 0=some (if xa=xb then e else hit):=by
 rw [iq (List.range xa.length) (fun k=>decide (xa[k]?≠xb[k]?)) (fun _=>hit) e (fun k h=>by
     simp at h
     rw [hb k h]
     have h2:k < xb.length:=by omega
     by_cases hq:xa[k]=xb[k] <;> simp [h,h2,hq]) (by simpa using he)]
 by_cases hq:xa=xb
 . subst hq
   have:(List.range xa.length).findIdx? (fun k=>decide (xa[k]?≠xa[k]?))=none:=by rw [List.findIdx?_eq_none_iff]; simp
   rw [this]; simp
 . cases h:(List.range xa.length).findIdx? (fun k=>decide (xa[k]?≠xb[k]?)) with
   | some k=>simp [hq]
   | none =>
     exfalso; apply hq
     rw [List.findIdx?_eq_none_iff] at h
     apply List.ext_getElem?
     intro k
     by_cases hk:k < xa.length
     . simpa using h k (List.mem_range.2 hk)
     . rw [List.getElem?_eq_none (by omega),List.getElem?_eq_none (by omega)]
theorem et {l:List α} {k:Nat} (h:k < l.length):l.take (k + 1)=l.take k++[l[k]]:=List.take_succ_eq_append_getElem h
theorem gO {a b:Nat} (h:a=b):(!decide ((a:Int)=(b:Int)))=false:=by simp [h]
theorem sb {a b:Nat} (h:¬ a=b):(!decide ((a:Int)=(b:Int)))=true:=by simp; omega
end
theorem nM {α:Type} {l:List α} (h:1≤l.length):subL l 1 ((l.length:Nat):Int)=some (l.drop 1):=by
 rw [bV (by omega) (by omega) (by omega)]; simp
end
section
namespace Nu
set_option linter.unusedVariables false
set_option linter.unnecessarySimpa false
set_option linter.unusedSimpArgs false
theorem pN {α:Type} {l m:List α} (h:l≠[]):(l++m).head? = l.head?:=by cases l with
 | nil=>exact absurd rfl h
 | cons a l=>rfl
def ch (d:Nat):UInt8:=UInt8.ofNat (48 + d)
theorem mY {d:Nat} (h:d < 10):(ch d).toNat=48 + d:=by unfold ch; simp; omega
def dec (n:Nat):List UInt8:=if h:n < 10 then [ch n] else dec (n / 10)++[ch (n % 10)]
termination_by n
theorem b9 {n:Nat} (h:n < 10):dec n=[ch n]:=by rw [dec,dif_pos h]
theorem eH {n:Nat} (h:¬ n < 10):dec n=dec (n / 10)++[ch (n % 10)]:=by rw [dec,dif_neg h]
def text (n:Int):List UInt8:=if n < 0 then [] else dec n.toNat
def aT (c:UInt8):Bool:=decide (48≤c.toNat)&&decide (c.toNat≤57)
def dig (c:UInt8):Nat:=c.toNat - 48
def val (s:List UInt8):Nat:=s.foldl (fun a c=>a * 10 + dig c) 0
theorem mB (s:List UInt8) (c:UInt8):val (s++[c])=val s * 10 + dig c:=by simp [val]
def bj (s:List UInt8):Bool:=s.all aT&&(decide (s.length=1)||(decide (1 < s.length)&&!decide (s.head? = some 48)))
def au (s:List UInt8) (most:Int):Int×Int:=if bj s=true then (if most < (val s:Int) then (0,5) else ((val s:Int),0)) else (0,3)
theorem qh {d:Nat} (h:d < 10):aT (ch d)=true:=by unfold aT; rw [mY h]; simp; omega
theorem rP {d:Nat} (h:d < 10):dig (ch d)=d:=by unfold dig; rw [mY h]; omega
theorem xq {c:UInt8} (h:aT c=true):ch (dig c)=c∧dig c < 10:=by
 unfold aT at h; simp only [Bool.and_eq_true,decide_eq_true_eq] at h
 refine ⟨?_,by unfold dig; omega⟩
 unfold ch dig
 rw [show 48 + (c.toNat - 48)=c.toNat by omega]; simp
theorem kw (n:Nat):dec n≠[]:=by
 by_cases h:n < 10
 . rw [b9 h]; simp
 . rw [eH h]; simp
theorem qX (n:Nat):(dec n).all aT=true:=by
 induction n using Nat.strongRecOn with
 | _ n ih =>
   by_cases h:n < 10
   . rw [b9 h]; simp [qh h]
   . rw [eH h,List.all_append,ih (n / 10) (by omega)]; simp [qh (show n % 10 < 10 by omega)]
theorem vT (n:Nat):val (dec n)=n:=by
 induction n using Nat.strongRecOn with
 | _ n ih =>
   by_cases h:n < 10
   . rw [b9 h]; simp [val,rP h]
   . rw [eH h,mB,ih (n / 10) (by omega),rP (by omega)]; omega
theorem vK (n:Nat) (h0:n≠0):(dec n).head?≠some 48:=by
 induction n using Nat.strongRecOn with
 | _ n ih =>
   by_cases h:n < 10
   . rw [b9 h]
     intro hc
     have h1:=mY h
     simp only [List.head?_cons,Option.some.injEq] at hc
     rw [hc] at h1
     simp at h1; omega
   . rw [eH h,pN (kw _)]
     exact ih (n / 10) (by omega) (by omega)
theorem uJ (n:Nat):bj (dec n)=true:=by
 unfold bj
 rw [qX,Bool.true_and]
 by_cases h:n < 10
 . rw [b9 h]; simp
 . have h1:=vK n (by omega)
   have h2:1 < (dec n).length:=by
     rw [eH h,List.length_append]
     have:=List.length_pos_iff.2 (kw (n / 10))
     simp; omega
   simp [h1,h2]
theorem vU {s:List UInt8} (hs:s≠[]) (ha:s.all aT=true) (hh:s.head?≠some 48):0 < val s:=by
 have key:∀ (l:List UInt8) (a:Nat),0 < a→0 < l.foldl (fun a c=>a * 10 + dig c) a:=by
   intro l
   induction l with
   | nil=>intro a h; exact h
   | cons c l ih=>intro a h; rw [List.foldl_cons]; exact ih _ (by show 0 < a * 10 + dig c; omega)
 cases s with
 | nil=>exact absurd rfl hs
 | cons c s =>
   unfold val
   rw [List.foldl_cons]
   refine key s _ ?_
   simp only [List.all_cons,Bool.and_eq_true] at ha
   have h1:c≠48:=fun e=>hh (by rw [e]; rfl)
   have h2:=ha.1
   unfold aT at h2; simp only [Bool.and_eq_true,decide_eq_true_eq] at h2
   have h3:c.toNat≠48:=fun e=>h1 (by apply UInt8.toNat_inj.1; rw [e]; rfl)
   unfold dig; omega
theorem wA:∀ (n:Nat) (s:List UInt8),s.length=n→bj s=true→dec (val s)=s:=by
 intro n
 induction n with
 | zero=>intro s hl h; obtain rfl:=List.length_eq_zero_iff.1 hl; simp [bj] at h
 | succ n ih =>
   intro s hl h
   rcases List.eq_nil_or_concat s with rfl | ⟨t,c,rfl⟩
   . simp at hl
   rw [List.concat_eq_append] at *
   unfold bj at h
   simp only [List.all_append,List.all_cons,List.all_nil,Bool.and_true,Bool.and_eq_true] at h
   obtain ⟨⟨h1,h2⟩,h3⟩:=h
   obtain ⟨h4,h5⟩:=xq h2
   rw [mB]
   by_cases ht:t=[]
   . subst ht
     rw [show val []=0 from rfl,Nat.zero_mul,Nat.zero_add,b9 h5,h4]; rfl
   . have hh:t.head?≠some 48:=by
       have:1 < (t++[c]).length:=by have:=List.length_pos_iff.2 ht; simp; omega
       have h6:¬ (t++[c]).length=1:=by omega
       simp only [h6,this,decide_false,decide_true,Bool.false_or,Bool.true_and,Bool.not_eq_true',decide_eq_false_iff_not] at h3
       rwa [pN ht] at h3
     have hv:=vU ht h1 hh
     have hn:bj t=true:=by
       unfold bj; rw [h1,Bool.true_and]
       have:=List.length_pos_iff.2 ht
       by_cases h7:t.length=1
       . simp [h7]
       . have:1 < t.length:=by omega
         simp [this,hh]
     rw [eH (by omega),show (val t * 10 + dig c) / 10=val t by omega,show (val t * 10 + dig c) % 10=dig c by omega,ih t (by simpa using hl) hn,h4]
theorem vA {s:List UInt8} (h:bj s=true):text (val s:Int)=s:=by
 unfold text; rw [if_neg (by omega)]; exact wA _ s rfl h
theorem jS {n:Int} (h:0≤n) (most:Int):au (text n) most=if most < n then (0,5) else (n,0):=by
 have e:text n=dec n.toNat:=by unfold text; rw [if_neg (by omega)]
 rw [e]; unfold au
 rw [if_pos (uJ _),vT,Int.toNat_of_nonneg h]
theorem vV:∀ (k n:Nat),n < 10 ^ (k + 1)→(dec n).length≤k + 1:=by
 intro k
 induction k with
 | zero=>intro n h; rw [b9 (by simpa using h)]; simp
 | succ k ih =>
   intro n h
   by_cases hn:n < 10
   . rw [b9 hn]; simp
   . rw [eH hn,List.length_append]
     have:=ih (n / 10) (by rw [Nat.pow_succ] at h; omega)
     simp; omega
theorem cQ {n:Int} (h:n≤9223372036854775807):(text n).length≤19:=by
 unfold text; split
 . simp
 . exact vV 18 _ (by omega)
theorem oO (s:List UInt8) (k:Nat):val (s.take k)≤val s:=by
 have key:∀ (l:List UInt8) (a:Nat),a≤l.foldl (fun a c=>a * 10 + dig c) a:=by
   intro l
   induction l with
   | nil=>intro a; exact Nat.le_refl _
   | cons c l ih=>intro a; rw [List.foldl_cons]; exact Nat.le_trans (by show a≤a * 10 + dig c; omega) (ih _)
 conv=>rhs; rw [← List.take_append_drop k s]
 unfold val
 rw [List.foldl_append]
 exact key _ _
theorem dY {n:Int} {c:UInt8} (hc:aT c=false):c∉text n:=by
 unfold text; split
 . simp
 . intro h
   have:=List.all_eq_true.1 (qX n.toNat) c h
   rw [hc] at this; cases this
theorem jW (c:UInt8):∀ s:List UInt8,Lib.index s [c]=match s.findIdx? (fun x=>decide (x=c)) with | some k=>(k:Int) | none=>-1
 | []=>by simp [Lib.index]
 | b :: l=>by
   unfold Lib.index
   rw [jW c l,List.findIdx?_cons]
   by_cases h:b=c
   . subst h; simp
   . have:([c]:List UInt8).isPrefixOf (b :: l)=false:=by simp [List.isPrefixOf]; exact fun e=>h e.symm
     rw [this]
     simp only [Bool.false_eq_true,if_false,h,decide_false]
     cases hq:l.findIdx? (fun x=>decide (x=c)) with
     | none=>simp
     | some k =>
       have:((k:Int) == -1)=false:=by rw [beq_eq_false_iff_ne]; omega
       simp [this]
theorem wC (c:UInt8) (s:List UInt8):Lib.cut s [c]=match s.findIdx? (fun x=>decide (x=c)) with | some k=>(s.take k,s.drop (k + 1),true) | none=>(s,[],false):=by
 unfold Lib.cut
 rw [jW]
 cases s.findIdx? (fun x=>decide (x=c)) with
 | none=>simp
 | some k=>simp
def hd (b:UInt8):List (List UInt8)→List (List UInt8)
 | p :: ps=>(b :: p) :: ps
 | []=>[[b]]
def ae (c:UInt8):List UInt8→List (List UInt8)
 | []=>[[]]
 | b :: l=>if b=c then [] :: ae c l else hd b (ae c l)
theorem fd (c b:UInt8) (l:List UInt8):ae c (b :: l)=if b=c then [] :: ae c l else hd b (ae c l):=rfl
theorem lY (c:UInt8):∀ s,ae c s≠[]
 | []=>by simp [ae]
 | b :: l=>by
   rw [fd]; split
   . simp
   . cases ae c l <;> simp [hd]
theorem jQ (c:UInt8):∀ (s:List UInt8) (k:Nat),s.findIdx? (fun x=>decide (x=c))=some k→ae c s=s.take k :: ae c (s.drop (k + 1))
 | [],k,h=>by simp at h
 | b :: l,k,h=>by
   rw [List.findIdx?_cons] at h
   rw [fd]
   by_cases hb:b=c
   . subst hb; simp at h; subst h; simp
   . simp only [hb,decide_false,Bool.false_eq_true,if_false] at h ⊢
     cases hq:l.findIdx? (fun x=>decide (x=c)) with
     | none=>rw [hq] at h; simp at h
     | some j =>
       rw [hq] at h; simp at h; subst h
       rw [jQ c l j hq]; simp [hd]
theorem ip (c:UInt8):∀ (s:List UInt8),s.findIdx? (fun x=>decide (x=c))=none→ae c s=[s]
 | [],h=>rfl
 | b :: l,h=>by
   rw [List.findIdx?_cons] at h
   rw [fd]
   by_cases hb:b=c
   . subst hb; simp at h
   . simp only [hb,decide_false,Bool.false_eq_true,if_false] at h ⊢
     cases hq:l.findIdx? (fun x=>decide (x=c)) with
     | none=>rw [ip c l hq]; rfl
     | some j=>rw [hq] at h; simp at h
theorem oD (c:UInt8):∀ (k:Nat) (s:List UInt8),s.count c=k→Lib.splitK [c] 0 k s=ae c s:=by
 intro k
 induction k with
 | zero =>
   intro s h
   have:s.findIdx? (fun x=>decide (x=c))=none:=by
     rw [List.findIdx?_eq_none_iff]
     intro x hx
     rw [List.count_eq_zero] at h
     simp only [decide_eq_false_iff_not]
     rintro rfl; exact h hx
   rw [ip c s this]; rfl
 | succ k ih =>
   intro s h
   unfold Lib.splitK
   rw [jW]
   cases hq:s.findIdx? (fun x=>decide (x=c)) with
   | none =>
     rw [List.findIdx?_eq_none_iff] at hq
     have:c∈s:=by rw [← List.count_pos_iff]; omega
     have:=hq c this
     simp at this
   | some j =>
     have:((j:Int) == -1)=false:=by rw [beq_eq_false_iff_ne]; omega
     simp only [this,Bool.false_eq_true,if_false,Int.toNat_natCast,Nat.add_zero,List.length_cons,List.length_nil,Nat.zero_add]
     rw [jQ c s j hq]
     have e:(s.drop (j + 1)).count c=k:=by
       obtain ⟨hj,h1,h2⟩:=List.findIdx?_eq_some_iff_getElem.1 hq
       have e1:s=s.take j++s[j] :: s.drop (j + 1):=by rw [List.getElem_cons_drop,List.take_append_drop]
       have e2:(s.take j).count c=0:=by
         rw [List.count_eq_zero]
         intro hm
         obtain ⟨i,hi,e⟩:=List.getElem_of_mem hm
         have hij:i < j:=by rw [List.length_take] at hi; omega
         have:=h2 i hij
         rw [List.getElem_take] at e
         simp [e] at this
       have e3:s[j]=c:=by simpa using h1
       have e4:=congrArg (List.count c) e1
       rw [List.count_append,e2,e3,List.count_cons_self] at e4
       omega
     rw [ih _ e]
theorem jR (c:UInt8):∀ (p s:List UInt8),c∉p→ae c (p++c :: s)=p :: ae c s
 | [],s,h=>by simp [ae]
 | b :: p,s,h=>by
   have hb:b≠c:=fun e=>h (by simp [e])
   rw [List.cons_append,fd,if_neg hb,jR c p s (fun e=>h (by simp [e]))]; rfl
theorem oR (c:UInt8) (p:List UInt8) (h:c∉p):ae c p=[p]:=by
 refine ip c p ?_
 rw [List.findIdx?_eq_none_iff]
 intro x hx
 simp only [decide_eq_false_iff_not]
 rintro rfl; exact h hx
def ak (c:UInt8):List (List UInt8)→List UInt8
 | []=>[]
 | p :: ps=>p++ps.flatMap (c :: ·)
theorem lS (c:UInt8) (p q:List UInt8) (ps:List (List UInt8)):ak c (p :: q :: ps)=p++c :: ak c (q :: ps):=by simp [ak]
theorem jN (c:UInt8):∀ (l:List (List UInt8)),l≠[]→(∀ p∈l,c∉p)→ae c (ak c l)=l
 | [],h,_=>absurd rfl h
 | [p],_,h=>by simp only [ak,List.flatMap_nil,List.append_nil]; exact oR c p (h p (by simp))
 | p :: q :: ps,_,h=>by
   rw [lS,jR c p _ (h p (by simp)),jN c (q :: ps) (by simp) (fun x hx=>h x (by simp at hx ⊢; exact .inr hx))]
theorem oP (c:UInt8):∀ (s:List UInt8),ak c (ae c s)=s
 | []=>rfl
 | b :: l=>by
   have ih:=oP c l
   rw [fd]
   by_cases hb:b=c
   . subst hb
     rw [if_pos rfl]
     cases hq:ae b l with
     | nil=>exact absurd hq (lY b l)
     | cons p ps=>rw [lS,← hq,ih]; rfl
   . rw [if_neg hb]
     cases hq:ae c l with
     | nil=>exact absurd hq (lY c l)
     | cons p ps =>
       rw [hq] at ih
       simp only [ak,hd] at ih ⊢
       rw [List.cons_append,ih]
theorem pp (c:UInt8):∀ (l:List (List UInt8)),Lib.join l [c]=ak c l
 | []=>by simp [Lib.join,ak]
 | [p]=>by simp [Lib.join,ak,List.intercalate]
 | p :: q :: ps=>by
   have ih:=pp c (q :: ps)
   rw [lS,← ih]
   simp [Lib.join,List.intercalate]
def lst (l:List Int):List UInt8:=ak 44 (l.map text)
end Nu
end
theorem ux (xa xb:List Int) (hn:xa.length≤1073741824):eX xa xb=some (decide (xa=xb)):=by
 unfold eX
 by_cases hl:xa.length=xb.length
 . rw [gO hl,cond_false,lQ (body:=jF xa xb) xa xb (.inr false) (.inl ()) hl ?_ ?_]
   . by_cases h:xa=xb <;> simp [h]
   . intro k h; unfold jF
     have h2:k < xb.length:=by omega
     by_cases q:xa[k]=xb[k] <;> simp [aw h,aw h2,h,q,aH h (by omega)]
   . simp [jF]
 . rw [sb hl,cond_true]
   have:¬ xa=xb:=fun h=>hl (by rw [h])
   simp [this]
section
open Go.RowKit Nu
theorem rF (c:UInt8) (h:aT c=true):IntKind.wrap .i64 (IntKind.wrap .u8 (((c.toNat:Nat):Int) - 48))=(dig c:Int)∧dig c < 10:=by
 unfold aT at h; simp only [Bool.and_eq_true,decide_eq_true_eq] at h
 have e:IntKind.wrap .u8 (((c.toNat:Nat):Int) - 48)=(((c.toNat:Nat):Int) - 48) % 256:=IntKind.wrap_u8' _
 have e2:(((c.toNat:Nat):Int) - 48) % 256=((c.toNat:Nat):Int) - 48:=Int.emod_eq_of_lt (by omega) (by omega)
 rw [e,e2,w64 (by omega) (by omega)]
 unfold dig; omega
theorem rG {s:List UInt8} (h:bj s=true):s.all aT=true:=by unfold bj at h; rw [Bool.and_eq_true] at h; exact h.1
theorem yd {s:List UInt8} (h:bj s=true):s≠[]:=by rintro rfl; simp [bj] at h
theorem qm {s:List UInt8} {k:Nat} (h:k < s.length):val (s.take (k + 1))=val (s.take k) * 10 + dig s[k]:=by rw [et h,mB]
theorem wZ (c:UInt8):(decide ((((c.toNat:Nat):Int)) < 48)||decide (57 < (((c.toNat:Nat):Int)))) = !aT c:=by
 unfold aT
 rw [Bool.eq_iff_iff]
 simp only [Bool.or_eq_true,decide_eq_true_eq,Bool.not_eq_true',Bool.and_eq_false_iff,decide_eq_false_iff_not]; omega
theorem qQ {s:List UInt8} {β:Type} {body:Int→Option (Int⊕β)} (hit e:β) (hn:s.length≤1000000)
   (hb:∀ i:Int,body i=cond (decide (i < (((s.length:Nat):Int)))) ((aa s i).bind fun x=>(cond (decide ((((x.toNat:Nat):Int)) < 48)) (some (true)) ((aa s i).bind fun x=>some (decide (57 < (((x.toNat:Nat):Int)))))).bind fun t=>cond (t) (some (.inr hit)) (some (.inl (IntKind.wrap .i64 (i + 1))))) (some (.inr e))) :
   loop body 0=some (if s.all aT then e else hit):=by
 have h:=uz (body:=body) s (fun c=>!aT c) hit e (fun k hk=>by
   rw [hb,dlt hk,cond_true,aw hk,Option.bind_some,aH hk (by omega)]
   rw [← wZ]
   by_cases h1:(((s[k].toNat:Nat):Int)) < 48
   . simp only [h1,decide_true,cond_true,Option.bind_some,Bool.true_or,if_true]
   . simp only [h1,decide_false,cond_false,Option.bind_some,Bool.false_or]
     by_cases h2:57 < (((s[k].toNat:Nat):Int)) <;> simp [h2]) (by rw [hb,dge (by omega),cond_false])
 rw [h]
 congr 1
 cases ha:s.all aT with
 | true =>
   have:s.any (fun c=>!aT c)=false:=by rw [List.any_eq_false]; intro x hx; simp [List.all_eq_true.1 ha x hx]
   rw [this]; rfl
 | false =>
   have:s.any (fun c=>!aT c)=true:=by
     rw [List.all_eq_false] at ha
     obtain ⟨x,hx,h⟩:=ha
     exact List.any_eq_true.2 ⟨x,hx,by simpa using h⟩
   rw [this]; rfl
theorem so {s:List UInt8} (h:0 < s.length):aa s 0=some (s[0]'h):=aw (k:=0) h
theorem rD {s:List UInt8} (h:0 < s.length):decide ((((s[0]'h).toNat:Nat):Int)=48)=decide (s.head? = some 48):=by
 cases s with
 | nil=>simp at h
 | cons b l =>
   simp only [List.getElem_cons_zero,List.head?_cons,Option.some.injEq]
   by_cases hb:b=48
   . subst hb; rfl
   . have:¬ ((b.toNat:Nat):Int)=48:=fun e=>hb (by apply UInt8.toNat_inj.1; simpa using Int.ofNat.inj e)
     simp [hb,this]
theorem tS (s:List UInt8) (hn:s.length≤1000000):jA s=some (bj s):=by
 unfold jA
 by_cases h0:s=[]
 . subst h0; rfl
 have hp:0 < s.length:=List.length_pos_iff.2 h0
 have hl:=qQ (s:=s) (body:=om s) (.inr false) (.inl ()) hn (fun i=>rfl)
 have he:decide (s=([]:List UInt8))=false:=by simp [h0]
 rw [he,cond_false]
 by_cases h1:1 < s.length
 . have e1:decide (1 < (((s.length:Nat):Int)))=true:=by simp; omega
   rw [e1,cond_true,so hp]
   simp only [Option.bind_some,rD hp]
   unfold bj
   have e2:¬ s.length=1:=by omega
   by_cases h2:s.head? = some 48
   . simp [h2,e2]
   . simp only [h2,decide_false,cond_false,hl,e2,h1,decide_true,Bool.false_or,Bool.true_and,Bool.not_false,Bool.and_true]
     cases s.all aT <;> simp
 . have e1:decide (1 < (((s.length:Nat):Int)))=false:=by simp; omega
   rw [e1,cond_false]
   simp only [Option.bind_some,cond_false,hl]
   unfold bj
   have e2:s.length=1:=by omega
   simp only [e2,decide_true,Bool.true_or,Bool.and_true]
   cases s.all aT <;> simp
theorem wh (s:List UInt8) (hn:s.length≤1000000):jL s=some (bj s):=by
 unfold jL
 have hl:=qQ (s:=s) (body:=ow s) (.inr false) (.inl ()) hn (fun i=>rfl)
 rw [hl]
 unfold bj
 cases ha:s.all aT with
 | false=>simp
 | true =>
   by_cases e2:s.length=1
   . simp [e2]
   . by_cases h1:1 < s.length
     . have hp:0 < s.length:=by omega
       have e1:decide (1 < (((s.length:Nat):Int)))=true:=by simp; omega
       have e3:decide ((((s.length:Nat):Int))=1)=false:=by simp; omega
       have:=rD hp
       simp only [e1,e3,e2,h1,so hp,if_true,Option.bind_some,cond_true,cond_false,decide_true,decide_false,Bool.false_or,Bool.true_and,this]
     . have e1:decide (1 < (((s.length:Nat):Int)))=false:=by simp; omega
       have e3:decide ((((s.length:Nat):Int))=1)=false:=by simp; omega
       simp [e1,e3,e2,h1]
theorem ix (s:List UInt8) (most:Int) (hn:s.length≤1000000) (hm : -9223372036854775808≤most) (hm2:most≤9223372036854775807):eo s most=some (au s most):=by
 unfold eo
 rw [tS s hn]
 unfold au
 cases hs:bj s with
 | false=>simp
 | true =>
   have ha:=rG hs
   simp only [Option.bind_some,Bool.not_true,cond_false,if_true]
   have h:=pq (body:=dO s most) (fun k=>most < (val (s.take (k + 1)):Int)) (fun k:Nat=>(((val (s.take k):Nat):Int),(k:Int))) s.length (fun _ => .inr (0,5)) (.inl ((val s:Nat):Int))
   have step:∀ k,k < s.length→(∀ j,j < k→¬ most < (val (s.take (j + 1)):Int))→dO s most (((val (s.take k):Nat):Int),(k:Int))=if most < (val (s.take (k + 1)):Int) then some (.inr (.inr (0,5))) else some (.inl ((((val (s.take (k + 1)):Nat):Int),((k + 1:Nat):Int)))):=by
     intro k hk hprev
     obtain ⟨b1,b2⟩:=rF s[k] (List.all_eq_true.1 ha _ (List.getElem_mem hk))
     have hv:=qm hk
     have hpre:k=0∨((val (s.take k):Nat):Int)≤most:=by
       rcases Nat.eq_zero_or_pos k with h | h
       . exact .inl h
       . right
         have:=hprev (k - 1) (by omega)
         rw [show k - 1 + 1=k by omega] at this
         omega
     have hz:k=0→val (s.take k)=0:=fun e=>by subst e; rfl
     unfold dO
     simp only [dlt hk,cond_true,aw hk,Option.bind_some,b1]
     rw [hv]
     by_cases h1:most < (dig s[k]:Int)
     . have:most < ((val (s.take k) * 10 + dig s[k]:Nat):Int):=by omega
       rw [if_pos this]; simp [h1]
     . have e1:IntKind.wrap .i64 (most - (dig s[k]:Int))=most - (dig s[k]:Int):=w64 (by omega) (by omega)
       have e2:Int.tdiv (most - (dig s[k]:Int)) 10=(most - (dig s[k]:Int)) / 10:=Int.tdiv_eq_ediv_of_nonneg (by omega)
       have e3:IntKind.wrap .i64 ((most - (dig s[k]:Int)) / 10)=(most - (dig s[k]:Int)) / 10:=w64 (by omega) (by omega)
       rw [e1,e2,e3]
       by_cases h2:most < ((val (s.take k) * 10 + dig s[k]:Nat):Int)
       . have:(most - (dig s[k]:Int)) / 10 < ((val (s.take k):Nat):Int):=by omega
         rw [if_pos h2]; simp [this]
       . have:¬ (most - (dig s[k]:Int)) / 10 < ((val (s.take k):Nat):Int):=by omega
         rw [if_neg h2]
         have w1:IntKind.wrap .i64 (((val (s.take k):Nat):Int) * 10)=((val (s.take k):Nat):Int) * 10:=w64 (by omega) (by omega)
         have w2:IntKind.wrap .i64 (((val (s.take k):Nat):Int) * 10 + (dig s[k]:Int))=((val (s.take k) * 10 + dig s[k]:Nat):Int):=by rw [w64 (by omega) (by omega)]; omega
         simp only [decide_eq_false h1,decide_eq_false this,Bool.or_self,cond_false,w1,w2,aH hk (by omega)]
   rcases aG (fun k=>most < (val (s.take (k + 1)):Int)) s.length with ⟨k,hk,hp,hmin⟩ | hall
   . have hl:loop (dO s most) (0,0)=some (.inr (0,5)):=by
       have:=dx (body:=dO s most) (fun k:Nat=>(((val (s.take k):Nat):Int),(k:Int))) k (b := .inr (0,5)) (fun j hj=>by rw [step j (by omega) (fun i hi=>hmin i (by omega)),if_neg (hmin j hj)]) (by rw [step k hk hmin,if_pos hp])
       exact this
     rw [hl]
     have h9:most < ((val s:Nat):Int):=by have:=oO s (k + 1); omega
     simp [h9]
   . have hl:loop (dO s most) (0,0)=some (.inl ((val s:Nat):Int)):=by
       have:=dx (body:=dO s most) (fun k:Nat=>(((val (s.take k):Nat):Int),(k:Int))) s.length (b := .inl ((val s:Nat):Int)) (fun j hj=>by rw [step j hj (fun i hi=>hall i (by omega)),if_neg (hall j hj)]) (by
         unfold dO
         simp only [dge (show ¬ s.length < s.length by omega),cond_false,List.take_length])
       exact this
     rw [hl]
     have h9:¬ most < ((val s:Nat):Int):=by
       have hp:0 < s.length:=List.length_pos_iff.2 (yd hs)
       have:=hall (s.length - 1) (by omega)
       rw [show s.length - 1 + 1=s.length by omega,List.take_length] at this
       exact this
     simp [h9]
theorem fg (s:List UInt8) (most:Int) (hn:s.length≤1000000) (hm2:most≤9223372036854775807):ep s most=some (au s most):=by
 unfold ep
 rw [wh s hn]
 unfold au
 cases hs:bj s with
 | false=>simp
 | true =>
   have ha:=rG hs
   simp only [Option.bind_some,Bool.not_true,cond_false,if_true]
   have step:∀ k,k < s.length→((val (s.take k):Nat):Int)≤9223372036854775807→en s (((val (s.take k):Nat):Int),(k:Int))=if 9223372036854775807 < (val (s.take (k + 1)):Int) then some (.inr (.inr (0,5))) else some (.inl ((((val (s.take (k + 1)):Nat):Int),((k + 1:Nat):Int)))):=by
     intro k hk hprev
     obtain ⟨b1,b2⟩:=rF s[k] (List.all_eq_true.1 ha _ (List.getElem_mem hk))
     have hv:=qm hk
     unfold en
     simp only [dlt hk,cond_true,aw hk,Option.bind_some,b1]
     rw [hv]
     by_cases h2:9223372036854775807 < ((val (s.take k) * 10 + dig s[k]:Nat):Int)
     . rw [if_pos h2]
       have:(decide (922337203685477580 < ((val (s.take k):Nat):Int))||(decide (((val (s.take k):Nat):Int)=922337203685477580)&&decide (7 < (dig s[k]:Int))))=true:=by
         simp only [Bool.or_eq_true,Bool.and_eq_true,decide_eq_true_eq]; omega
       rw [this]; rfl
     . rw [if_neg h2]
       have:(decide (922337203685477580 < ((val (s.take k):Nat):Int))||(decide (((val (s.take k):Nat):Int)=922337203685477580)&&decide (7 < (dig s[k]:Int))))=false:=by
         rw [Bool.eq_false_iff]; intro hc
         simp only [Bool.or_eq_true,Bool.and_eq_true,decide_eq_true_eq] at hc; omega
       rw [this,cond_false]
       have w1:IntKind.wrap .i64 (((val (s.take k):Nat):Int) * 10)=((val (s.take k):Nat):Int) * 10:=w64 (by omega) (by omega)
       have w2:IntKind.wrap .i64 (((val (s.take k):Nat):Int) * 10 + (dig s[k]:Int))=((val (s.take k) * 10 + dig s[k]:Nat):Int):=by rw [w64 (by omega) (by omega)]; omega
       rw [w1,w2,aH hk (by omega)]
   have hpre:∀ k,(∀ j,j < k→¬ 9223372036854775807 < (val (s.take (j + 1)):Int))→((val (s.take k):Nat):Int)≤9223372036854775807:=fun k h=>by
     rcases Nat.eq_zero_or_pos k with h0 | h0
     . subst h0; show ((0:Nat):Int)≤_; omega
     . have:=h (k - 1) (by omega)
       rw [show k - 1 + 1=k by omega] at this; omega
   rcases aG (fun k=>9223372036854775807 < (val (s.take (k + 1)):Int)) s.length with ⟨k,hk,hp,hmin⟩ | hall
   . have hl:loop (en s) (0,0)=some (.inr (0,5)):=by
       have:=dx (body:=en s) (fun k:Nat=>(((val (s.take k):Nat):Int),(k:Int))) k (b := .inr (0,5)) (fun j hj=>by rw [step j (by omega) (hpre j (fun i hi=>hmin i (by omega))),if_neg (hmin j hj)]) (by rw [step k hk (hpre k hmin),if_pos hp])
       exact this
     rw [hl]
     have h9:most < ((val s:Nat):Int):=by have:=oO s (k + 1); omega
     simp [h9]
   . have hl:loop (en s) (0,0)=some (.inl ((val s:Nat):Int)):=by
       have:=dx (body:=en s) (fun k:Nat=>(((val (s.take k):Nat):Int),(k:Int))) s.length (b := .inl ((val s:Nat):Int)) (fun j hj=>by rw [step j hj (hpre j (fun i hi=>hall i (by omega))),if_neg (hall j hj)]) (by
         unfold en
         simp only [dge (show ¬ s.length < s.length by omega),cond_false,List.take_length])
       exact this
     rw [hl]
     by_cases h9:most < ((val s:Nat):Int) <;> simp [h9]
theorem nD {d:Nat} (h:d < 10):IntKind.wrap .u8 (IntKind.wrap .i64 (48 + (d:Int)))=((48 + d:Nat):Int):=by
 rw [w64 (by omega) (by omega)]
 have e:IntKind.wrap .u8 (48 + (d:Int))=(48 + (d:Int)) % 256:=IntKind.wrap_u8' _
 rw [e,Int.emod_eq_of_lt (by omega) (by omega)]; omega
theorem uI:∀ (k n a:Nat) (l:List Int),n < 10 ^ (k + 1)→n≤9223372036854775807→k < a→a≤20→l.length=20→loop hZ ((n:Int),l,(a:Int))=some (dec n++bL (l.drop a)):=by
 intro k
 induction k with
 | zero =>
   intro n a l hn hb ha ha2 hl
   have h10:n < 10:=by simpa using hn
   have e0:IntKind.wrap .i64 ((a:Int) - 1)=((a - 1:Nat):Int):=by rw [w64 (by omega) (by omega)]; omega
   have e1:Int.tmod (n:Int) 10=(n:Int):=by rw [Int.tmod_eq_emod_of_nonneg (by omega)]; omega
   have e2:Int.tdiv (n:Int) 10=0:=by rw [Int.tdiv_eq_ediv_of_nonneg (by omega)]; omega
   refine aR ?_
   unfold hZ
   have hs:subL (l.set (a - 1) ((48 + n:Nat):Int)) ((a - 1:Nat):Int) (((20:Nat):Int))=some (((48 + n:Nat):Int) :: l.drop a):=by
     rw [bV (by omega) (by omega) (by rw [List.length_set,hl]; omega)]
     simp only [Int.toNat_natCast]
     rw [List.take_of_length_le (by rw [List.length_set,hl]; omega),List.drop_eq_getElem_cons (by rw [List.length_set]; omega),List.getElem_set_self,List.drop_set_of_lt (by omega),show a - 1 + 1=a by omega]
   simp only [e0,aw (show a - 1 < l.length by omega),Option.bind_some,e1,nD h10,e2,Int.toNat_natCast,show IntKind.wrap .i64 0=0 from rfl,decide_true,cond_true,hs]
   rw [b9 h10]
   simp only [bL,List.map_cons,Int.toNat_natCast]; rfl
 | succ k ih =>
   intro n a l hn hb ha ha2 hl
   by_cases h10:n < 10
   . have e0:IntKind.wrap .i64 ((a:Int) - 1)=((a - 1:Nat):Int):=by rw [w64 (by omega) (by omega)]; omega
     have e1:Int.tmod (n:Int) 10=(n:Int):=by rw [Int.tmod_eq_emod_of_nonneg (by omega)]; omega
     have e2:Int.tdiv (n:Int) 10=0:=by rw [Int.tdiv_eq_ediv_of_nonneg (by omega)]; omega
     refine aR ?_
     unfold hZ
     have hs:subL (l.set (a - 1) ((48 + n:Nat):Int)) ((a - 1:Nat):Int) (((20:Nat):Int))=some (((48 + n:Nat):Int) :: l.drop a):=by
       rw [bV (by omega) (by omega) (by rw [List.length_set,hl]; omega)]
       simp only [Int.toNat_natCast]
       rw [List.take_of_length_le (by rw [List.length_set,hl]; omega),List.drop_eq_getElem_cons (by rw [List.length_set]; omega),List.getElem_set_self,List.drop_set_of_lt (by omega),show a - 1 + 1=a by omega]
     simp only [e0,aw (show a - 1 < l.length by omega),Option.bind_some,e1,nD h10,e2,Int.toNat_natCast,show IntKind.wrap .i64 0=0 from rfl,decide_true,cond_true,hs]
     rw [b9 h10]
     simp only [bL,List.map_cons,Int.toNat_natCast]; rfl
   . have e0:IntKind.wrap .i64 ((a:Int) - 1)=((a - 1:Nat):Int):=by rw [w64 (by omega) (by omega)]; omega
     have e1:Int.tmod (n:Int) 10=((n % 10:Nat):Int):=by rw [Int.tmod_eq_emod_of_nonneg (by omega)]; omega
     have e2:IntKind.wrap .i64 (Int.tdiv (n:Int) 10)=((n / 10:Nat):Int):=by rw [Int.tdiv_eq_ediv_of_nonneg (by omega),w64 (by omega) (by omega)]; omega
     have e3:decide (((n / 10:Nat):Int)=0)=false:=by simp; omega
     rw [bM (s':=(((n / 10:Nat):Int),l.set (a - 1) ((48 + n % 10:Nat):Int),((a - 1:Nat):Int))),ih (n / 10) (a - 1) _ (by rw [Nat.pow_succ] at hn; omega) (by omega) (by omega) (by omega) (by rw [List.length_set,hl])]
     . rw [eH h10,List.drop_eq_getElem_cons (by rw [List.length_set]; omega),List.getElem_set_self,List.drop_set_of_lt (by omega),show a - 1 + 1=a by omega]
       simp only [bL,List.map_cons,Int.toNat_natCast,List.append_assoc]; rfl
     . unfold hZ
       simp only [e0,aw (show a - 1 < l.length by omega),Option.bind_some,e1,nD (show n % 10 < 10 by omega),e2,e3,Int.toNat_natCast,cond_false]
theorem ge (n:Int) (h:n≤9223372036854775807):da n=some (text n):=by
 unfold da text
 by_cases h0:n < 0
 . simp [h0]
 . obtain ⟨m,rfl⟩:=Int.eq_ofNat_of_zero_le (show 0≤n by omega)
   rw [if_neg h0,decide_eq_false h0,cond_false]
   have:=uI 18 m 20 [0,0,0,0,0,0,0,0,0,0,0,0,0,0,0,0,0,0,0,0] (by omega) (by omega) (by omega) (by omega) rfl
   rw [show ((20:Nat):Int)=20 from rfl] at this
   rw [this]
   simp [bL]
def pair (b:Int×Int):List UInt8:=if b.1 < 0∨b.2 < 0 then [] else text b.1++58 :: text b.2
theorem vC {l:List Int} (h:∀ x∈l,x≤9223372036854775807):(lst l).length≤l.length * 20:=by
 have key:∀ l:List Int,(∀ x∈l,x≤9223372036854775807)→(l.map text).flatMap (44 :: ·)=l.flatMap (fun x=>44 :: text x)∧(l.flatMap (fun x=>44 :: text x)).length≤l.length * 20:=by
   intro l
   induction l with
   | nil=>intro _; simp
   | cons x l ih =>
     intro h
     obtain ⟨i1,i2⟩:=ih (fun y hy=>h y (by simp [hy]))
     have:=cQ (h x (by simp))
     refine ⟨by simp [List.flatMap_map],?_⟩
     simp only [List.flatMap_cons,List.length_append,List.length_cons]; omega
 unfold lst
 cases l with
 | nil=>simp [ak]
 | cons x l =>
   obtain ⟨i1,i2⟩:=key l (fun y hy=>h y (by simp [hy]))
   have:=cQ (h x (by simp))
   simp only [List.map_cons,ak,i1,List.length_append,List.length_cons]; omega
end
section
open Go.RowKit Nu
def two (a b:List UInt8) (most:Int):Int×Int×Int :=
 if (au a most).2≠0 then (0,0,(au a most).2) else if (au b most).2≠0 then (0,0,(au b most).2) else ((au a most).1,(au b most).1,0)
def aW (s:List UInt8) (most:Int):Int×Int×Int:=match s.findIdx? (fun x=>decide (x=58)) with | some k=>two (s.take k) (s.drop (k + 1)) most | none=>(0,0,3)
theorem j9 {α:Type} {s:List α} {k n:Nat} (h:s.length≤n):(s.take k).length≤n:=by rw [List.length_take]; omega
theorem j8 {α:Type} {s:List α} {k n:Nat} (h:s.length≤n):(s.drop k).length≤n:=by rw [List.length_drop]; omega
theorem uh (s:List UInt8) (most:Int) (hn:s.length≤1000000) (hm : -9223372036854775808≤most) (hm2:most≤9223372036854775807):jy s most=some (aW s most):=by
 unfold jy jj aW
 rw [if_pos (by omega),wC]
 cases s.findIdx? (fun x=>decide (x=58)) with
 | none=>rfl
 | some k =>
   simp only [Option.bind_some,Bool.not_true,cond_false,ix _ most (j9 (k:=k) hn) hm hm2,ix _ most (j8 (k:=k + 1) hn) hm hm2]
   unfold two
   by_cases h1:(au (s.take k) most).2=0
   . by_cases h2:(au (s.drop (k + 1)) most).2=0 <;> simp [h1,h2]
   . simp [h1]
theorem t8 (s:List UInt8) (most:Int) (hn:s.length≤1000000) (hm2:most≤9223372036854775807):jC s most=some (aW s most):=by
 unfold jC aW
 have h:=iq (body:=jw s most) s (fun x=>decide (x=58)) (fun k => .inr (two (s.take k) (s.drop (k + 1)) most)) (.inl ()) (fun k hk=>by
   unfold jw
   simp only [dlt hk,cond_true,aw hk,Option.bind_some,aH hk (by omega)]
   by_cases hc:s[k]=58
   . have e1:decide ((((s[k].toNat:Nat):Int))=58)=true:=by rw [hc]; rfl
     rw [if_pos (by simpa using hc),e1]
     simp only [Bool.not_true,cond_false]
     rw [bV (by omega) (by omega) (by omega),bV (by omega) (by omega) (by omega)]
     simp only [Option.bind_some,Int.toNat_natCast,List.take_length,List.drop_zero,fg _ most (j9 (k:=k) hn) hm2,fg _ most (j8 (k:=k + 1) hn) hm2]
     unfold two
     simp only [show ((0:Int).toNat)=0 from rfl,List.drop_zero,fg _ most (j9 (k:=k) hn) hm2,Option.bind_some]
     by_cases h1:(au (s.take k) most).2=0
     . by_cases h2:(au (s.drop (k + 1)) most).2=0 <;> simp [h1,h2]
     . simp [h1]
   . have e1:decide ((((s[k].toNat:Nat):Int))=58)=false:=decide_eq_false (fun e=>hc (by apply UInt8.toNat_inj.1; simpa using Int.ofNat.inj e))
     rw [if_neg (by simpa using hc),e1]
     rfl) (by unfold jw; simp only [dge (show ¬ s.length < s.length by omega),cond_false])
 rw [h]
 cases s.findIdx? (fun x=>decide (x=58)) <;> rfl
def aE (most:Int):List (List UInt8)→List Int→List Int×Int
 | [],acc=>(acc,0)
 | p :: ps,acc=>if (au p most).2≠0 then ([],(au p most).2) else aE most ps (acc++[(au p most).1])
def b7 (s:List UInt8) (most:Int):List Int×Int:=if s=[] then ([],0) else aE most (ae 44 s) []
theorem cP (c:UInt8):∀ s,(ae c s).length≤s.length + 1
 | []=>by simp [ae]
 | b :: l=>by
   have:=cP c l
   rw [fd]; split
   . simp; omega
   . cases hq:ae c l with
     | nil=>simp [hd]
     | cons p ps=>rw [hq] at this; simp [hd] at this ⊢; omega
theorem fY (c:UInt8) (n:Nat):∀ s,s.length≤n→∀ p∈ae c s,p.length≤n:=by
 intro s hs p hp
 have key:∀ s:List UInt8,∀ p∈ae c s,p.length≤s.length:=by
   intro s
   induction s with
   | nil=>intro p hp; simp [ae] at hp; subst hp; simp
   | cons b l ih =>
     intro p hp
     rw [fd] at hp
     split at hp
     . rcases List.mem_cons.1 hp with rfl | hp
       . simp
       . have:=ih p hp; simp; omega
     . cases hq:ae c l with
       | nil=>exact absurd hq (lY c l)
       | cons q qs =>
         rw [hq] at hp ih
         rcases List.mem_cons.1 hp with rfl | hp
         . have:=ih q (by simp); simp; omega
         . have:=ih p (by simp [hp]); simp; omega
 have:=key s p hp
 omega
theorem uD (most:Int) (l:List (List UInt8)) (hl:l.length≤1000001) (hs:∀ p∈l,p.length≤1000000) (hm : -9223372036854775808≤most) (hm2:most≤9223372036854775807) :
   ∀ (m k:Nat) (acc:List Int),k + m=l.length→acc.length=k→loop (hG most l) (acc,(k:Int))=some (if (aE most (l.drop k) acc).2=0 then .inl (aE most (l.drop k) acc).1 else .inr (aE most (l.drop k) acc)):=by
 intro m
 induction m with
 | zero =>
   intro k acc hk ha
   refine aR ?_
   unfold hG
   rw [List.drop_eq_nil_of_le (by omega)]
   simp only [dge (show ¬ k < l.length by omega),cond_false,aE,if_true]
 | succ m ih =>
   intro k acc hk ha
   have hk':k < l.length:=by omega
   have hp:=ix l[k] most (hs _ (List.getElem_mem hk')) hm hm2
   rw [List.drop_eq_getElem_cons hk']
   by_cases h1:(au l[k] most).2=0
   . have e:aE most (l[k] :: l.drop (k + 1)) acc=aE most (l.drop (k + 1)) (acc++[(au l[k] most).1]):=by simp [aE,h1]
     rw [e,bM (s':=(acc++[(au l[k] most).1],((k + 1:Nat):Int))),ih (k + 1) _ (by omega) (by simp [ha])]
     unfold hG
     simp only [dlt hk',cond_true,aw hk',Option.bind_some,hp,aH hk' (by omega),h1,decide_true,Bool.not_true,cond_false]
     rw [aI (by simp; omega)]
     rfl
   . have e:aE most (l[k] :: l.drop (k + 1)) acc=([],(au l[k] most).2):=by simp [aE,h1]
     rw [e]
     simp only [h1,if_false]
     refine aR ?_
     unfold hG
     simp only [dlt hk',cond_true,aw hk',Option.bind_some,hp,h1,decide_false,Bool.not_false]
theorem uc (s:List UInt8) (most:Int) (hn:s.length≤1000000) (hm : -9223372036854775808≤most) (hm2:most≤9223372036854775807):hO s most=some (b7 s most):=by
 unfold hO b7
 by_cases h0:s=[]
 . subst h0; rfl
 . rw [if_neg h0,decide_eq_false h0,cond_false]
   have e:cZ s [44]=some (ae 44 s):=by
     unfold cZ
     rw [if_pos ⟨by omega,by simp⟩,Lib.splitB_data]
     congr 1
     show Lib.splitK [44] 0 (Lib.count s [44]) s=_
     rw [Lib.count_one]
     exact oD 44 _ s rfl
   rw [e]
   have:=uD most (ae 44 s) (by have:=cP 44 s; omega) (fY 44 _ s hn) hm hm2 (ae 44 s).length 0 [] (by omega) rfl
   rw [show ((0:Nat):Int)=0 from rfl,List.drop_zero] at this
   simp only [Option.bind_some]
   rw [this]
   by_cases h1:(aE most (ae 44 s) []).2=0
   . simp only [h1,if_true,Option.bind_some]; rw [← h1]
   . simp only [h1,if_false,Option.bind_some]
theorem ul (s:List UInt8) (most:Int) (hn:s.length≤1000000) (h0:s≠[]) (hm2:most≤9223372036854775807) :
   ∀ (m f:Nat) (acc:List Int),f + m=s.length + 1→acc.length≤f→loop (c9 s most) (acc,(f:Int),(f:Int))=some (if m=0 then .inl acc else if (aE most (ae 44 (s.drop f)) acc).2=0 then .inl (aE most (ae 44 (s.drop f)) acc).1 else .inr (aE most (ae 44 (s.drop f)) acc)):=by
 have e0:decide (s=([]:List UInt8))=false:=decide_eq_false h0
 have hp:0 < s.length:=List.length_pos_iff.2 h0
 -- on to the next comma, or the end
 have walk:∀ (acc:List Int) (f j:Nat),(∀ i,i < j→∃ h:f + i < s.length,s[f + i]≠44)→loop (c9 s most) (acc,(f:Int),(f:Int))=loop (c9 s most) (acc,(f:Int),((f + j:Nat):Int)):=by
   intro acc f j
   induction j with
   | zero=>intro _; rfl
   | succ j ih =>
     intro h
     rw [ih (fun i hi=>h i (by omega))]
     obtain ⟨hj,hne⟩:=h j (by omega)
     refine bM ?_
     unfold c9
     have e1:decide (((f + j:Nat):Int)≤(((s.length:Nat):Int)))=true:=decide_eq_true (by omega)
     have e2:decide ((((s[f + j].toNat:Nat):Int))=44)=false:=decide_eq_false (fun e=>hne (by apply UInt8.toNat_inj.1; simpa using Int.ofNat.inj e))
     simp only [e0,e1,Bool.not_false,Bool.and_true,cond_true,dlt hj,aw hj,Option.bind_some,e2,aH hj (by omega)]
     rfl
 intro m
 induction m using Nat.strongRecOn with
 | _ m ih =>
   intro f acc hf ha
   by_cases hm0:m=0
   . subst hm0
     rw [if_pos rfl]
     refine aR ?_
     unfold c9
     have e1:decide (((f:Nat):Int)≤(((s.length:Nat):Int)))=false:=decide_eq_false (by omega)
     simp only [e1,Bool.false_and,cond_false]
   rw [if_neg hm0]
   have hdl:(s.drop f).length=s.length - f:=List.length_drop ..
   cases hq:(s.drop f).findIdx? (fun x=>decide (x=44)) with
   | none =>
     rw [ip 44 _ hq]
     rw [List.findIdx?_eq_none_iff] at hq
     rw [walk acc f (s.length - f) (fun i hi=>⟨by omega,by
       have:=hq (s.drop f)[i] (List.getElem_mem (by omega))
       rw [List.getElem_drop] at this; simpa using this⟩),show f + (s.length - f)=s.length by omega]
     have e1:decide (((s.length:Nat):Int)≤(((s.length:Nat):Int)))=true:=decide_eq_true (by omega)
     have e3:decide (((s.length:Nat):Int)=IntKind.wrap .i64 (((s.length:Nat):Int) - 1))=false:=by rw [w64 (by omega) (by omega)]; exact decide_eq_false (by omega)
     have hsub:subL s (f:Int) (((s.length:Nat):Int))=some (s.drop f):=by rw [bV (by omega) (by omega) (by omega)]; simp
     have hr:=fg (s.drop f) most (j8 hn) hm2
     by_cases h1:(au (s.drop f) most).2=0
     . simp only [aE,h1,ne_eq,not_true_eq_false,if_false,if_true]
       rw [bM (s':=(acc++[(au (s.drop f) most).1],((s.length + 1:Nat):Int),((s.length + 1:Nat):Int)))]
       . have:=ih 0 (by omega) (s.length + 1) (acc++[(au (s.drop f) most).1]) (by omega) (by simp; omega)
         rw [this,if_pos rfl]
       . unfold c9
         simp only [e0,e1,Bool.not_false,Bool.and_true,cond_true,dge (show ¬ s.length < s.length by omega),cond_false,Option.bind_some,hsub,hr,h1,decide_true,Bool.not_true,e3]
         rw [aI (by simp; omega),w64 (by omega) (by omega)]
         rfl
     . simp only [aE,h1,ne_eq,not_false_eq_true,if_true,if_false]
       refine aR ?_
       unfold c9
       simp only [e0,e1,Bool.not_false,Bool.and_true,cond_true,dge (show ¬ s.length < s.length by omega),cond_false,Option.bind_some,hsub,hr,h1,decide_false]
   | some j =>
     rw [jQ 44 _ j hq]
     obtain ⟨hj,h44,hmin⟩:=List.findIdx?_eq_some_iff_getElem.1 hq
     rw [walk acc f j (fun i hi=>⟨by omega,by
       have:=hmin i hi
       rw [List.getElem_drop] at this; simpa using this⟩)]
     have hfj:f + j < s.length:=by omega
     have hc:s[f + j]=44:=by rw [List.getElem_drop] at h44; simpa using h44
     have e1:decide (((f + j:Nat):Int)≤(((s.length:Nat):Int)))=true:=decide_eq_true (by omega)
     have e2:decide ((((s[f + j].toNat:Nat):Int))=44)=true:=by rw [hc]; rfl
     have hsub:subL s (f:Int) ((f + j:Nat):Int)=some ((s.drop f).take j):=by
       rw [bV (by omega) (by omega) (by omega)]
       simp only [Int.toNat_natCast]
       rw [List.drop_take,Nat.add_sub_cancel_left]
     have hr:=fg ((s.drop f).take j) most (j9 (j8 hn)) hm2
     rw [List.drop_drop]
     by_cases h1:(au ((s.drop f).take j) most).2=0
     . have e4:aE most ((s.drop f).take j :: ae 44 (s.drop (f + (j + 1)))) acc=aE most (ae 44 (s.drop (f + (j + 1)))) (acc++[(au ((s.drop f).take j) most).1]):=by simp [aE,h1]
       rw [e4]
       by_cases hlast:f + j=s.length - 1
       . have e3:decide (((f + j:Nat):Int)=IntKind.wrap .i64 (((s.length:Nat):Int) - 1))=true:=by rw [w64 (by omega) (by omega)]; exact decide_eq_true (by omega)
         rw [List.drop_eq_nil_of_le (by omega)]
         have e5:aE most (ae 44 []) (acc++[(au ((s.drop f).take j) most).1])=([],3):=rfl
         rw [e5]
         refine aR ?_
         unfold c9
         simp only [e0,e1,Bool.not_false,Bool.and_true,cond_true,dlt hfj,aw hfj,e2,Bool.not_true,Option.bind_some,cond_false,hsub,hr,h1,decide_true,e3]
         rfl
       . have e3:decide (((f + j:Nat):Int)=IntKind.wrap .i64 (((s.length:Nat):Int) - 1))=false:=by rw [w64 (by omega) (by omega)]; exact decide_eq_false (by omega)
         rw [bM (s':=(acc++[(au ((s.drop f).take j) most).1],((f + (j + 1):Nat):Int),((f + (j + 1):Nat):Int)))]
         . have:=ih (m - (j + 1)) (by omega) (f + (j + 1)) (acc++[(au ((s.drop f).take j) most).1]) (by omega) (by simp; omega)
           rw [this,if_neg (by omega)]
         . unfold c9
           simp only [e0,e1,Bool.not_false,Bool.and_true,cond_true,dlt hfj,aw hfj,e2,Bool.not_true,Option.bind_some,cond_false,hsub,hr,h1,decide_true,e3]
           rw [aI (by simp; omega),w64 (by omega) (by omega)]
           have:((f + j:Nat):Int) + 1=((f + (j + 1):Nat):Int):=by omega
           rw [this]; rfl
     . have e4:aE most ((s.drop f).take j :: ae 44 (s.drop (f + (j + 1)))) acc=([],(au ((s.drop f).take j) most).2):=by simp [aE,h1]
       rw [e4]
       simp only [h1,if_false]
       refine aR ?_
       unfold c9
       simp only [e0,e1,Bool.not_false,Bool.and_true,cond_true,dlt hfj,aw hfj,e2,Bool.not_true,Option.bind_some,cond_false,hsub,hr,h1,decide_false]
theorem tZ (s:List UInt8) (most:Int) (hn:s.length≤1000000) (hm2:most≤9223372036854775807):jB s most=some (b7 s most):=by
 unfold jB b7
 by_cases h0:s=[]
 . subst h0
   rw [if_pos rfl,aR (b := .inl ([]:List Int)) (by rfl)]; rfl
 . rw [if_neg h0]
   have:=ul s most hn h0 hm2 (s.length + 1) 0 [] (by omega) (by simp)
   rw [show ((0:Nat):Int)=0 from rfl,List.drop_zero,if_neg (by omega)] at this
   rw [this]
   by_cases h1:(aE most (ae 44 s) []).2=0
   . simp only [h1,if_true,Option.bind_some]; rw [← h1]
   . simp only [h1,if_false,Option.bind_some]
theorem vw {s:List UInt8} {most:Int} (h:(au s most).2=0):bj s=true∧text (au s most).1=s∧0≤(au s most).1∧(au s most).1≤most:=by
 unfold au at h ⊢
 cases hs:bj s with
 | false=>rw [hs] at h; simp at h
 | true =>
   rw [hs] at h
   simp only [if_true] at h ⊢
   split at h
   . simp at h
   . rename_i h1
     rw [if_neg h1]
     exact ⟨trivial,vA hs,by show (0:Int)≤((val s:Nat):Int); omega,by show ((val s:Nat):Int)≤most; omega⟩
theorem d58:aT 58=false:=rfl
theorem d44:aT 44=false:=rfl
theorem wu {c:UInt8} {a b:List UInt8} (h:c∉a):(a++c :: b).findIdx? (fun x=>decide (x=c))=some a.length:=by
 rw [List.findIdx?_eq_some_iff_getElem]
 refine ⟨by simp,by simp,fun j hj=>?_⟩
 rw [List.getElem_append_left hj]
 simp only [Bool.not_eq_true,decide_eq_false_iff_not]
 intro e; exact h (e ▸ List.getElem_mem hj)
theorem tA {b:Int×Int} {most:Int} (h1:0≤b.1) (h2:0≤b.2) (m1:b.1≤most) (m2:b.2≤most):aW (pair b) most=(b.1,b.2,0):=by
 unfold aW pair
 rw [if_neg (by omega),wu (dY d58)]
 simp only [List.take_left,List.drop_append,Nat.add_sub_cancel_left]
 have e:(text b.1).drop ((text b.1).length + 1)=[]:=List.drop_eq_nil_of_le (by omega)
 rw [e]
 have p1:=jS h1 most; have p2:=jS h2 most
 rw [if_neg (by omega)] at p1 p2
 unfold two
 simp [p1,p2]
theorem pr (most:Int):∀ (ps:List (List UInt8)) (acc:List Int),(aE most ps acc).2=0→∃ l,(aE most ps acc).1=acc++l∧l.map text=ps∧(∀ x∈l,0≤x∧x≤most)∧l.length=ps.length
 | [],acc,h=>⟨[],by simp [aE],rfl,by simp,rfl⟩
 | p :: ps,acc,h=>by
   unfold aE at h ⊢
   by_cases h1:(au p most).2=0
   . simp only [h1,ne_eq,not_true_eq_false,if_false] at h ⊢
     obtain ⟨l,e1,e2,e3,e4⟩:=pr most ps _ h
     obtain ⟨_,a1,a2,a3⟩:=vw h1
     refine ⟨(au p most).1 :: l,by rw [e1]; simp,by simp [a1,e2],fun x hx=>?_,by simp [e4]⟩
     rcases List.mem_cons.1 hx with rfl | hx
     . exact ⟨a2,a3⟩
     . exact e3 x hx
   . simp [h1] at h
theorem oX (most:Int):∀ (l acc:List Int),(∀ x∈l,0≤x∧x≤most)→aE most (l.map text) acc=(acc++l,0)
 | [],acc,_=>by simp [aE]
 | x :: l,acc,h=>by
   have hx:=h x (by simp)
   have p1:=jS hx.1 most
   rw [if_neg (by omega)] at p1
   rw [List.map_cons]
   unfold aE
   rw [p1]
   simp only [ne_eq,not_true_eq_false,if_false]
   rw [oX most l _ (fun y hy=>h y (by simp [hy]))]
   simp
theorem tG {l:List Int} {most:Int} (h:∀ x∈l,0≤x∧x≤most):b7 (lst l) most=(l,0):=by
 unfold b7
 by_cases hl:l=[]
 . subst hl; rfl
 . have hne:l.map text≠[]:=by simpa using hl
   have hp:ae 44 (lst l)=l.map text:=jN 44 _ hne (fun p hp=>by obtain ⟨x,_,rfl⟩:=List.mem_map.1 hp; exact dY d44)
   have hnn:lst l≠[]:=by
     intro e
     rw [e] at hp
     cases l with
     | nil=>exact hl rfl
     | cons x l =>
       simp only [ae,List.map_cons,List.cons.injEq] at hp
       have:text x=[]:=hp.1.symm
       have h0:=(h x (by simp)).1
       unfold text at this
       rw [if_neg (by omega)] at this
       exact kw _ this
   rw [if_neg hnn,hp,oX most l [] h]; simp
theorem tT {s:List UInt8} {most:Int} (h:(b7 s most).2=0):lst (b7 s most).1=s∧(∀ x∈(b7 s most).1,0≤x∧x≤most)∧(b7 s most).1.length≤s.length + 1:=by
 unfold b7 at h ⊢
 by_cases h0:s=[]
 . subst h0; simp [lst,ak]
 . rw [if_neg h0] at h ⊢
   obtain ⟨l,e1,e2,e3,e4⟩:=pr most _ [] h
   rw [e1,List.nil_append]
   refine ⟨?_,e3,by have:=cP 44 s; omega⟩
   unfold lst
   rw [e2,oP]
theorem tI {s:List UInt8} {most:Int}:(b7 s most).1.length≤s.length + 1:=by
 by_cases h:(b7 s most).2=0
 . exact (tT h).2.2
 . have:(b7 s most).1=[]:=by
     unfold b7 at h ⊢
     split at h
     . simp at h
     . rename_i h0
       rw [if_neg h0]
       have key:∀ (ps:List (List UInt8)) (acc:List Int),(aE most ps acc).2≠0→(aE most ps acc).1=[]:=by
         intro ps
         induction ps with
         | nil=>intro acc h; exact absurd rfl h
         | cons p ps ih =>
           intro acc h
           unfold aE at h ⊢
           by_cases h1:(au p most).2=0
           . simp only [h1,ne_eq,not_true_eq_false,if_false] at h ⊢; exact ih _ h
           . simp [h1]
       exact key _ _ h
   rw [this]; simp
end
abbrev St:=Int×Bool
def shp (xa xb:List St):Bool:=decide (xa.map (·.2)=xb.map (·.2))
theorem tM (xa xb:List St) {body:Int→Option (Int⊕(Unit⊕Bool))} (hl:xa.length=xb.length) (hb:∀ (k:Nat) (h:k < xa.length),body (k:Int)=some (if xa[k].2=(xb[k]'(by omega)).2 then .inl ((k + 1:Nat):Int) else .inr (.inr false))) (he:body (xa.length:Int)=some (.inr (.inl ()))) :
   loop body 0=some (if shp xa xb then .inl () else .inr false):=by
 have:=lQ (body:=body) (xa.map (·.2)) (xb.map (·.2)) (.inr false) (.inl ()) (by simp [hl]) (fun k h=>by simpa using hb k (by simpa using h)) (by simpa using he)
 rw [this]; unfold shp
 by_cases h:xa.map (·.2)=xb.map (·.2) <;> simp [h]
theorem vZ {xa xb:List St} (h:¬ xa.length=xb.length):shp xa xb=false:=by
 unfold shp; simp only [decide_eq_false_iff_not]
 intro e; exact h (by simpa using congrArg List.length e)
theorem tN (xa xb:List St) (hn:xa.length≤1073741824):jI xa xb=some (shp xa xb):=by
 unfold jI
 by_cases hl:xa.length=xb.length
 . rw [gO hl,cond_false,tM xa xb hl ?_ ?_]
   . cases shp xa xb <;> rfl
   . intro k h; unfold lB
     have h2:k < xb.length:=by omega
     by_cases q:xa[k].2=xb[k].2 <;> simp [aw h,aw h2,h,q,aH h (by omega),vN]
   . simp [lB]
 . rw [sb hl,cond_true,vZ hl]
end
end Go.Proofs.YteciehjlefldmaaDoor
