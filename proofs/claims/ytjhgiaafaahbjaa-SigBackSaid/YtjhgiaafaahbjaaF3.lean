/- What Go functions answer: generated. -/
import Derived.Test.YtjhgiaafaahbjaaF2
namespace Go.Proofs.Ytjhgiaafaahbjaa
open Go.RowKit
set_option linter.unusedVariables false
set_option linter.unnecessarySimpa false
set_option linter.unusedSimpArgs false
set_option maxRecDepth 20000
noncomputable def fn_ref17_Few_l1 (xa : (Int × (List (Int × Int)) × (List (List (Int × Bool))) × (List (Int × Bool)))) : Int → Option (Int ⊕ (Unit ⊕ Bool)) := fun (i283 : Int) => cond (decide (i283 < (((xa.2.2.1.length : Nat) : Int)))) ((getI xa.2.2.1 i283).bind fun x311 => (fn_ref15_Few x311 20).bind fun t326 => cond (!t326) (some (.inr ((.inr (false))))) (some (.inl (IntKind.wrap .i64 (i283 + 1))))) (some (.inr ((.inl ()))))
noncomputable def fn_ref17_Few (xa : (Int × (List (Int × Int)) × (List (List (Int × Bool))) × (List (Int × Bool)))) : Option Bool :=
  (cond ((decide (20 < (((xa.2.1.length : Nat) : Int)))) || (decide (20 < (((xa.2.2.1.length : Nat) : Int))))) (some (true)) ((fn_ref15_Few xa.2.2.2 20).bind fun t184 => some (!t184))).bind fun t179 => cond (t179) (some (false)) ((loop (fn_ref17_Few_l1 xa) 0 : Option (Unit ⊕ Bool)).bind fun o => match o with | .inr r => some r | .inl () => some (true))
set_option maxRecDepth 100000 in
set_option maxHeartbeats 4000000 in
theorem ref17_Few_ok {K : Hp} {xa : (Int × (List (Int × Int)) × (List (List (Int × Bool))) × (List (Int × Bool)))} {adxa_1 : Option Addr} {cpxa_1 : Nat} {adxa_2 : Option Addr} {cpxa_2 : Nat} {adxa_3 : Option Addr} {cpxa_3 : Nat} (fxa_1 : Is K (.sl (.cons (.int .i64) (.one (.int .i64)))) [.slice adxa_1 xa.2.1.length cpxa_1] xa.2.1) (fxa_2 : Is K (.sl (.one (.sl (.cons (.int .i64) (.one .bool))))) [.slice adxa_2 xa.2.2.1.length cpxa_2] xa.2.2.1) (fxa_3 : Is K (.sl (.cons (.int .i64) (.one .bool))) [.slice adxa_3 xa.2.2.2.length cpxa_3] xa.2.2.2) {r : Bool} (h : fn_ref17_Few xa = some r) :
    Tr Try.prog 6 #[.agg #[.int .i64 xa.1, .slice adxa_1 xa.2.1.length cpxa_1, .slice adxa_2 xa.2.2.1.length cpxa_2, .slice adxa_3 xa.2.2.2.length cpxa_3]] K [] (fun v K' L' => (∃ (t167 : Bool), t167 = r ∧ .bool t167 = v ∧ L' = []) ∧ K = K') := by
  refine Tr.k ?_
  refine Tr.of Try.func6 rfl Try.ntmps6 rfl (fun E F => ?_)
  unfold fn_ref17_Few at h
  refine CJ.seq ?_
  refine CJ.region ?_
  refine J.op rfl (A.box (v := .agg #[.int .i64 xa.1, .slice adxa_1 xa.2.1.length cpxa_1, .slice adxa_2 xa.2.2.1.length cpxa_2, .slice adxa_3 xa.2.2.2.length cpxa_3]) (cs := [.int .i64 xa.1, .slice adxa_1 xa.2.1.length cpxa_1, .slice adxa_2 xa.2.2.1.length cpxa_2, .slice adxa_3 xa.2.2.2.length cpxa_3]) rfl rfl) ?_
  rintro _ _ _ ⟨b168, rfl, rfl, rfl⟩
  refine J.val (v := .bool false) rfl rfl (V.as rfl) ?_
  refine J.nil ?_
  refine CJ.seq ?_
  refine CJ.seq ?_
  refine CJ.region ?_
  refine J.val rfl rfl (V.fad Try.underlying28 rfl nz22 rfl) ?_
  refine J.val (v := .slice adxa_1 xa.2.1.length cpxa_1) rfl rfl (V.ld rfl (Ld.sc sc22 (Rd.cl 0 rfl rfl))) ?_
  refine J.val (v := .int .i64 (((xa.2.1.length : Nat) : Int))) rfl rfl (V.len Try.underlying22 rfl) ?_
  refine J.val (v := .bool (decide (20 < (((xa.2.1.length : Nat) : Int))))) rfl rfl (V.gtr rfl rfl) ?_
  refine J.val (v := .bool (decide (20 < (((xa.2.1.length : Nat) : Int))))) rfl rfl (V.mv rfl) ?_
  refine J.cut 5 ?_
  refine @J.meet _ _ _ _ _ _ _ _ _ _ (fun ρ K' L' => Fits [(13, .bool ((decide (20 < (((xa.2.1.length : Nat) : Int)))) || (decide (20 < (((xa.2.2.1.length : Nat) : Int)))))), (1, .pointer (some ⟨b168, 0, none⟩))] ρ ∧ K = K' ∧ L' = Cl b168 28 [.int .i64 xa.1, .slice adxa_1 xa.2.1.length cpxa_1, .slice adxa_2 xa.2.2.1.length cpxa_2, .slice adxa_3 xa.2.2.2.length cpxa_3] :: F) ?_ ?_
  · skip
    rcases bt (decide (20 < (((xa.2.1.length : Nat) : Int)))) with hc171 | hc171
    · skip
      refine J.skip rfl rfl rfl rfl hc171 ?_
      refine J.skip rfl rfl rfl rfl hc171 ?_
      refine J.skip rfl rfl rfl rfl hc171 ?_
      refine J.skip rfl rfl rfl rfl hc171 ?_
      refine J.val (v := .bool true) rfl rfl (V.pickT rfl hc171 rfl) ?_
      refine J.nil ?_
      exact ⟨rfl, ⟨(by simp only [hc171]; rfl), rfl, trivial⟩, rfl, rfl⟩
    · skip
      refine J.run rfl rfl rfl hc171 ?_
      refine J.val rfl rfl (V.fad Try.underlying28 rfl nz23 rfl) ?_
      refine J.run rfl rfl rfl hc171 ?_
      refine J.val (v := .slice adxa_2 xa.2.2.1.length cpxa_2) rfl rfl (V.ld rfl (Ld.sc sc23 (Rd.cl 0 rfl rfl))) ?_
      refine J.run rfl rfl rfl hc171 ?_
      refine J.val (v := .int .i64 (((xa.2.2.1.length : Nat) : Int))) rfl rfl (V.len Try.underlying23 rfl) ?_
      refine J.run rfl rfl rfl hc171 ?_
      refine J.val (v := .bool (decide (20 < (((xa.2.2.1.length : Nat) : Int))))) rfl rfl (V.gtr rfl rfl) ?_
      refine J.val (v := .bool (decide (20 < (((xa.2.2.1.length : Nat) : Int))))) rfl rfl (V.pickF rfl hc171 rfl) ?_
      refine J.nil ?_
      exact ⟨rfl, ⟨(by simp only [hc171]; rfl), rfl, trivial⟩, rfl, rfl⟩
  · rintro ρ _ _ ⟨hf, rfl, rfl⟩
    obtain ⟨ρ, rfl⟩ := hf.ex
    refine J.val (v := .bool ((decide (20 < (((xa.2.1.length : Nat) : Int)))) || (decide (20 < (((xa.2.2.1.length : Nat) : Int)))))) rfl rfl (V.mv rfl) ?_
    refine J.cut 5 ?_
    obtain ⟨t179, ht180, h⟩ := ob h
    refine @J.meet _ _ _ _ _ _ _ _ _ _ (fun ρ K' L' => Fits [(19, .bool t179), (1, .pointer (some ⟨b168, 0, none⟩))] ρ ∧ K = K' ∧ L' = Cl b168 28 [.int .i64 xa.1, .slice adxa_1 xa.2.1.length cpxa_1, .slice adxa_2 xa.2.2.1.length cpxa_2, .slice adxa_3 xa.2.2.2.length cpxa_3] :: F) ?_ ?_
    · skip
      rcases bt ((decide (20 < (((xa.2.1.length : Nat) : Int)))) || (decide (20 < (((xa.2.2.1.length : Nat) : Int))))) with hc181 | hc181
      · have ht180 := ct hc181 ht180
        refine J.skip rfl rfl rfl rfl hc181 ?_
        refine J.skip rfl rfl rfl rfl hc181 ?_
        refine J.skip rfl rfl rfl rfl hc181 ?_
        refine J.skip rfl rfl rfl rfl hc181 ?_
        refine J.val (v := .bool true) rfl rfl (V.pickT rfl hc181 rfl) ?_
        refine J.nil ?_
        have e := Option.some.inj ht180
        subst e
        exact ⟨rfl, ⟨rfl, rfl, trivial⟩, rfl, rfl⟩
      · have ht180 := cf hc181 ht180
        refine J.run rfl rfl rfl hc181 ?_
        refine J.val rfl rfl (V.fad Try.underlying28 rfl nz26 rfl) ?_
        refine J.run rfl rfl rfl hc181 ?_
        refine J.val (v := .agg #[.slice adxa_3 xa.2.2.2.length cpxa_3]) rfl rfl (V.ld rfl (Ld.agg (cs := [.slice adxa_3 xa.2.2.2.length cpxa_3]) Try.underlying26 sz26 rfl (Rd.cls 0 3 rfl rfl))) ?_
        refine J.run rfl rfl rfl hc181 ?_
        obtain ⟨r182, hr183, ht180⟩ := ob ht180
        refine J.op rfl (A.call (L1 := []) Try.call8 rfl (ref15_Few_ok fxa_3 hr183) rfl rfl) ?_
        rintro _ _ _ ⟨v185, _, rfl, ⟨⟨t184, rfl, rfl, rfl⟩, rfl⟩, _, rfl⟩
        refine J.run rfl rfl rfl hc181 ?_
        refine J.val (v := .bool (!t184)) rfl rfl (V.not rfl) ?_
        refine J.val (v := .bool (!t184)) rfl rfl (V.pickF rfl hc181 rfl) ?_
        refine J.nil ?_
        have e := Option.some.inj ht180
        subst e
        exact ⟨rfl, ⟨rfl, rfl, trivial⟩, rfl, rfl⟩
    · rintro ρ _ _ ⟨hf, rfl, rfl⟩
      obtain ⟨ρ, rfl⟩ := hf.ex
      refine J.nil ?_
      refine CJ.cond rfl (fun hc188 => ?_) (fun hc188 => ?_)
      · have h := ct hc188 h
        refine CJ.seq ?_
        refine CJ.region ?_
        refine J.val (v := .bool false) rfl rfl (V.as rfl) ?_
        refine J.nil ?_
        refine CJ.ret ?_
        have e := Option.some.inj h
        subst e
        exact ⟨_, [], Res.one rfl rfl, ⟨false, rfl, rfl, rfl⟩, (Hp.le_refl _), fun w hs => (Sep.dropAt 0 rfl hs)⟩
      · have h := cf hc188 h
        refine CJ.skip ?_
        refine CJ.seq ?_
        refine CJ.seq ?_
        refine CJ.region ?_
        refine J.val (v := .int .i64 0) rfl rfl (V.as rfl) ?_
        refine J.nil ?_
        obtain ⟨o259, ho260, h⟩ := ob h
        refine CJ.joinN (o := o259) (fun s ρ K' L' => () = s ∧ Fits [] ρ ∧ K = K' ∧ F = L') ?_ ?_
        · skip
          refine CJ.block ?_
          refine CJ.loop (fun s ρ K' L' => ∃ (i283 : Int), i283 = s ∧ Fits [(1, .pointer (some ⟨b168, 0, none⟩)), (3, .int .i64 i283)] ρ ∧ K = K' ∧ L' = Cl b168 28 [.int .i64 xa.1, .slice adxa_1 xa.2.1.length cpxa_1, .slice adxa_2 xa.2.2.1.length cpxa_2, .slice adxa_3 xa.2.2.2.length cpxa_3] :: F) ho260 ⟨0, rfl, ⟨rfl, rfl, trivial⟩, rfl, rfl⟩ ?_
          rintro s ρ _ _ r309 ⟨i283, rfl, hf307, rfl, rfl⟩ h306
          obtain ⟨ρ, rfl⟩ := hf307.ex
          refine CJ.seq ?_
          refine CJ.seq ?_
          refine CJ.region ?_
          refine J.val (v := .int .i64 i283) rfl rfl (V.mv rfl) ?_
          refine J.val rfl rfl (V.fad Try.underlying28 rfl nz23 rfl) ?_
          refine J.val (v := .slice adxa_2 xa.2.2.1.length cpxa_2) rfl rfl (V.ld rfl (Ld.sc sc23 (Rd.cl 0 rfl rfl))) ?_
          refine J.val (v := .int .i64 (((xa.2.2.1.length : Nat) : Int))) rfl rfl (V.len Try.underlying23 rfl) ?_
          refine J.val (v := .bool (decide (i283 < (((xa.2.2.1.length : Nat) : Int))))) rfl rfl (V.lss rfl rfl) ?_
          refine J.nil ?_
          refine CJ.cond rfl (fun hc310 => ?_) (fun hc310 => ?_)
          · have h306 := ct hc310 h306
            refine CJ.skip ?_
            refine CJ.seq ?_
            refine CJ.block ?_
            refine CJ.seq ?_
            refine CJ.region ?_
            refine J.val rfl rfl (V.fad Try.underlying28 rfl nz23 rfl) ?_
            refine J.val (v := .slice adxa_2 xa.2.2.1.length cpxa_2) rfl rfl (V.ld rfl (Ld.sc sc23 (Rd.cl 0 rfl rfl))) ?_
            refine J.val (v := .int .i64 i283) rfl rfl (V.mv rfl) ?_
            obtain ⟨x311, hx312, h306⟩ := ob h306
            obtain ⟨p313, p314, p315⟩ := getI_some hx312
            obtain ⟨b316, o317, e318, a319⟩ := (fxa_2).at p314
            refine J.val rfl rfl (V.iad Try.underlying23 sz26 rfl e318 rfl p313 p315) ?_
            obtain ⟨ad320, cp321, c322, f323⟩ := ((a319).one).sl
            refine J.val (v := .agg #[.slice ad320 x311.length cp321]) rfl rfl (V.ld rfl (Ld.aggK (cs := [.slice ad320 x311.length cp321]) Try.underlying26 sz26 rfl ⟨c322, trivial⟩ (Hp.le_refl _))) ?_
            obtain ⟨r324, hr325, h306⟩ := ob h306
            refine J.op rfl (A.call (L1 := []) Try.call8 rfl (ref15_Few_ok f323 hr325) rfl rfl) ?_
            rintro _ _ _ ⟨v327, _, rfl, ⟨⟨t326, rfl, rfl, rfl⟩, rfl⟩, _, rfl⟩
            refine J.val (v := .bool (!t326)) rfl rfl (V.not rfl) ?_
            refine J.nil ?_
            refine CJ.cond rfl (fun hc330 => ?_) (fun hc330 => ?_)
            · have h306 := ct hc330 h306
              refine CJ.seq ?_
              refine CJ.region ?_
              refine J.val (v := .bool false) rfl rfl (V.as rfl) ?_
              refine J.nil ?_
              refine CJ.ret ?_
              have e := Option.some.inj h306
              subst e
              refine ⟨nofun, fun e => ?_⟩
              subst e
              refine .inr ⟨nofun, ?_⟩
              have e := Option.some.inj h
              subst e
              exact ⟨_, [], Res.one rfl rfl, ⟨false, rfl, rfl, rfl⟩, (Hp.le_refl _), fun w hs => (Sep.dropAt 0 rfl hs)⟩
            · have h306 := cf hc330 h306
              refine CJ.skip ?_
              refine CJ.region ?_
              refine J.val (v := .int .i64 i283) rfl rfl (V.mv rfl) ?_
              refine J.val (v := .int .i64 (IntKind.wrap .i64 (i283 + 1))) rfl rfl (V.add rfl rfl) ?_
              refine J.val (v := .int .i64 (IntKind.wrap .i64 (i283 + 1))) rfl rfl (V.as rfl) ?_
              refine J.nil ?_
              have e := Option.some.inj h306
              subst e
              exact ⟨rfl, ⟨IntKind.wrap .i64 (i283 + 1), rfl, ⟨rfl, rfl, trivial⟩, rfl, rfl⟩⟩
          · have h306 := cf hc310 h306
            refine CJ.dropAt 0 rfl ?_
            refine CJ.exit ?_
            have e := Option.some.inj h306
            subst e
            refine ⟨nofun, fun e => ?_⟩
            subst e
            exact .inl ⟨rfl, _, rfl, ⟨rfl, trivial, rfl, rfl⟩⟩
        · rintro s ρ _ _ ho331 ⟨rfl, hf332, rfl, rfl⟩
          subst ho331
          obtain ⟨ρ, rfl⟩ := hf332.ex
          refine PJ.done ?_
          refine CJ.seq ?_
          refine CJ.region ?_
          refine J.val (v := .bool true) rfl rfl (V.as rfl) ?_
          refine J.nil ?_
          refine CJ.ret ?_
          have e := Option.some.inj h
          subst e
          exact ⟨_, [], Res.one rfl rfl, ⟨true, rfl, rfl, rfl⟩, (Hp.le_refl _), fun w hs => hs⟩

noncomputable def fn_leb_Put (xa : Int) : Option (List UInt8) :=
  (fn_leb_All ([xa] : List Int)).bind fun s23 => some (s23)
set_option maxRecDepth 100000 in
set_option maxHeartbeats 4000000 in
theorem leb_Put_ok {K : Hp} {xa : Int}   {r : List UInt8} (h : fn_leb_Put xa = some r) :
    Tr Try.prog 51 #[.int .i64 xa] K [] (fun v K' L' => (∃ (s14 : List UInt8), s14 = r ∧ .string ⟨s14.toArray⟩ = v ∧ L' = []) ∧ K = K') := by
  refine Tr.k ?_
  refine Tr.of Try.func51 rfl Try.ntmps51 rfl (fun E F => ?_)
  unfold fn_leb_Put at h
  refine CJ.seq ?_
  refine CJ.region ?_
  refine J.val (v := .string ⟨([] : List UInt8).toArray⟩) rfl rfl (V.as rfl) ?_
  refine J.nil ?_
  refine CJ.seq ?_
  refine CJ.region ?_
  refine J.val (v := .int .i64 xa) rfl rfl (V.mv rfl) ?_
  refine J.op rfl (A.lit (K0 := Hp.nil) (ty := (.int .i64)) (xs := ([xa] : List Int)) Try.underlying29 inf3 rfl (by decide) rfl rfl rfl ⟨_, _, rfl, rfl, rfl⟩ rfl (by decide)) ?_
  rintro _ _ _ ⟨b15, rfl, rfl, rfl⟩
  have hn16 : ([xa] : List Int) ≠ [] → ∃ g, (some ⟨b15, 0, none⟩ : Option Addr) = some ⟨g, 0, none⟩ := fun _ => ⟨b15, rfl⟩
  obtain ⟨r18, hr19, h⟩ := ob h
  refine J.op rfl (A.call (L1 := [Row Hp.nil 3 (.int .i64) (.slice (some ⟨b15, 0, none⟩) (([xa] : List Int).length) 1) ([xa] : List Int)]) Try.call53 rfl (Tr.lend (Hp.nil_le _) (by decide) (fun K20 hK21 f22 => leb_All_ok f22 hr19)) rfl rfl) ?_
  rintro _ _ _ ⟨v24, _, rfl, ⟨⟨_, ⟨s23, rfl, rfl, rfl⟩, rfl⟩, rfl⟩, _, rfl⟩
  refine J.val (v := .string ⟨s23.toArray⟩) rfl rfl (V.as rfl) ?_
  refine J.nil ?_
  refine CJ.ret ?_
  have e := Option.some.inj h
  subst e
  exact ⟨_, [], Res.one rfl rfl, ⟨s23, rfl, rfl, rfl⟩, (Hp.le_refl _), fun w hs => (Sep.dropAt 0 rfl hs)⟩
noncomputable def fn_sig_PutBounds_l1 (xa : (List (Int × Int))) : ((List Int) × Int) → Option (((List Int) × Int) ⊕ (List Int)) := fun ((l305, i310) : ((List Int) × Int)) => cond (decide (i310 < (((xa.length : Nat) : Int)))) ((getI xa i310).bind fun x342 => (app l305 ([x342.1, x342.2] : List Int)).bind fun z355 => some (.inl ((z355, IntKind.wrap .i64 (i310 + 1))))) (some (.inr (l305)))
noncomputable def fn_sig_PutBounds (xa : (List (Int × Int))) : Option (List UInt8) :=
  (loop (fn_sig_PutBounds_l1 xa) ((([((xa.length : Nat) : Int)] : List Int), 0)) : Option (List Int)).bind fun l272 => (fn_leb_All l272).bind fun s368 => some (s368)
set_option maxRecDepth 100000 in
set_option maxHeartbeats 4000000 in
theorem sig_PutBounds_ok {K : Hp} {xa : (List (Int × Int))} {adxa_0 : Option Addr} {cpxa_0 : Nat} (fxa_0 : Is K (.sl (.cons (.int .i64) (.one (.int .i64)))) [.slice adxa_0 xa.length cpxa_0] xa) {r : List UInt8} (h : fn_sig_PutBounds xa = some r) :
    Tr Try.prog 27 #[.slice adxa_0 xa.length cpxa_0] K [] (fun v K' L' => (∃ (s186 : List UInt8), s186 = r ∧ .string ⟨s186.toArray⟩ = v ∧ L' = []) ∧ K = K') := by
  refine Tr.k ?_
  refine Tr.of Try.func27 rfl Try.ntmps27 rfl (fun E F => ?_)
  unfold fn_sig_PutBounds at h
  refine CJ.seq ?_
  refine CJ.region ?_
  refine J.val (v := .string ⟨([] : List UInt8).toArray⟩) rfl rfl (V.as rfl) ?_
  refine J.nil ?_
  refine CJ.seq ?_
  refine CJ.region ?_
  refine J.val (v := .slice adxa_0 xa.length cpxa_0) rfl rfl (V.mv rfl) ?_
  refine J.val (v := .int .i64 (((xa.length : Nat) : Int))) rfl rfl (V.len Try.underlying22 rfl) ?_
  refine J.op rfl (A.lit (K0 := Hp.nil) (ty := (.int .i64)) (xs := ([((xa.length : Nat) : Int)] : List Int)) Try.underlying29 inf3 rfl (by decide) rfl rfl rfl ⟨_, _, rfl, rfl, rfl⟩ rfl (by decide)) ?_
  rintro _ _ _ ⟨b187, rfl, rfl, rfl⟩
  have hn188 : ([((xa.length : Nat) : Int)] : List Int) ≠ [] → ∃ g, (some ⟨b187, 0, none⟩ : Option Addr) = some ⟨g, 0, none⟩ := fun _ => ⟨b187, rfl⟩
  refine J.val (v := .slice (some ⟨b187, 0, none⟩) ((([((xa.length : Nat) : Int)] : List Int)).length) 1) rfl rfl (V.as rfl) ?_
  refine J.nil ?_
  refine CJ.seq ?_
  refine CJ.seq ?_
  refine CJ.region ?_
  refine J.val (v := .slice adxa_0 xa.length cpxa_0) rfl rfl (V.mv rfl) ?_
  refine J.val (v := .int .i64 (((xa.length : Nat) : Int))) rfl rfl (V.len Try.underlying22 rfl) ?_
  refine J.val (v := .int .i64 0) rfl rfl (V.mv rfl) ?_
  refine J.nil ?_
  obtain ⟨o277, ho278, h⟩ := ob h
  refine CJ.meetN (fun ρ K' L' => ∃ (l272 : (List Int)) (ad273 : Option Addr) (cp274 : Nat), l272 = o277 ∧ Fits [(3, .slice ad273 l272.length cp274)] ρ ∧ K = K' ∧ L' = Row Hp.nil 3 (.int .i64) (.slice ad273 l272.length cp274) l272 :: F) ?_ ?_
  · skip
    refine CJ.block ?_
    refine CJ.loop (fun s ρ K' L' => ∃ (l305 : (List Int)) (i310 : Int) (ad306 : Option Addr) (cp307 : Nat), (l305, i310) = s ∧ Fits [(3, .slice ad306 l305.length cp307), (9, .slice adxa_0 xa.length cpxa_0), (10, .int .i64 (((xa.length : Nat) : Int))), (11, .int .i64 i310)] ρ ∧ K = K' ∧ L' = Row Hp.nil 3 (.int .i64) (.slice ad306 l305.length cp307) l305 :: F) ho278 ⟨([((xa.length : Nat) : Int)] : List Int), 0, (some ⟨b187, 0, none⟩), 1, rfl, ⟨rfl, rfl, rfl, rfl, trivial⟩, rfl, rfl⟩ ?_
    rintro s ρ _ _ r340 ⟨l305, i310, ad306, cp307, rfl, hf338, rfl, rfl⟩ h337
    obtain ⟨ρ, rfl⟩ := hf338.ex
    refine CJ.wit Row.hn (fun hn309 => ?_)
    refine CJ.seq ?_
    refine CJ.region ?_
    refine J.val (v := .bool (decide (i310 < (((xa.length : Nat) : Int))))) rfl rfl (V.lss rfl rfl) ?_
    refine J.nil ?_
    refine CJ.seq ?_
    refine CJ.cond rfl (fun hc341 => ?_) (fun hc341 => ?_)
    · have h337 := ct hc341 h337
      refine CJ.skip ?_
      refine CJ.seq ?_
      refine CJ.block ?_
      refine CJ.seq ?_
      refine CJ.region ?_
      obtain ⟨x342, hx343, h337⟩ := ob h337
      obtain ⟨p344, p345, p346⟩ := getI_some hx343
      obtain ⟨b347, o348, e349, a350⟩ := (fxa_0).at p345
      refine J.val rfl rfl (V.iad Try.underlying22 sz63 rfl e349 rfl p344 p346) ?_
      refine J.val (v := .agg #[.int .i64 x342.1, .int .i64 x342.2]) rfl rfl (V.ld rfl (Ld.aggK (cs := [.int .i64 x342.1, .int .i64 x342.2]) Try.underlying63 sz63 rfl ⟨((a350).fst).int, (((a350).snd).one).int, trivial⟩ (Hp.le_refl _))) ?_
      refine J.op rfl (A.alloc (cs := [.int .i64 0, .int .i64 0]) inf63 rfl) ?_
      rintro _ _ _ ⟨b351, rfl, rfl, rfl⟩
      refine J.op rfl (A.store (v := .agg #[.int .i64 x342.1, .int .i64 x342.2]) (cs' := [.int .i64 x342.1, .int .i64 x342.2]) sz63 rfl rfl rfl rfl rfl rfl) ?_
      rintro _ _ _ ⟨rfl, rfl, rfl⟩
      refine J.nil ?_
      refine CJ.region ?_
      refine J.val (v := .slice ad306 l305.length cp307) rfl rfl (V.mv rfl) ?_
      refine J.val rfl rfl (V.fad Try.underlying63 rfl nz3 rfl) ?_
      refine J.val (v := .int .i64 x342.1) rfl rfl (V.ld rfl (Ld.sc sc3 (Rd.cl 0 rfl rfl))) ?_
      refine J.val rfl rfl (V.fad Try.underlying63 rfl nz3 rfl) ?_
      refine J.val (v := .int .i64 x342.2) rfl rfl (V.ld rfl (Ld.sc sc3 (Rd.cl 0 rfl rfl))) ?_
      refine J.op rfl (A.lit (K0 := Hp.nil) (ty := (.int .i64)) (xs := ([x342.1, x342.2] : List Int)) Try.underlying29 inf3 rfl (by decide) rfl rfl rfl ⟨_, _, rfl, rfl, ⟨_, _, rfl, rfl, rfl⟩⟩ rfl (by decide)) ?_
      rintro _ _ _ ⟨b352, rfl, rfl, rfl⟩
      have hn353 : ([x342.1, x342.2] : List Int) ≠ [] → ∃ g, (some ⟨b352, 0, none⟩ : Option Addr) = some ⟨g, 0, none⟩ := fun _ => ⟨b352, rfl⟩
      obtain ⟨z355, hz356, h337⟩ := ob h337
      refine J.front 2 rfl ?_
      refine J.op rfl (A.appR (Kr := Hp.nil) Try.underlying29 inf3 rfl rfl (by decide) (by decide) rfl rfl (Els.flat rfl) (Els.flat rfl) hz356) ?_
      rintro _ _ _ ⟨v357, rfl, rfl, rfl⟩
      refine J.wit Row.form ?_
      rintro ⟨ad358, cp359, rfl, _, _, hn360⟩
      refine J.val (v := .slice ad358 z355.length cp359) rfl rfl (V.as rfl) ?_
      refine J.nil ?_
      refine CJ.region ?_
      refine J.val (v := .int .i64 (IntKind.wrap .i64 (i310 + 1))) rfl rfl (V.add rfl rfl) ?_
      refine J.val (v := .int .i64 (IntKind.wrap .i64 (i310 + 1))) rfl rfl (V.mv rfl) ?_
      refine J.dropAt 1 rfl ?_
      refine J.nil ?_
      have e := Option.some.inj h337
      subst e
      exact ⟨rfl, ⟨z355, IntKind.wrap .i64 (i310 + 1), ad358, cp359, rfl, ⟨rfl, rfl, rfl, rfl, trivial⟩, rfl, rfl⟩⟩
    · have h337 := cf hc341 h337
      refine CJ.exit ?_
      have e := Option.some.inj h337
      subst e
      refine ⟨nofun, fun e => ?_⟩
      subst e
      exact ⟨rfl, ⟨l305, ad306, cp307, rfl, ⟨rfl, trivial⟩, rfl, rfl⟩⟩
  · rintro ρ _ _ ⟨l272, ad273, cp274, rfl, hf361, rfl, rfl⟩
    obtain ⟨ρ, rfl⟩ := hf361.ex
    refine PJ.wit Row.hn (fun hn276 => ?_)
    refine PJ.done ?_
    refine CJ.seq ?_
    refine CJ.region ?_
    refine J.val (v := .slice ad273 l272.length cp274) rfl rfl (V.mv rfl) ?_
    obtain ⟨r363, hr364, h⟩ := ob h
    refine J.op rfl (A.call (L1 := [Row Hp.nil 3 (.int .i64) (.slice ad273 l272.length cp274) l272]) Try.call53 rfl (Tr.lend (Hp.nil_le _) (by decide) (fun K365 hK366 f367 => leb_All_ok f367 hr364)) rfl rfl) ?_
    rintro _ _ _ ⟨v369, _, rfl, ⟨⟨_, ⟨s368, rfl, rfl, rfl⟩, rfl⟩, rfl⟩, _, rfl⟩
    refine J.val (v := .string ⟨s368.toArray⟩) rfl rfl (V.as rfl) ?_
    refine J.nil ?_
    refine CJ.ret ?_
    have e := Option.some.inj h
    subst e
    exact ⟨_, [], Res.one rfl rfl, ⟨s368, rfl, rfl, rfl⟩, (Hp.le_refl _), fun w hs => (Sep.dropAt 0 rfl hs)⟩
noncomputable def fn_sig_Put_l1 (xa : (Int × (List (Int × Int)) × (List (List (Int × Bool))) × (List (Int × Bool)))) : (Int × List UInt8) → Option ((Int × List UInt8) ⊕ List UInt8) := fun ((i353, s354) : (Int × List UInt8)) => cond (decide (i353 < (((xa.2.2.1.length : Nat) : Int)))) ((getI xa.2.2.1 i353).bind fun x386 => (fn_sig_PutType x386).bind fun s402 => (wrS s354 s402).bind fun s406 => some (.inl ((IntKind.wrap .i64 (i353 + 1), s406)))) (some (.inr (s354)))
noncomputable def fn_sig_Put (xa : (Int × (List (Int × Int)) × (List (List (Int × Bool))) × (List (Int × Bool)))) : Option (List UInt8) :=
  (fn_leb_Put xa.1).bind fun s217 => (wrS ([] : List UInt8) s217).bind fun s221 => (fn_sig_PutBounds xa.2.1).bind fun s226 => (wrS s221 s226).bind fun s230 => (fn_leb_Put (((xa.2.2.1.length : Nat) : Int))).bind fun s235 => (wrS s230 s235).bind fun s239 => (loop (fn_sig_Put_l1 xa) (0, s239) : Option (List UInt8)).bind fun s324 => (fn_sig_PutType xa.2.2.2).bind fun s413 => (wrS s324 s413).bind fun s417 => ((some s417 : Option (List UInt8))).bind fun s420 => some (s420)
set_option maxRecDepth 100000 in
set_option maxHeartbeats 4000000 in
theorem sig_Put_ok {K : Hp} {xa : (Int × (List (Int × Int)) × (List (List (Int × Bool))) × (List (Int × Bool)))} {adxa_1 : Option Addr} {cpxa_1 : Nat} {adxa_2 : Option Addr} {cpxa_2 : Nat} {adxa_3 : Option Addr} {cpxa_3 : Nat} (fxa_1 : Is K (.sl (.cons (.int .i64) (.one (.int .i64)))) [.slice adxa_1 xa.2.1.length cpxa_1] xa.2.1) (fxa_2 : Is K (.sl (.one (.sl (.cons (.int .i64) (.one .bool))))) [.slice adxa_2 xa.2.2.1.length cpxa_2] xa.2.2.1) (fxa_3 : Is K (.sl (.cons (.int .i64) (.one .bool))) [.slice adxa_3 xa.2.2.2.length cpxa_3] xa.2.2.2) {r : List UInt8} (h : fn_sig_Put xa = some r) :
    Tr Try.prog 25 #[.agg #[.int .i64 xa.1, .slice adxa_1 xa.2.1.length cpxa_1, .slice adxa_2 xa.2.2.1.length cpxa_2, .slice adxa_3 xa.2.2.2.length cpxa_3]] K [] (fun v K' L' => (∃ (s212 : List UInt8), s212 = r ∧ .string ⟨s212.toArray⟩ = v ∧ L' = []) ∧ K = K') := by
  refine Tr.k ?_
  refine Tr.of Try.func25 rfl Try.ntmps25 rfl (fun E F => ?_)
  unfold fn_sig_Put at h
  refine CJ.seq ?_
  refine CJ.region ?_
  refine J.op rfl (A.box (v := .agg #[.int .i64 xa.1, .slice adxa_1 xa.2.1.length cpxa_1, .slice adxa_2 xa.2.2.1.length cpxa_2, .slice adxa_3 xa.2.2.2.length cpxa_3]) (cs := [.int .i64 xa.1, .slice adxa_1 xa.2.1.length cpxa_1, .slice adxa_2 xa.2.2.1.length cpxa_2, .slice adxa_3 xa.2.2.2.length cpxa_3]) rfl rfl) ?_
  rintro _ _ _ ⟨b213, rfl, rfl, rfl⟩
  refine J.val (v := .string ⟨([] : List UInt8).toArray⟩) rfl rfl (V.as rfl) ?_
  refine J.nil ?_
  refine CJ.seq ?_
  refine CJ.region ?_
  refine J.op rfl (A.alloc (cs := [.pointer none, .slice none 0 0]) inf89 rfl) ?_
  rintro _ _ _ ⟨b214, rfl, rfl, rfl⟩
  refine J.by (fun w hs => Bld.fresh hs) ?_
  refine J.nil ?_
  refine CJ.seq ?_
  refine CJ.region ?_
  refine J.val rfl rfl (V.fad Try.underlying28 rfl nz3 rfl) ?_
  refine J.val (v := .int .i64 xa.1) rfl rfl (V.ld rfl (Ld.sc sc3 (Rd.cl 1 rfl rfl))) ?_
  obtain ⟨r215, hr216, h⟩ := ob h
  refine J.op rfl (A.call (L1 := []) Try.call51 rfl (leb_Put_ok hr216) rfl rfl) ?_
  rintro _ _ _ ⟨v218, _, rfl, ⟨⟨s217, rfl, rfl, rfl⟩, rfl⟩, _, rfl⟩
  obtain ⟨s221, hs222, h⟩ := ob h
  refine J.op rfl (A.call (L1 := [Bld b214 ([] : List UInt8)]) Try.call50 rfl (WriteString_ok hs222) rfl rfl) ?_
  rintro _ _ _ ⟨v223, _, rfl, ⟨⟨s221, rfl, rfl, rfl⟩, rfl⟩, _, rfl⟩
  refine J.nil ?_
  refine CJ.seq ?_
  refine CJ.region ?_
  refine J.val rfl rfl (V.fad Try.underlying28 rfl nz22 rfl) ?_
  refine J.val (v := .slice adxa_1 xa.2.1.length cpxa_1) rfl rfl (V.ld rfl (Ld.sc sc22 (Rd.cl 1 rfl rfl))) ?_
  obtain ⟨r224, hr225, h⟩ := ob h
  refine J.op rfl (A.call (L1 := []) Try.call27 rfl (sig_PutBounds_ok fxa_1 hr225) rfl rfl) ?_
  rintro _ _ _ ⟨v227, _, rfl, ⟨⟨s226, rfl, rfl, rfl⟩, rfl⟩, _, rfl⟩
  obtain ⟨s230, hs231, h⟩ := ob h
  refine J.op rfl (A.call (L1 := [Bld b214 s221]) Try.call50 rfl (WriteString_ok hs231) rfl rfl) ?_
  rintro _ _ _ ⟨v232, _, rfl, ⟨⟨s230, rfl, rfl, rfl⟩, rfl⟩, _, rfl⟩
  refine J.nil ?_
  refine CJ.seq ?_
  refine CJ.region ?_
  refine J.val rfl rfl (V.fad Try.underlying28 rfl nz23 rfl) ?_
  refine J.val (v := .slice adxa_2 xa.2.2.1.length cpxa_2) rfl rfl (V.ld rfl (Ld.sc sc23 (Rd.cl 1 rfl rfl))) ?_
  refine J.val (v := .int .i64 (((xa.2.2.1.length : Nat) : Int))) rfl rfl (V.len Try.underlying23 rfl) ?_
  obtain ⟨r233, hr234, h⟩ := ob h
  refine J.op rfl (A.call (L1 := []) Try.call51 rfl (leb_Put_ok hr234) rfl rfl) ?_
  rintro _ _ _ ⟨v236, _, rfl, ⟨⟨s235, rfl, rfl, rfl⟩, rfl⟩, _, rfl⟩
  obtain ⟨s239, hs240, h⟩ := ob h
  refine J.op rfl (A.call (L1 := [Bld b214 s230]) Try.call50 rfl (WriteString_ok hs240) rfl rfl) ?_
  rintro _ _ _ ⟨v241, _, rfl, ⟨⟨s239, rfl, rfl, rfl⟩, rfl⟩, _, rfl⟩
  refine J.nil ?_
  refine CJ.seq ?_
  refine CJ.seq ?_
  refine CJ.region ?_
  refine J.val rfl rfl (V.fad Try.underlying28 rfl nz23 rfl) ?_
  refine J.val (v := .slice adxa_2 xa.2.2.1.length cpxa_2) rfl rfl (V.ld rfl (Ld.sc sc23 (Rd.cl 1 rfl rfl))) ?_
  refine J.val (v := .int .i64 (((xa.2.2.1.length : Nat) : Int))) rfl rfl (V.len Try.underlying23 rfl) ?_
  refine J.val (v := .int .i64 0) rfl rfl (V.mv rfl) ?_
  refine J.nil ?_
  obtain ⟨o325, ho326, h⟩ := ob h
  refine CJ.meetN (fun ρ K' L' => ∃ (s324 : List UInt8), s324 = o325 ∧ Fits [(1, .pointer (some ⟨b213, 0, none⟩)), (3, .pointer (some ⟨b214, 0, none⟩))] ρ ∧ K = K' ∧ L' = Cl b213 28 [.int .i64 xa.1, .slice adxa_1 xa.2.1.length cpxa_1, .slice adxa_2 xa.2.2.1.length cpxa_2, .slice adxa_3 xa.2.2.2.length cpxa_3] :: Bld b214 s324 :: F) ?_ ?_
  · skip
    refine CJ.block ?_
    refine CJ.front 1 rfl ?_
    refine CJ.loop (fun s ρ K' L' => ∃ (i353 : Int) (s354 : List UInt8), (i353, s354) = s ∧ Fits [(1, .pointer (some ⟨b213, 0, none⟩)), (3, .pointer (some ⟨b214, 0, none⟩)), (20, .slice adxa_2 xa.2.2.1.length cpxa_2), (21, .int .i64 (((xa.2.2.1.length : Nat) : Int))), (22, .int .i64 i353)] ρ ∧ K = K' ∧ L' = Cl b213 28 [.int .i64 xa.1, .slice adxa_1 xa.2.1.length cpxa_1, .slice adxa_2 xa.2.2.1.length cpxa_2, .slice adxa_3 xa.2.2.2.length cpxa_3] :: Bld b214 s354 :: F) ho326 ⟨0, s239, rfl, ⟨rfl, rfl, rfl, rfl, rfl, trivial⟩, rfl, rfl⟩ ?_
    rintro s ρ _ _ r384 ⟨i353, s354, rfl, hf382, rfl, rfl⟩ h381
    obtain ⟨ρ, rfl⟩ := hf382.ex
    refine CJ.seq ?_
    refine CJ.region ?_
    refine J.val (v := .bool (decide (i353 < (((xa.2.2.1.length : Nat) : Int))))) rfl rfl (V.lss rfl rfl) ?_
    refine J.nil ?_
    refine CJ.seq ?_
    refine CJ.cond rfl (fun hc385 => ?_) (fun hc385 => ?_)
    · have h381 := ct hc385 h381
      refine CJ.skip ?_
      refine CJ.seq ?_
      refine CJ.block ?_
      refine CJ.seq ?_
      refine CJ.region ?_
      obtain ⟨x386, hx387, h381⟩ := ob h381
      obtain ⟨p388, p389, p390⟩ := getI_some hx387
      obtain ⟨b391, o392, e393, a394⟩ := (fxa_2).at p389
      refine J.val rfl rfl (V.iad Try.underlying23 sz26 rfl e393 rfl p388 p390) ?_
      obtain ⟨ad395, cp396, c397, f398⟩ := ((a394).one).sl
      refine J.val (v := .agg #[.slice ad395 x386.length cp396]) rfl rfl (V.ld rfl (Ld.aggK (cs := [.slice ad395 x386.length cp396]) Try.underlying26 sz26 rfl ⟨c397, trivial⟩ (Hp.le_refl _))) ?_
      refine J.op rfl (A.alloc (cs := [.slice none 0 0]) inf26 rfl) ?_
      rintro _ _ _ ⟨b399, rfl, rfl, rfl⟩
      refine J.op rfl (A.store (v := .agg #[.slice ad395 x386.length cp396]) (cs' := [.slice ad395 x386.length cp396]) sz26 rfl rfl rfl rfl rfl rfl) ?_
      rintro _ _ _ ⟨rfl, rfl, rfl⟩
      refine J.nil ?_
      refine CJ.region ?_
      refine J.val (v := .agg #[.slice ad395 x386.length cp396]) rfl rfl (V.ld rfl (Ld.agg (cs := [.slice ad395 x386.length cp396]) Try.underlying26 sz26 rfl (Rd.cls 0 0 rfl rfl))) ?_
      obtain ⟨r400, hr401, h381⟩ := ob h381
      refine J.op rfl (A.call (L1 := []) Try.call26 rfl (sig_PutType_ok f398 hr401) rfl rfl) ?_
      rintro _ _ _ ⟨v403, _, rfl, ⟨⟨s402, rfl, rfl, rfl⟩, rfl⟩, _, rfl⟩
      refine J.front 2 rfl ?_
      obtain ⟨s406, hs407, h381⟩ := ob h381
      refine J.op rfl (A.call (L1 := [Bld b214 s354]) Try.call50 rfl (WriteString_ok hs407) rfl rfl) ?_
      rintro _ _ _ ⟨v408, _, rfl, ⟨⟨s406, rfl, rfl, rfl⟩, rfl⟩, _, rfl⟩
      refine J.nil ?_
      refine CJ.region ?_
      refine J.val (v := .int .i64 (IntKind.wrap .i64 (i353 + 1))) rfl rfl (V.add rfl rfl) ?_
      refine J.val (v := .int .i64 (IntKind.wrap .i64 (i353 + 1))) rfl rfl (V.mv rfl) ?_
      refine J.dropAt 1 rfl ?_
      refine J.front 1 rfl ?_
      refine J.nil ?_
      have e := Option.some.inj h381
      subst e
      exact ⟨rfl, ⟨IntKind.wrap .i64 (i353 + 1), s406, rfl, ⟨rfl, rfl, rfl, rfl, rfl, trivial⟩, rfl, rfl⟩⟩
    · have h381 := cf hc385 h381
      refine CJ.exit ?_
      have e := Option.some.inj h381
      subst e
      refine ⟨nofun, fun e => ?_⟩
      subst e
      exact ⟨rfl, ⟨s354, rfl, ⟨rfl, rfl, trivial⟩, rfl, rfl⟩⟩
  · rintro ρ _ _ ⟨s324, rfl, hf409, rfl, rfl⟩
    obtain ⟨ρ, rfl⟩ := hf409.ex
    refine PJ.done ?_
    refine CJ.seq ?_
    refine CJ.region ?_
    refine J.val rfl rfl (V.fad Try.underlying28 rfl nz26 rfl) ?_
    refine J.val (v := .agg #[.slice adxa_3 xa.2.2.2.length cpxa_3]) rfl rfl (V.ld rfl (Ld.agg (cs := [.slice adxa_3 xa.2.2.2.length cpxa_3]) Try.underlying26 sz26 rfl (Rd.cls 0 3 rfl rfl))) ?_
    obtain ⟨r411, hr412, h⟩ := ob h
    refine J.op rfl (A.call (L1 := []) Try.call26 rfl (sig_PutType_ok fxa_3 hr412) rfl rfl) ?_
    rintro _ _ _ ⟨v414, _, rfl, ⟨⟨s413, rfl, rfl, rfl⟩, rfl⟩, _, rfl⟩
    refine J.front 1 rfl ?_
    obtain ⟨s417, hs418, h⟩ := ob h
    refine J.op rfl (A.call (L1 := [Bld b214 s324]) Try.call50 rfl (WriteString_ok hs418) rfl rfl) ?_
    rintro _ _ _ ⟨v419, _, rfl, ⟨⟨s417, rfl, rfl, rfl⟩, rfl⟩, _, rfl⟩
    refine J.nil ?_
    refine CJ.seq ?_
    refine CJ.region ?_
    obtain ⟨s420, hs421, h⟩ := ob h
    refine J.op rfl (A.call (L1 := [Bld b214 s417]) Try.call52 rfl (BString_ok hs421) rfl rfl) ?_
    rintro _ _ _ ⟨v422, _, rfl, ⟨⟨s420, rfl, rfl, rfl⟩, rfl⟩, _, rfl⟩
    refine J.val (v := .string ⟨s420.toArray⟩) rfl rfl (V.as rfl) ?_
    refine J.nil ?_
    refine CJ.ret ?_
    have e := Option.some.inj h
    subst e
    exact ⟨_, [], Res.one rfl rfl, ⟨s420, rfl, rfl, rfl⟩, (Hp.le_refl _), fun w hs => (Sep.dropAt 0 rfl hs)⟩
noncomputable def fn_ref15_Check_l1 (xa : (List (Int × Bool))) (xb : Int) : Int → Option (Int ⊕ (Unit ⊕ Int)) := fun (i365 : Int) => cond (decide (i365 < (((xa.length : Nat) : Int)))) ((getI xa i365).bind fun x405 => (cond (decide (x405.1 < 0)) (some (true)) ((getI xa i365).bind fun x427 => some (decide (xb ≤ x427.1)))).bind fun t424 => cond (t424) (some (.inr ((.inr (7))))) (some (.inl (IntKind.wrap .i64 (i365 + 1))))) (some (.inr ((.inl ()))))
noncomputable def fn_ref15_Check (xa : (List (Int × Bool))) (xb : Int) : Option Int :=
  cond (decide (16 < (((xa.length : Nat) : Int)))) (some (6)) ((loop (fn_ref15_Check_l1 xa xb) 0 : Option (Unit ⊕ Int)).bind fun o => match o with | .inr r => some r | .inl () => some (0))
set_option maxRecDepth 100000 in
set_option maxHeartbeats 4000000 in
theorem ref15_Check_ok {K : Hp} {xa : (List (Int × Bool))} {xb : Int} {adxa_0 : Option Addr} {cpxa_0 : Nat} (fxa_0 : Is K (.sl (.cons (.int .i64) (.one .bool))) [.slice adxa_0 xa.length cpxa_0] xa) {r : Int} (h : fn_ref15_Check xa xb = some r) :
    Tr Try.prog 38 #[.agg #[.slice adxa_0 xa.length cpxa_0], .int .i64 xb] K [] (fun v K' L' => (∃ (i220 : Int), i220 = r ∧ .int .i64 i220 = v ∧ L' = []) ∧ K = K') := by
  refine Tr.k ?_
  refine Tr.of Try.func38 rfl Try.ntmps38 rfl (fun E F => ?_)
  unfold fn_ref15_Check at h
  refine CJ.seq ?_
  refine CJ.region ?_
  refine J.op rfl (A.box (v := .agg #[.slice adxa_0 xa.length cpxa_0]) (cs := [.slice adxa_0 xa.length cpxa_0]) rfl rfl) ?_
  rintro _ _ _ ⟨b221, rfl, rfl, rfl⟩
  refine J.val (v := .int .i64 0) rfl rfl (V.as rfl) ?_
  refine J.nil ?_
  refine CJ.seq ?_
  refine CJ.seq ?_
  refine CJ.region ?_
  refine J.val rfl rfl (V.fad Try.underlying26 rfl nz24 rfl) ?_
  refine J.val (v := .slice adxa_0 xa.length cpxa_0) rfl rfl (V.ld rfl (Ld.sc sc24 (Rd.cl 0 rfl rfl))) ?_
  refine J.val (v := .int .i64 (((xa.length : Nat) : Int))) rfl rfl (V.len Try.underlying24 rfl) ?_
  refine J.val (v := .bool (decide (16 < (((xa.length : Nat) : Int))))) rfl rfl (V.gtr rfl rfl) ?_
  refine J.nil ?_
  refine CJ.cond rfl (fun hc222 => ?_) (fun hc222 => ?_)
  · have h := ct hc222 h
    refine CJ.seq ?_
    refine CJ.region ?_
    refine J.val (v := .int .i64 6) rfl rfl (V.as rfl) ?_
    refine J.nil ?_
    refine CJ.ret ?_
    have e := Option.some.inj h
    subst e
    exact ⟨_, [], Res.one rfl rfl, ⟨6, rfl, rfl, rfl⟩, (Hp.le_refl _), fun w hs => (Sep.dropAt 0 rfl hs)⟩
  · have h := cf hc222 h
    refine CJ.skip ?_
    refine CJ.seq ?_
    refine CJ.seq ?_
    refine CJ.region ?_
    refine J.val (v := .int .i64 0) rfl rfl (V.as rfl) ?_
    refine J.nil ?_
    obtain ⟨o329, ho330, h⟩ := ob h
    refine CJ.joinN (o := o329) (fun s ρ K' L' => () = s ∧ Fits [] ρ ∧ K = K' ∧ F = L') ?_ ?_
    · skip
      refine CJ.block ?_
      refine CJ.loop (fun s ρ K' L' => ∃ (i365 : Int), i365 = s ∧ Fits [(1, .int .i64 xb), (2, .pointer (some ⟨b221, 0, none⟩)), (5, .int .i64 i365)] ρ ∧ K = K' ∧ L' = Cl b221 26 [.slice adxa_0 xa.length cpxa_0] :: F) ho330 ⟨0, rfl, ⟨rfl, rfl, rfl, trivial⟩, rfl, rfl⟩ ?_
      rintro s ρ _ _ r403 ⟨i365, rfl, hf401, rfl, rfl⟩ h400
      obtain ⟨ρ, rfl⟩ := hf401.ex
      refine CJ.seq ?_
      refine CJ.seq ?_
      refine CJ.region ?_
      refine J.val (v := .int .i64 i365) rfl rfl (V.mv rfl) ?_
      refine J.val rfl rfl (V.fad Try.underlying26 rfl nz24 rfl) ?_
      refine J.val (v := .slice adxa_0 xa.length cpxa_0) rfl rfl (V.ld rfl (Ld.sc sc24 (Rd.cl 0 rfl rfl))) ?_
      refine J.val (v := .int .i64 (((xa.length : Nat) : Int))) rfl rfl (V.len Try.underlying24 rfl) ?_
      refine J.val (v := .bool (decide (i365 < (((xa.length : Nat) : Int))))) rfl rfl (V.lss rfl rfl) ?_
      refine J.nil ?_
      refine CJ.cond rfl (fun hc404 => ?_) (fun hc404 => ?_)
      · have h400 := ct hc404 h400
        refine CJ.skip ?_
        refine CJ.seq ?_
        refine CJ.block ?_
        refine CJ.seq ?_
        refine CJ.region ?_
        refine J.val rfl rfl (V.fad Try.underlying26 rfl nz24 rfl) ?_
        refine J.val (v := .slice adxa_0 xa.length cpxa_0) rfl rfl (V.ld rfl (Ld.sc sc24 (Rd.cl 0 rfl rfl))) ?_
        refine J.val (v := .int .i64 i365) rfl rfl (V.mv rfl) ?_
        obtain ⟨x405, hx406, h400⟩ := ob h400
        obtain ⟨p407, p408, p409⟩ := getI_some hx406
        obtain ⟨b410, o411, e412, a413⟩ := (fxa_0).at p408
        refine J.val rfl rfl (V.iad Try.underlying24 sz60 rfl e412 rfl p407 p409) ?_
        refine J.val rfl rfl (V.fad Try.underlying60 rfl nz3 rfl) ?_
        refine J.val (v := .int .i64 x405.1) rfl rfl (V.ld rfl (Ld.sc sc3 (Rd.k ((a413).fst).int (Hp.le_refl _)))) ?_
        refine J.val (v := .bool (decide (x405.1 < 0))) rfl rfl (V.lss rfl rfl) ?_
        refine J.val (v := .bool (decide (x405.1 < 0))) rfl rfl (V.mv rfl) ?_
        refine J.cut 9 ?_
        obtain ⟨t424, ht425, h400⟩ := ob h400
        refine @J.meet _ _ _ _ _ _ _ _ _ _ (fun ρ K' L' => Fits [(33, .bool t424), (1, .int .i64 xb), (2, .pointer (some ⟨b221, 0, none⟩)), (5, .int .i64 i365)] ρ ∧ K = K' ∧ L' = Cl b221 26 [.slice adxa_0 xa.length cpxa_0] :: F) ?_ ?_
        · skip
          rcases bt (decide (x405.1 < 0)) with hc426 | hc426
          · have ht425 := ct hc426 ht425
            refine J.skip rfl rfl rfl rfl hc426 ?_
            refine J.skip rfl rfl rfl rfl hc426 ?_
            refine J.skip rfl rfl rfl rfl hc426 ?_
            refine J.skip rfl rfl rfl rfl hc426 ?_
            refine J.skip rfl rfl rfl rfl hc426 ?_
            refine J.skip rfl rfl rfl rfl hc426 ?_
            refine J.skip rfl rfl rfl rfl hc426 ?_
            refine J.skip rfl rfl rfl rfl hc426 ?_
            refine J.val (v := .bool true) rfl rfl (V.pickT rfl hc426 rfl) ?_
            refine J.nil ?_
            have e := Option.some.inj ht425
            subst e
            exact ⟨rfl, ⟨rfl, rfl, rfl, rfl, trivial⟩, rfl, rfl⟩
          · have ht425 := cf hc426 ht425
            refine J.run rfl rfl rfl hc426 ?_
            refine J.val rfl rfl (V.fad Try.underlying26 rfl nz24 rfl) ?_
            refine J.run rfl rfl rfl hc426 ?_
            refine J.val (v := .slice adxa_0 xa.length cpxa_0) rfl rfl (V.ld rfl (Ld.sc sc24 (Rd.cl 0 rfl rfl))) ?_
            refine J.run rfl rfl rfl hc426 ?_
            refine J.val (v := .int .i64 i365) rfl rfl (V.mv rfl) ?_
            refine J.run rfl rfl rfl hc426 ?_
            obtain ⟨x427, hx428, ht425⟩ := ob ht425
            obtain ⟨p429, p430, p431⟩ := getI_some hx428
            obtain ⟨b432, o433, e434, a435⟩ := (fxa_0).at p430
            refine J.val rfl rfl (V.iad Try.underlying24 sz60 rfl e434 rfl p429 p431) ?_
            refine J.run rfl rfl rfl hc426 ?_
            refine J.val rfl rfl (V.fad Try.underlying60 rfl nz3 rfl) ?_
            refine J.run rfl rfl rfl hc426 ?_
            refine J.val (v := .int .i64 x427.1) rfl rfl (V.ld rfl (Ld.sc sc3 (Rd.k ((a435).fst).int (Hp.le_refl _)))) ?_
            refine J.run rfl rfl rfl hc426 ?_
            refine J.val (v := .int .i64 xb) rfl rfl (V.mv rfl) ?_
            refine J.run rfl rfl rfl hc426 ?_
            refine J.val (v := .bool (decide (xb ≤ x427.1))) rfl rfl (V.geq rfl rfl) ?_
            refine J.val (v := .bool (decide (xb ≤ x427.1))) rfl rfl (V.pickF rfl hc426 rfl) ?_
            refine J.nil ?_
            have e := Option.some.inj ht425
            subst e
            exact ⟨rfl, ⟨rfl, rfl, rfl, rfl, trivial⟩, rfl, rfl⟩
        · rintro ρ _ _ ⟨hf, rfl, rfl⟩
          obtain ⟨ρ, rfl⟩ := hf.ex
          refine J.nil ?_
          refine CJ.cond rfl (fun hc436 => ?_) (fun hc436 => ?_)
          · have h400 := ct hc436 h400
            refine CJ.seq ?_
            refine CJ.region ?_
            refine J.val (v := .int .i64 7) rfl rfl (V.as rfl) ?_
            refine J.nil ?_
            refine CJ.ret ?_
            have e := Option.some.inj h400
            subst e
            refine ⟨nofun, fun e => ?_⟩
            subst e
            refine .inr ⟨nofun, ?_⟩
            have e := Option.some.inj h
            subst e
            exact ⟨_, [], Res.one rfl rfl, ⟨7, rfl, rfl, rfl⟩, (Hp.le_refl _), fun w hs => (Sep.dropAt 0 rfl hs)⟩
          · have h400 := cf hc436 h400
            refine CJ.skip ?_
            refine CJ.region ?_
            refine J.val (v := .int .i64 i365) rfl rfl (V.mv rfl) ?_
            refine J.val (v := .int .i64 (IntKind.wrap .i64 (i365 + 1))) rfl rfl (V.add rfl rfl) ?_
            refine J.val (v := .int .i64 (IntKind.wrap .i64 (i365 + 1))) rfl rfl (V.as rfl) ?_
            refine J.nil ?_
            have e := Option.some.inj h400
            subst e
            exact ⟨rfl, ⟨IntKind.wrap .i64 (i365 + 1), rfl, ⟨rfl, rfl, rfl, trivial⟩, rfl, rfl⟩⟩
      · have h400 := cf hc404 h400
        refine CJ.dropAt 0 rfl ?_
        refine CJ.exit ?_
        have e := Option.some.inj h400
        subst e
        refine ⟨nofun, fun e => ?_⟩
        subst e
        exact .inl ⟨rfl, _, rfl, ⟨rfl, trivial, rfl, rfl⟩⟩
    · rintro s ρ _ _ ho437 ⟨rfl, hf438, rfl, rfl⟩
      subst ho437
      obtain ⟨ρ, rfl⟩ := hf438.ex
      refine PJ.done ?_
      refine CJ.seq ?_
      refine CJ.region ?_
      refine J.val (v := .int .i64 0) rfl rfl (V.as rfl) ?_
      refine J.nil ?_
      refine CJ.ret ?_
      have e := Option.some.inj h
      subst e
      exact ⟨_, [], Res.one rfl rfl, ⟨0, rfl, rfl, rfl⟩, (Hp.le_refl _), fun w hs => hs⟩
noncomputable def fn_ref17_Check_l1 (xa : (Int × (List (Int × Int)) × (List (List (Int × Bool))) × (List (Int × Bool)))) : Int → Option (Int ⊕ (Unit ⊕ Int)) := fun (i526 : Int) => cond (decide (i526 < (((xa.2.1.length : Nat) : Int)))) ((getI xa.2.1 i526).bind fun x554 => cond ((((decide (x554.1 < 0)) || (decide (xa.1 ≤ x554.1))) || (decide (x554.2 < 0))) || (decide (xa.1 ≤ x554.2))) (some (.inr ((.inr (7))))) (some (.inl (IntKind.wrap .i64 (i526 + 1))))) (some (.inr ((.inl ()))))
noncomputable def fn_ref17_Check_l2 (xa : (Int × (List (Int × Int)) × (List (List (Int × Bool))) × (List (Int × Bool)))) : Int → Option (Int ⊕ (Unit ⊕ Int)) := fun (i747 : Int) => cond (decide (i747 < (((xa.2.2.1.length : Nat) : Int)))) ((getI xa.2.2.1 i747).bind fun x813 => (fn_ref15_Check x813 xa.1).bind fun i828 => cond (!decide (i828 = 0)) (some (.inr ((.inr (i828))))) (some (.inl (IntKind.wrap .i64 (i747 + 1))))) (some (.inr ((.inl ()))))
noncomputable def fn_ref17_Check (xa : (Int × (List (Int × Int)) × (List (List (Int × Bool))) × (List (Int × Bool)))) : Option Int :=
  cond (decide (xa.1 < 0)) (some (7)) (cond (((decide (16 < xa.1)) || (decide (16 < (((xa.2.1.length : Nat) : Int))))) || (decide (16 < (((xa.2.2.1.length : Nat) : Int))))) (some (6)) ((loop (fn_ref17_Check_l1 xa) 0 : Option (Unit ⊕ Int)).bind fun o => match o with | .inr r => some r | .inl () => (loop (fn_ref17_Check_l2 xa) 0 : Option (Unit ⊕ Int)).bind fun o => match o with | .inr r => some r | .inl () => (fn_ref15_Check xa.2.2.2 xa.1).bind fun i838 => some (i838)))
set_option maxRecDepth 100000 in
set_option maxHeartbeats 4000000 in
theorem ref17_Check_ok {K : Hp} {xa : (Int × (List (Int × Int)) × (List (List (Int × Bool))) × (List (Int × Bool)))} {adxa_1 : Option Addr} {cpxa_1 : Nat} {adxa_2 : Option Addr} {cpxa_2 : Nat} {adxa_3 : Option Addr} {cpxa_3 : Nat} (fxa_1 : Is K (.sl (.cons (.int .i64) (.one (.int .i64)))) [.slice adxa_1 xa.2.1.length cpxa_1] xa.2.1) (fxa_2 : Is K (.sl (.one (.sl (.cons (.int .i64) (.one .bool))))) [.slice adxa_2 xa.2.2.1.length cpxa_2] xa.2.2.1) (fxa_3 : Is K (.sl (.cons (.int .i64) (.one .bool))) [.slice adxa_3 xa.2.2.2.length cpxa_3] xa.2.2.2) {r : Int} (h : fn_ref17_Check xa = some r) :
    Tr Try.prog 13 #[.agg #[.int .i64 xa.1, .slice adxa_1 xa.2.1.length cpxa_1, .slice adxa_2 xa.2.2.1.length cpxa_2, .slice adxa_3 xa.2.2.2.length cpxa_3]] K [] (fun v K' L' => (∃ (i422 : Int), i422 = r ∧ .int .i64 i422 = v ∧ L' = []) ∧ K = K') := by
  refine Tr.k ?_
  refine Tr.of Try.func13 rfl Try.ntmps13 rfl (fun E F => ?_)
  unfold fn_ref17_Check at h
  refine CJ.seq ?_
  refine CJ.region ?_
  refine J.op rfl (A.box (v := .agg #[.int .i64 xa.1, .slice adxa_1 xa.2.1.length cpxa_1, .slice adxa_2 xa.2.2.1.length cpxa_2, .slice adxa_3 xa.2.2.2.length cpxa_3]) (cs := [.int .i64 xa.1, .slice adxa_1 xa.2.1.length cpxa_1, .slice adxa_2 xa.2.2.1.length cpxa_2, .slice adxa_3 xa.2.2.2.length cpxa_3]) rfl rfl) ?_
  rintro _ _ _ ⟨b423, rfl, rfl, rfl⟩
  refine J.val (v := .int .i64 0) rfl rfl (V.as rfl) ?_
  refine J.nil ?_
  refine CJ.seq ?_
  refine CJ.seq ?_
  refine CJ.region ?_
  refine J.val rfl rfl (V.fad Try.underlying28 rfl nz3 rfl) ?_
  refine J.val (v := .int .i64 xa.1) rfl rfl (V.ld rfl (Ld.sc sc3 (Rd.cl 0 rfl rfl))) ?_
  refine J.val (v := .bool (decide (xa.1 < 0))) rfl rfl (V.lss rfl rfl) ?_
  refine J.nil ?_
  refine CJ.cond rfl (fun hc424 => ?_) (fun hc424 => ?_)
  · have h := ct hc424 h
    refine CJ.seq ?_
    refine CJ.region ?_
    refine J.val (v := .int .i64 7) rfl rfl (V.as rfl) ?_
    refine J.nil ?_
    refine CJ.ret ?_
    have e := Option.some.inj h
    subst e
    exact ⟨_, [], Res.one rfl rfl, ⟨7, rfl, rfl, rfl⟩, (Hp.le_refl _), fun w hs => (Sep.dropAt 0 rfl hs)⟩
  · have h := cf hc424 h
    refine CJ.skip ?_
    refine CJ.seq ?_
    refine CJ.seq ?_
    refine CJ.region ?_
    refine J.val rfl rfl (V.fad Try.underlying28 rfl nz3 rfl) ?_
    refine J.val (v := .int .i64 xa.1) rfl rfl (V.ld rfl (Ld.sc sc3 (Rd.cl 0 rfl rfl))) ?_
    refine J.val (v := .bool (decide (16 < xa.1))) rfl rfl (V.gtr rfl rfl) ?_
    refine J.val (v := .bool (decide (16 < xa.1))) rfl rfl (V.mv rfl) ?_
    refine J.cut 5 ?_
    refine @J.meet _ _ _ _ _ _ _ _ _ _ (fun ρ K' L' => Fits [(18, .bool ((decide (16 < xa.1)) || (decide (16 < (((xa.2.1.length : Nat) : Int)))))), (1, .pointer (some ⟨b423, 0, none⟩))] ρ ∧ K = K' ∧ L' = Cl b423 28 [.int .i64 xa.1, .slice adxa_1 xa.2.1.length cpxa_1, .slice adxa_2 xa.2.2.1.length cpxa_2, .slice adxa_3 xa.2.2.2.length cpxa_3] :: F) ?_ ?_
    · skip
      rcases bt (decide (16 < xa.1)) with hc427 | hc427
      · skip
        refine J.skip rfl rfl rfl rfl hc427 ?_
        refine J.skip rfl rfl rfl rfl hc427 ?_
        refine J.skip rfl rfl rfl rfl hc427 ?_
        refine J.skip rfl rfl rfl rfl hc427 ?_
        refine J.val (v := .bool true) rfl rfl (V.pickT rfl hc427 rfl) ?_
        refine J.nil ?_
        exact ⟨rfl, ⟨(by simp only [hc427]; rfl), rfl, trivial⟩, rfl, rfl⟩
      · skip
        refine J.run rfl rfl rfl hc427 ?_
        refine J.val rfl rfl (V.fad Try.underlying28 rfl nz22 rfl) ?_
        refine J.run rfl rfl rfl hc427 ?_
        refine J.val (v := .slice adxa_1 xa.2.1.length cpxa_1) rfl rfl (V.ld rfl (Ld.sc sc22 (Rd.cl 0 rfl rfl))) ?_
        refine J.run rfl rfl rfl hc427 ?_
        refine J.val (v := .int .i64 (((xa.2.1.length : Nat) : Int))) rfl rfl (V.len Try.underlying22 rfl) ?_
        refine J.run rfl rfl rfl hc427 ?_
        refine J.val (v := .bool (decide (16 < (((xa.2.1.length : Nat) : Int))))) rfl rfl (V.gtr rfl rfl) ?_
        refine J.val (v := .bool (decide (16 < (((xa.2.1.length : Nat) : Int))))) rfl rfl (V.pickF rfl hc427 rfl) ?_
        refine J.nil ?_
        exact ⟨rfl, ⟨(by simp only [hc427]; rfl), rfl, trivial⟩, rfl, rfl⟩
    · rintro ρ _ _ ⟨hf, rfl, rfl⟩
      obtain ⟨ρ, rfl⟩ := hf.ex
      refine J.val (v := .bool ((decide (16 < xa.1)) || (decide (16 < (((xa.2.1.length : Nat) : Int)))))) rfl rfl (V.mv rfl) ?_
      refine J.cut 5 ?_
      refine @J.meet _ _ _ _ _ _ _ _ _ _ (fun ρ K' L' => Fits [(24, .bool (((decide (16 < xa.1)) || (decide (16 < (((xa.2.1.length : Nat) : Int))))) || (decide (16 < (((xa.2.2.1.length : Nat) : Int)))))), (1, .pointer (some ⟨b423, 0, none⟩))] ρ ∧ K = K' ∧ L' = Cl b423 28 [.int .i64 xa.1, .slice adxa_1 xa.2.1.length cpxa_1, .slice adxa_2 xa.2.2.1.length cpxa_2, .slice adxa_3 xa.2.2.2.length cpxa_3] :: F) ?_ ?_
      · skip
        rcases bt ((decide (16 < xa.1)) || (decide (16 < (((xa.2.1.length : Nat) : Int))))) with hc430 | hc430
        · skip
          refine J.skip rfl rfl rfl rfl hc430 ?_
          refine J.skip rfl rfl rfl rfl hc430 ?_
          refine J.skip rfl rfl rfl rfl hc430 ?_
          refine J.skip rfl rfl rfl rfl hc430 ?_
          refine J.val (v := .bool true) rfl rfl (V.pickT rfl hc430 rfl) ?_
          refine J.nil ?_
          exact ⟨rfl, ⟨(by simp only [hc430]; rfl), rfl, trivial⟩, rfl, rfl⟩
        · skip
          refine J.run rfl rfl rfl hc430 ?_
          refine J.val rfl rfl (V.fad Try.underlying28 rfl nz23 rfl) ?_
          refine J.run rfl rfl rfl hc430 ?_
          refine J.val (v := .slice adxa_2 xa.2.2.1.length cpxa_2) rfl rfl (V.ld rfl (Ld.sc sc23 (Rd.cl 0 rfl rfl))) ?_
          refine J.run rfl rfl rfl hc430 ?_
          refine J.val (v := .int .i64 (((xa.2.2.1.length : Nat) : Int))) rfl rfl (V.len Try.underlying23 rfl) ?_
          refine J.run rfl rfl rfl hc430 ?_
          refine J.val (v := .bool (decide (16 < (((xa.2.2.1.length : Nat) : Int))))) rfl rfl (V.gtr rfl rfl) ?_
          refine J.val (v := .bool (decide (16 < (((xa.2.2.1.length : Nat) : Int))))) rfl rfl (V.pickF rfl hc430 rfl) ?_
          refine J.nil ?_
          exact ⟨rfl, ⟨(by simp only [hc430]; rfl), rfl, trivial⟩, rfl, rfl⟩
      · rintro ρ _ _ ⟨hf, rfl, rfl⟩
        obtain ⟨ρ, rfl⟩ := hf.ex
        refine J.nil ?_
        refine CJ.cond rfl (fun hc431 => ?_) (fun hc431 => ?_)
        · have h := ct hc431 h
          refine CJ.seq ?_
          refine CJ.region ?_
          refine J.val (v := .int .i64 6) rfl rfl (V.as rfl) ?_
          refine J.nil ?_
          refine CJ.ret ?_
          have e := Option.some.inj h
          subst e
          exact ⟨_, [], Res.one rfl rfl, ⟨6, rfl, rfl, rfl⟩, (Hp.le_refl _), fun w hs => (Sep.dropAt 0 rfl hs)⟩
        · have h := cf hc431 h
          refine CJ.skip ?_
          refine CJ.seq ?_
          refine CJ.seq ?_
          refine CJ.region ?_
          refine J.val (v := .int .i64 0) rfl rfl (V.as rfl) ?_
          refine J.nil ?_
          obtain ⟨o502, ho503, h⟩ := ob h
          refine CJ.joinN (o := o502) (fun s ρ K' L' => () = s ∧ Fits [(1, .pointer (some ⟨b423, 0, none⟩))] ρ ∧ K = K' ∧ L' = Cl b423 28 [.int .i64 xa.1, .slice adxa_1 xa.2.1.length cpxa_1, .slice adxa_2 xa.2.2.1.length cpxa_2, .slice adxa_3 xa.2.2.2.length cpxa_3] :: F) ?_ ?_
          · skip
            refine CJ.block ?_
            refine CJ.loop (fun s ρ K' L' => ∃ (i526 : Int), i526 = s ∧ Fits [(1, .pointer (some ⟨b423, 0, none⟩)), (3, .int .i64 i526)] ρ ∧ K = K' ∧ L' = Cl b423 28 [.int .i64 xa.1, .slice adxa_1 xa.2.1.length cpxa_1, .slice adxa_2 xa.2.2.1.length cpxa_2, .slice adxa_3 xa.2.2.2.length cpxa_3] :: F) ho503 ⟨0, rfl, ⟨rfl, rfl, trivial⟩, rfl, rfl⟩ ?_
            rintro s ρ _ _ r552 ⟨i526, rfl, hf550, rfl, rfl⟩ h549
            obtain ⟨ρ, rfl⟩ := hf550.ex
            refine CJ.seq ?_
            refine CJ.seq ?_
            refine CJ.region ?_
            refine J.val (v := .int .i64 i526) rfl rfl (V.mv rfl) ?_
            refine J.val rfl rfl (V.fad Try.underlying28 rfl nz22 rfl) ?_
            refine J.val (v := .slice adxa_1 xa.2.1.length cpxa_1) rfl rfl (V.ld rfl (Ld.sc sc22 (Rd.cl 0 rfl rfl))) ?_
            refine J.val (v := .int .i64 (((xa.2.1.length : Nat) : Int))) rfl rfl (V.len Try.underlying22 rfl) ?_
            refine J.val (v := .bool (decide (i526 < (((xa.2.1.length : Nat) : Int))))) rfl rfl (V.lss rfl rfl) ?_
            refine J.nil ?_
            refine CJ.cond rfl (fun hc553 => ?_) (fun hc553 => ?_)
            · have h549 := ct hc553 h549
              refine CJ.skip ?_
              refine CJ.seq ?_
              refine CJ.block ?_
              refine CJ.seq ?_
              refine CJ.region ?_
              refine J.val rfl rfl (V.fad Try.underlying28 rfl nz22 rfl) ?_
              refine J.val (v := .slice adxa_1 xa.2.1.length cpxa_1) rfl rfl (V.ld rfl (Ld.sc sc22 (Rd.cl 0 rfl rfl))) ?_
              refine J.val (v := .int .i64 i526) rfl rfl (V.mv rfl) ?_
              obtain ⟨x554, hx555, h549⟩ := ob h549
              obtain ⟨p556, p557, p558⟩ := getI_some hx555
              obtain ⟨b559, o560, e561, a562⟩ := (fxa_1).at p557
              refine J.val rfl rfl (V.iad Try.underlying22 sz63 rfl e561 rfl p556 p558) ?_
              refine J.val (v := .agg #[.int .i64 x554.1, .int .i64 x554.2]) rfl rfl (V.ld rfl (Ld.aggK (cs := [.int .i64 x554.1, .int .i64 x554.2]) Try.underlying63 sz63 rfl ⟨((a562).fst).int, (((a562).snd).one).int, trivial⟩ (Hp.le_refl _))) ?_
              refine J.op rfl (A.alloc (cs := [.int .i64 0, .int .i64 0]) inf63 rfl) ?_
              rintro _ _ _ ⟨b563, rfl, rfl, rfl⟩
              refine J.op rfl (A.store (v := .agg #[.int .i64 x554.1, .int .i64 x554.2]) (cs' := [.int .i64 x554.1, .int .i64 x554.2]) sz63 rfl rfl rfl rfl rfl rfl) ?_
              rintro _ _ _ ⟨rfl, rfl, rfl⟩
              refine J.nil ?_
              refine CJ.seq ?_
              refine CJ.region ?_
              refine J.val rfl rfl (V.fad Try.underlying63 rfl nz3 rfl) ?_
              refine J.val (v := .int .i64 x554.1) rfl rfl (V.ld rfl (Ld.sc sc3 (Rd.cl 0 rfl rfl))) ?_
              refine J.val (v := .bool (decide (x554.1 < 0))) rfl rfl (V.lss rfl rfl) ?_
              refine J.val (v := .bool (decide (x554.1 < 0))) rfl rfl (V.mv rfl) ?_
              refine J.cut 6 ?_
              refine @J.meet _ _ _ _ _ _ _ _ _ _ (fun ρ K' L' => Fits [(46, .bool ((decide (x554.1 < 0)) || (decide (xa.1 ≤ x554.1)))), (1, .pointer (some ⟨b423, 0, none⟩)), (3, .int .i64 i526), (4, .pointer (some ⟨b563, 0, none⟩))] ρ ∧ K = K' ∧ L' = Cl b563 63 [.int .i64 x554.1, .int .i64 x554.2] :: Cl b423 28 [.int .i64 xa.1, .slice adxa_1 xa.2.1.length cpxa_1, .slice adxa_2 xa.2.2.1.length cpxa_2, .slice adxa_3 xa.2.2.2.length cpxa_3] :: F) ?_ ?_
              · skip
                rcases bt (decide (x554.1 < 0)) with hc566 | hc566
                · skip
                  refine J.skip rfl rfl rfl rfl hc566 ?_
                  refine J.skip rfl rfl rfl rfl hc566 ?_
                  refine J.skip rfl rfl rfl rfl hc566 ?_
                  refine J.skip rfl rfl rfl rfl hc566 ?_
                  refine J.skip rfl rfl rfl rfl hc566 ?_
                  refine J.val (v := .bool true) rfl rfl (V.pickT rfl hc566 rfl) ?_
                  refine J.nil ?_
                  exact ⟨rfl, ⟨(by simp only [hc566]; rfl), rfl, rfl, rfl, trivial⟩, rfl, rfl⟩
                · skip
                  refine J.run rfl rfl rfl hc566 ?_
                  refine J.val rfl rfl (V.fad Try.underlying63 rfl nz3 rfl) ?_
                  refine J.run rfl rfl rfl hc566 ?_
                  refine J.val (v := .int .i64 x554.1) rfl rfl (V.ld rfl (Ld.sc sc3 (Rd.cl 0 rfl rfl))) ?_
                  refine J.run rfl rfl rfl hc566 ?_
                  refine J.val rfl rfl (V.fad Try.underlying28 rfl nz3 rfl) ?_
                  refine J.run rfl rfl rfl hc566 ?_
                  refine J.val (v := .int .i64 xa.1) rfl rfl (V.ld rfl (Ld.sc sc3 (Rd.cl 1 rfl rfl))) ?_
                  refine J.run rfl rfl rfl hc566 ?_
                  refine J.val (v := .bool (decide (xa.1 ≤ x554.1))) rfl rfl (V.geq rfl rfl) ?_
                  refine J.val (v := .bool (decide (xa.1 ≤ x554.1))) rfl rfl (V.pickF rfl hc566 rfl) ?_
                  refine J.nil ?_
                  exact ⟨rfl, ⟨(by simp only [hc566]; rfl), rfl, rfl, rfl, trivial⟩, rfl, rfl⟩
              · rintro ρ _ _ ⟨hf, rfl, rfl⟩
                obtain ⟨ρ, rfl⟩ := hf.ex
                refine J.val (v := .bool ((decide (x554.1 < 0)) || (decide (xa.1 ≤ x554.1)))) rfl rfl (V.mv rfl) ?_
                refine J.cut 4 ?_
                refine @J.meet _ _ _ _ _ _ _ _ _ _ (fun ρ K' L' => Fits [(51, .bool (((decide (x554.1 < 0)) || (decide (xa.1 ≤ x554.1))) || (decide (x554.2 < 0)))), (1, .pointer (some ⟨b423, 0, none⟩)), (3, .int .i64 i526), (4, .pointer (some ⟨b563, 0, none⟩))] ρ ∧ K = K' ∧ L' = Cl b563 63 [.int .i64 x554.1, .int .i64 x554.2] :: Cl b423 28 [.int .i64 xa.1, .slice adxa_1 xa.2.1.length cpxa_1, .slice adxa_2 xa.2.2.1.length cpxa_2, .slice adxa_3 xa.2.2.2.length cpxa_3] :: F) ?_ ?_
                · skip
                  rcases bt ((decide (x554.1 < 0)) || (decide (xa.1 ≤ x554.1))) with hc569 | hc569
                  · skip
                    refine J.skip rfl rfl rfl rfl hc569 ?_
                    refine J.skip rfl rfl rfl rfl hc569 ?_
                    refine J.skip rfl rfl rfl rfl hc569 ?_
                    refine J.val (v := .bool true) rfl rfl (V.pickT rfl hc569 rfl) ?_
                    refine J.nil ?_
                    exact ⟨rfl, ⟨(by simp only [hc569]; rfl), rfl, rfl, rfl, trivial⟩, rfl, rfl⟩
                  · skip
                    refine J.run rfl rfl rfl hc569 ?_
                    refine J.val rfl rfl (V.fad Try.underlying63 rfl nz3 rfl) ?_
                    refine J.run rfl rfl rfl hc569 ?_
                    refine J.val (v := .int .i64 x554.2) rfl rfl (V.ld rfl (Ld.sc sc3 (Rd.cl 0 rfl rfl))) ?_
                    refine J.run rfl rfl rfl hc569 ?_
                    refine J.val (v := .bool (decide (x554.2 < 0))) rfl rfl (V.lss rfl rfl) ?_
                    refine J.val (v := .bool (decide (x554.2 < 0))) rfl rfl (V.pickF rfl hc569 rfl) ?_
                    refine J.nil ?_
                    exact ⟨rfl, ⟨(by simp only [hc569]; rfl), rfl, rfl, rfl, trivial⟩, rfl, rfl⟩
                · rintro ρ _ _ ⟨hf, rfl, rfl⟩
                  obtain ⟨ρ, rfl⟩ := hf.ex
                  refine J.val (v := .bool (((decide (x554.1 < 0)) || (decide (xa.1 ≤ x554.1))) || (decide (x554.2 < 0)))) rfl rfl (V.mv rfl) ?_
                  refine J.cut 6 ?_
                  refine @J.meet _ _ _ _ _ _ _ _ _ _ (fun ρ K' L' => Fits [(58, .bool ((((decide (x554.1 < 0)) || (decide (xa.1 ≤ x554.1))) || (decide (x554.2 < 0))) || (decide (xa.1 ≤ x554.2)))), (1, .pointer (some ⟨b423, 0, none⟩)), (3, .int .i64 i526)] ρ ∧ K = K' ∧ L' = Cl b563 63 [.int .i64 x554.1, .int .i64 x554.2] :: Cl b423 28 [.int .i64 xa.1, .slice adxa_1 xa.2.1.length cpxa_1, .slice adxa_2 xa.2.2.1.length cpxa_2, .slice adxa_3 xa.2.2.2.length cpxa_3] :: F) ?_ ?_
                  · skip
                    rcases bt (((decide (x554.1 < 0)) || (decide (xa.1 ≤ x554.1))) || (decide (x554.2 < 0))) with hc572 | hc572
                    · skip
                      refine J.skip rfl rfl rfl rfl hc572 ?_
                      refine J.skip rfl rfl rfl rfl hc572 ?_
                      refine J.skip rfl rfl rfl rfl hc572 ?_
                      refine J.skip rfl rfl rfl rfl hc572 ?_
                      refine J.skip rfl rfl rfl rfl hc572 ?_
                      refine J.val (v := .bool true) rfl rfl (V.pickT rfl hc572 rfl) ?_
                      refine J.nil ?_
                      exact ⟨rfl, ⟨(by simp only [hc572]; rfl), rfl, rfl, trivial⟩, rfl, rfl⟩
                    · skip
                      refine J.run rfl rfl rfl hc572 ?_
                      refine J.val rfl rfl (V.fad Try.underlying63 rfl nz3 rfl) ?_
                      refine J.run rfl rfl rfl hc572 ?_
                      refine J.val (v := .int .i64 x554.2) rfl rfl (V.ld rfl (Ld.sc sc3 (Rd.cl 0 rfl rfl))) ?_
                      refine J.run rfl rfl rfl hc572 ?_
                      refine J.val rfl rfl (V.fad Try.underlying28 rfl nz3 rfl) ?_
                      refine J.run rfl rfl rfl hc572 ?_
                      refine J.val (v := .int .i64 xa.1) rfl rfl (V.ld rfl (Ld.sc sc3 (Rd.cl 1 rfl rfl))) ?_
                      refine J.run rfl rfl rfl hc572 ?_
                      refine J.val (v := .bool (decide (xa.1 ≤ x554.2))) rfl rfl (V.geq rfl rfl) ?_
                      refine J.val (v := .bool (decide (xa.1 ≤ x554.2))) rfl rfl (V.pickF rfl hc572 rfl) ?_
                      refine J.nil ?_
                      exact ⟨rfl, ⟨(by simp only [hc572]; rfl), rfl, rfl, trivial⟩, rfl, rfl⟩
                  · rintro ρ _ _ ⟨hf, rfl, rfl⟩
                    obtain ⟨ρ, rfl⟩ := hf.ex
                    refine J.nil ?_
                    refine CJ.cond rfl (fun hc573 => ?_) (fun hc573 => ?_)
                    · have h549 := ct hc573 h549
                      refine CJ.seq ?_
                      refine CJ.region ?_
                      refine J.val (v := .int .i64 7) rfl rfl (V.as rfl) ?_
                      refine J.nil ?_
                      refine CJ.ret ?_
                      have e := Option.some.inj h549
                      subst e
                      refine ⟨nofun, fun e => ?_⟩
                      subst e
                      refine .inr ⟨nofun, ?_⟩
                      have e := Option.some.inj h
                      subst e
                      exact ⟨_, [], Res.one rfl rfl, ⟨7, rfl, rfl, rfl⟩, (Hp.le_refl _), fun w hs => (Sep.dropAt 0 rfl (Sep.dropAt 0 rfl hs))⟩
                    · have h549 := cf hc573 h549
                      refine CJ.skip ?_
                      refine CJ.region ?_
                      refine J.val (v := .int .i64 i526) rfl rfl (V.mv rfl) ?_
                      refine J.val (v := .int .i64 (IntKind.wrap .i64 (i526 + 1))) rfl rfl (V.add rfl rfl) ?_
                      refine J.val (v := .int .i64 (IntKind.wrap .i64 (i526 + 1))) rfl rfl (V.as rfl) ?_
                      refine J.dropAt 0 rfl ?_
                      refine J.nil ?_
                      have e := Option.some.inj h549
                      subst e
                      exact ⟨rfl, ⟨IntKind.wrap .i64 (i526 + 1), rfl, ⟨rfl, rfl, trivial⟩, rfl, rfl⟩⟩
            · have h549 := cf hc553 h549
              refine CJ.exit ?_
              have e := Option.some.inj h549
              subst e
              refine ⟨nofun, fun e => ?_⟩
              subst e
              exact .inl ⟨rfl, _, rfl, ⟨rfl, ⟨rfl, trivial⟩, rfl, rfl⟩⟩
          · rintro s ρ _ _ ho574 ⟨rfl, hf575, rfl, rfl⟩
            subst ho574
            obtain ⟨ρ, rfl⟩ := hf575.ex
            refine PJ.done ?_
            refine CJ.seq ?_
            refine CJ.seq ?_
            refine CJ.region ?_
            refine J.val (v := .int .i64 0) rfl rfl (V.as rfl) ?_
            refine J.nil ?_
            obtain ⟨o704, ho705, h⟩ := ob h
            refine CJ.joinN (o := o704) (fun s ρ K' L' => () = s ∧ Fits [(1, .pointer (some ⟨b423, 0, none⟩))] ρ ∧ K = K' ∧ L' = Cl b423 28 [.int .i64 xa.1, .slice adxa_1 xa.2.1.length cpxa_1, .slice adxa_2 xa.2.2.1.length cpxa_2, .slice adxa_3 xa.2.2.2.length cpxa_3] :: F) ?_ ?_
            · skip
              refine CJ.block ?_
              refine CJ.loop (fun s ρ K' L' => ∃ (i747 : Int), i747 = s ∧ Fits [(1, .pointer (some ⟨b423, 0, none⟩)), (5, .int .i64 i747)] ρ ∧ K = K' ∧ L' = Cl b423 28 [.int .i64 xa.1, .slice adxa_1 xa.2.1.length cpxa_1, .slice adxa_2 xa.2.2.1.length cpxa_2, .slice adxa_3 xa.2.2.2.length cpxa_3] :: F) ho705 ⟨0, rfl, ⟨rfl, rfl, trivial⟩, rfl, rfl⟩ ?_
              rintro s ρ _ _ r792 ⟨i747, rfl, hf790, rfl, rfl⟩ h789
              obtain ⟨ρ, rfl⟩ := hf790.ex
              refine CJ.seq ?_
              refine CJ.seq ?_
              refine CJ.region ?_
              refine J.val (v := .int .i64 i747) rfl rfl (V.mv rfl) ?_
              refine J.val rfl rfl (V.fad Try.underlying28 rfl nz23 rfl) ?_
              refine J.val (v := .slice adxa_2 xa.2.2.1.length cpxa_2) rfl rfl (V.ld rfl (Ld.sc sc23 (Rd.cl 0 rfl rfl))) ?_
              refine J.val (v := .int .i64 (((xa.2.2.1.length : Nat) : Int))) rfl rfl (V.len Try.underlying23 rfl) ?_
              refine J.val (v := .bool (decide (i747 < (((xa.2.2.1.length : Nat) : Int))))) rfl rfl (V.lss rfl rfl) ?_
              refine J.nil ?_
              refine CJ.cond rfl (fun hc793 => ?_) (fun hc793 => ?_)
              · have h789 := ct hc793 h789
                refine CJ.skip ?_
                refine CJ.seq ?_
                refine CJ.block ?_
                refine CJ.seq ?_
                refine CJ.mix [Cl b423 28 [.int .i64 xa.1, .slice adxa_1 xa.2.1.length cpxa_1, .slice adxa_2 xa.2.2.1.length cpxa_2, .slice adxa_3 xa.2.2.2.length cpxa_3]] [([0, 1, 2, 3, 4, 5, 6], 7)] [8] [] mixO (by decide +kernel) ⟨0, rfl, trivial⟩ rfl rfl rfl ?_
                refine JM.cons ?_
                refine JQ.val rfl rfl (V.fad Try.underlying28 rfl nz23 rfl) ?_
                refine JQ.val (v := .slice adxa_2 xa.2.2.1.length cpxa_2) rfl rfl (V.ld rfl (Ld.sc sc23 (Rd.cl 0 rfl rfl))) ?_
                refine JQ.val (v := .int .i64 i747) rfl rfl (V.mv rfl) ?_
                obtain ⟨x813, hx814, h789⟩ := ob h789
                obtain ⟨p815, p816, p817⟩ := getI_some hx814
                obtain ⟨b818, o819, e820, a821⟩ := (fxa_2).at p816
                refine JQ.val rfl rfl (V.iad Try.underlying23 sz26 rfl e820 rfl p815 p817) ?_
                obtain ⟨ad822, cp823, c824, f825⟩ := ((a821).one).sl
                refine JQ.val (v := .agg #[.slice ad822 x813.length cp823]) rfl rfl (V.ld rfl (Ld.aggK (cs := [.slice ad822 x813.length cp823]) Try.underlying26 sz26 rfl ⟨c824, trivial⟩ (Hp.le_refl _))) ?_
                refine JQ.val rfl rfl (V.fad Try.underlying28 rfl nz3 rfl) ?_
                refine JQ.val (v := .int .i64 xa.1) rfl rfl (V.ld rfl (Ld.sc sc3 (Rd.cl 0 rfl rfl))) ?_
                refine JQ.nil ?_
                obtain ⟨r826, hr827, h789⟩ := ob h789
                refine JA.op rfl (A.call (L1 := []) Try.call38 rfl (ref15_Check_ok f825 hr827) rfl rfl) ?_
                rintro _ _ _ ⟨v829, _, rfl, ⟨⟨i828, rfl, rfl, rfl⟩, rfl⟩, _, rfl⟩
                refine ⟨fun w hs => Hold.sub (Hp.le_refl _) ⟨0, rfl, trivial⟩ hs, ?_⟩
                refine JM.nil ?_
                refine JQ.val (v := .int .i64 i828) rfl rfl (V.as rfl) ?_
                refine JQ.nil ?_
                refine J.nil ?_
                refine CJ.seq ?_
                refine CJ.region ?_
                refine J.val (v := .int .i64 i828) rfl rfl (V.mv rfl) ?_
                refine J.val (v := .bool (!decide (i828 = 0))) rfl rfl (V.neq rfl rfl) ?_
                refine J.nil ?_
                refine CJ.cond rfl (fun hc832 => ?_) (fun hc832 => ?_)
                · have h789 := ct hc832 h789
                  refine CJ.seq ?_
                  refine CJ.region ?_
                  refine J.val (v := .int .i64 i828) rfl rfl (V.mv rfl) ?_
                  refine J.val (v := .int .i64 i828) rfl rfl (V.as rfl) ?_
                  refine J.nil ?_
                  refine CJ.ret ?_
                  have e := Option.some.inj h789
                  subst e
                  refine ⟨nofun, fun e => ?_⟩
                  subst e
                  refine .inr ⟨nofun, ?_⟩
                  have e := Option.some.inj h
                  subst e
                  exact ⟨_, [], Res.one rfl rfl, ⟨i828, rfl, rfl, rfl⟩, (Hp.le_refl _), fun w hs => (Sep.dropAt 0 rfl hs)⟩
                · have h789 := cf hc832 h789
                  refine CJ.skip ?_
                  refine CJ.region ?_
                  refine J.val (v := .int .i64 i747) rfl rfl (V.mv rfl) ?_
                  refine J.val (v := .int .i64 (IntKind.wrap .i64 (i747 + 1))) rfl rfl (V.add rfl rfl) ?_
                  refine J.val (v := .int .i64 (IntKind.wrap .i64 (i747 + 1))) rfl rfl (V.as rfl) ?_
                  refine J.nil ?_
                  have e := Option.some.inj h789
                  subst e
                  exact ⟨rfl, ⟨IntKind.wrap .i64 (i747 + 1), rfl, ⟨rfl, rfl, trivial⟩, rfl, rfl⟩⟩
              · have h789 := cf hc793 h789
                refine CJ.exit ?_
                have e := Option.some.inj h789
                subst e
                refine ⟨nofun, fun e => ?_⟩
                subst e
                exact .inl ⟨rfl, _, rfl, ⟨rfl, ⟨rfl, trivial⟩, rfl, rfl⟩⟩
            · rintro s ρ _ _ ho833 ⟨rfl, hf834, rfl, rfl⟩
              subst ho833
              obtain ⟨ρ, rfl⟩ := hf834.ex
              refine PJ.done ?_
              refine CJ.seq ?_
              refine CJ.region ?_
              refine J.val rfl rfl (V.fad Try.underlying28 rfl nz26 rfl) ?_
              refine J.val (v := .agg #[.slice adxa_3 xa.2.2.2.length cpxa_3]) rfl rfl (V.ld rfl (Ld.agg (cs := [.slice adxa_3 xa.2.2.2.length cpxa_3]) Try.underlying26 sz26 rfl (Rd.cls 0 3 rfl rfl))) ?_
              refine J.val rfl rfl (V.fad Try.underlying28 rfl nz3 rfl) ?_
              refine J.val (v := .int .i64 xa.1) rfl rfl (V.ld rfl (Ld.sc sc3 (Rd.cl 0 rfl rfl))) ?_
              obtain ⟨r836, hr837, h⟩ := ob h
              refine J.op rfl (A.call (L1 := []) Try.call38 rfl (ref15_Check_ok fxa_3 hr837) rfl rfl) ?_
              rintro _ _ _ ⟨v839, _, rfl, ⟨⟨i838, rfl, rfl, rfl⟩, rfl⟩, _, rfl⟩
              refine J.val (v := .int .i64 i838) rfl rfl (V.as rfl) ?_
              refine J.nil ?_
              refine CJ.ret ?_
              have e := Option.some.inj h
              subst e
              exact ⟨_, [], Res.one rfl rfl, ⟨i838, rfl, rfl, rfl⟩, (Hp.le_refl _), fun w hs => (Sep.dropAt 0 rfl hs)⟩
noncomputable def fn_ref17_PutBounds_l1 (xa : (List (Int × Int))) : (List UInt8 × Int) → Option ((List UInt8 × Int) ⊕ List UInt8) := fun ((s744, i745) : (List UInt8 × Int)) => cond (decide (i745 < (((xa.length : Nat) : Int)))) ((getI xa i745).bind fun x856 => (getI xa i745).bind fun x865 => (fn_ref02_Put x856.1).bind fun s876 => (app s744 s876).bind fun z880 => (fn_ref02_Put x865.2).bind fun s884 => (app z880 s884).bind fun z888 => some (.inl ((z888, IntKind.wrap .i64 (i745 + 1))))) (some (.inr (s744)))
noncomputable def fn_ref17_PutBounds (xa : (List (Int × Int))) : Option (List UInt8) :=
  (fn_ref02_Put (((xa.length : Nat) : Int))).bind fun s449 => (loop (fn_ref17_PutBounds_l1 xa) (s449, 0) : Option (List UInt8)).bind fun s670 => some (s670)
set_option maxRecDepth 100000 in
set_option maxHeartbeats 4000000 in
theorem ref17_PutBounds_ok {K : Hp} {xa : (List (Int × Int))} {adxa_0 : Option Addr} {cpxa_0 : Nat} (fxa_0 : Is K (.sl (.cons (.int .i64) (.one (.int .i64)))) [.slice adxa_0 xa.length cpxa_0] xa) {r : List UInt8} (h : fn_ref17_PutBounds xa = some r) :
    Tr Try.prog 30 #[.slice adxa_0 xa.length cpxa_0] K [] (fun v K' L' => (∃ (s446 : List UInt8), s446 = r ∧ .string ⟨s446.toArray⟩ = v ∧ L' = []) ∧ K = K') := by
  refine Tr.k ?_
  refine Tr.of Try.func30 rfl Try.ntmps30 rfl (fun E F => ?_)
  unfold fn_ref17_PutBounds at h
  refine CJ.seq ?_
  refine CJ.region ?_
  refine J.val (v := .string ⟨([] : List UInt8).toArray⟩) rfl rfl (V.as rfl) ?_
  refine J.nil ?_
  refine CJ.seq ?_
  refine CJ.region ?_
  refine J.val (v := .slice adxa_0 xa.length cpxa_0) rfl rfl (V.mv rfl) ?_
  refine J.val (v := .int .i64 (((xa.length : Nat) : Int))) rfl rfl (V.len Try.underlying22 rfl) ?_
  obtain ⟨r447, hr448, h⟩ := ob h
  refine J.op rfl (A.call (L1 := []) Try.call54 rfl (ref02_Put_ok hr448) rfl rfl) ?_
  rintro _ _ _ ⟨v450, _, rfl, ⟨⟨s449, rfl, rfl, rfl⟩, rfl⟩, _, rfl⟩
  refine J.val (v := .string ⟨s449.toArray⟩) rfl rfl (V.as rfl) ?_
  refine J.nil ?_
  refine CJ.seq ?_
  refine CJ.seq ?_
  refine CJ.region ?_
  refine J.val (v := .int .i64 0) rfl rfl (V.as rfl) ?_
  refine J.nil ?_
  obtain ⟨o671, ho672, h⟩ := ob h
  refine CJ.meetN (fun ρ K' L' => ∃ (s670 : List UInt8), s670 = o671 ∧ Fits [(3, .string ⟨s670.toArray⟩)] ρ ∧ K = K' ∧ F = L') ?_ ?_
  · skip
    refine CJ.block ?_
    refine CJ.loop (fun s ρ K' L' => ∃ (s744 : List UInt8) (i745 : Int), (s744, i745) = s ∧ Fits [(0, .slice adxa_0 xa.length cpxa_0), (3, .string ⟨s744.toArray⟩), (4, .int .i64 i745)] ρ ∧ K = K' ∧ F = L') ho672 ⟨s449, 0, rfl, ⟨rfl, rfl, rfl, trivial⟩, rfl, rfl⟩ ?_
    rintro s ρ _ _ r820 ⟨s744, i745, rfl, hf818, rfl, rfl⟩ h817
    obtain ⟨ρ, rfl⟩ := hf818.ex
    refine CJ.seq ?_
    refine CJ.seq ?_
    refine CJ.region ?_
    refine J.val (v := .int .i64 i745) rfl rfl (V.mv rfl) ?_
    refine J.val (v := .slice adxa_0 xa.length cpxa_0) rfl rfl (V.mv rfl) ?_
    refine J.val (v := .int .i64 (((xa.length : Nat) : Int))) rfl rfl (V.len Try.underlying22 rfl) ?_
    refine J.val (v := .bool (decide (i745 < (((xa.length : Nat) : Int))))) rfl rfl (V.lss rfl rfl) ?_
    refine J.nil ?_
    refine CJ.cond rfl (fun hc821 => ?_) (fun hc821 => ?_)
    · have h817 := ct hc821 h817
      refine CJ.skip ?_
      refine CJ.seq ?_
      refine CJ.block ?_
      refine CJ.mix [] [([0, 1, 2, 3, 4, 5, 8, 9, 10, 11, 12], 6), ([7], 13)] [14, 15] [] mixO (by decide +kernel) trivial rfl rfl rfl ?_
      refine JM.cons ?_
      refine JQ.val (v := .string ⟨s744.toArray⟩) rfl rfl (V.mv rfl) ?_
      refine JQ.val (v := .slice adxa_0 xa.length cpxa_0) rfl rfl (V.mv rfl) ?_
      refine JQ.val (v := .int .i64 i745) rfl rfl (V.mv rfl) ?_
      obtain ⟨x856, hx857, h817⟩ := ob h817
      obtain ⟨p858, p859, p860⟩ := getI_some hx857
      obtain ⟨b861, o862, e863, a864⟩ := (fxa_0).at p859
      refine JQ.val rfl rfl (V.iad Try.underlying22 sz63 rfl e863 rfl p858 p860) ?_
      refine JQ.val rfl rfl (V.fad Try.underlying63 rfl nz3 rfl) ?_
      refine JQ.val (v := .int .i64 x856.1) rfl rfl (V.ld rfl (Ld.sc sc3 (Rd.k ((a864).fst).int (Hp.le_refl _)))) ?_
      refine JQ.val (v := .slice adxa_0 xa.length cpxa_0) rfl rfl (V.mv rfl) ?_
      refine JQ.val (v := .int .i64 i745) rfl rfl (V.mv rfl) ?_
      obtain ⟨x865, hx866, h817⟩ := ob h817
      obtain ⟨p867, p868, p869⟩ := getI_some hx866
      obtain ⟨b870, o871, e872, a873⟩ := (fxa_0).at p868
      refine JQ.val rfl rfl (V.iad Try.underlying22 sz63 rfl e872 rfl p867 p869) ?_
      refine JQ.val rfl rfl (V.fad Try.underlying63 rfl nz3 rfl) ?_
      refine JQ.val (v := .int .i64 x865.2) rfl rfl (V.ld rfl (Ld.sc sc3 (Rd.k (((a873).snd).one).int (Hp.le_refl _)))) ?_
      refine JQ.nil ?_
      obtain ⟨r874, hr875, h817⟩ := ob h817
      refine JA.op rfl (A.call (L1 := []) Try.call54 rfl (ref02_Put_ok hr875) rfl rfl) ?_
      rintro _ _ _ ⟨v877, _, rfl, ⟨⟨s876, rfl, rfl, rfl⟩, rfl⟩, _, rfl⟩
      refine ⟨fun w hs => Hold.sub (Hp.le_refl _) trivial hs, ?_⟩
      refine JM.cons ?_
      obtain ⟨z880, hz881, h817⟩ := ob h817
      refine JQ.val (v := .string ⟨z880.toArray⟩) rfl rfl (V.cat rfl rfl hz881) ?_
      refine JQ.nil ?_
      obtain ⟨r882, hr883, h817⟩ := ob h817
      refine JA.op rfl (A.call (L1 := []) Try.call54 rfl (ref02_Put_ok hr883) rfl rfl) ?_
      rintro _ _ _ ⟨v885, _, rfl, ⟨⟨s884, rfl, rfl, rfl⟩, rfl⟩, _, rfl⟩
      refine ⟨fun w hs => Hold.sub (Hp.le_refl _) trivial hs, ?_⟩
      refine JM.nil ?_
      obtain ⟨z888, hz889, h817⟩ := ob h817
      refine JQ.val (v := .string ⟨z888.toArray⟩) rfl rfl (V.cat rfl rfl hz889) ?_
      refine JQ.val (v := .string ⟨z888.toArray⟩) rfl rfl (V.as rfl) ?_
      refine JQ.nil ?_
      refine J.nil ?_
      refine CJ.region ?_
      refine J.val (v := .int .i64 i745) rfl rfl (V.mv rfl) ?_
      refine J.val (v := .int .i64 (IntKind.wrap .i64 (i745 + 1))) rfl rfl (V.add rfl rfl) ?_
      refine J.val (v := .int .i64 (IntKind.wrap .i64 (i745 + 1))) rfl rfl (V.as rfl) ?_
      refine J.nil ?_
      have e := Option.some.inj h817
      subst e
      exact ⟨rfl, ⟨z888, IntKind.wrap .i64 (i745 + 1), rfl, ⟨rfl, rfl, rfl, trivial⟩, rfl, rfl⟩⟩
    · have h817 := cf hc821 h817
      refine CJ.exit ?_
      have e := Option.some.inj h817
      subst e
      refine ⟨nofun, fun e => ?_⟩
      subst e
      exact ⟨rfl, ⟨s744, rfl, ⟨rfl, trivial⟩, rfl, rfl⟩⟩
  · rintro ρ _ _ ⟨s670, rfl, hf890, rfl, rfl⟩
    obtain ⟨ρ, rfl⟩ := hf890.ex
    refine PJ.done ?_
    refine CJ.seq ?_
    refine CJ.region ?_
    refine J.val (v := .string ⟨s670.toArray⟩) rfl rfl (V.mv rfl) ?_
    refine J.val (v := .string ⟨s670.toArray⟩) rfl rfl (V.as rfl) ?_
    refine J.nil ?_
    refine CJ.ret ?_
    have e := Option.some.inj h
    subst e
    exact ⟨_, [], Res.one rfl rfl, ⟨s670, rfl, rfl, rfl⟩, (Hp.le_refl _), fun w hs => hs⟩
noncomputable def fn_ref17_PutType_l1 (xa : (List (Int × Bool))) : (List UInt8 × Int) → Option ((List UInt8 × Int) ⊕ List UInt8) := fun ((s487, i488) : (List UInt8 × Int)) => cond (decide (i488 < (((xa.length : Nat) : Int)))) ((getI xa i488).bind fun x539 => ((getI xa i488).bind fun x561 => cond (x561.2) (some (IntKind.wrap .i64 ((IntKind.wrap .i64 (2 * x539.1)) + 1))) (some (IntKind.wrap .i64 (2 * x539.1))) : Option Int).bind fun i558 => (fn_ref02_Put i558).bind fun s575 => (app s487 s575).bind fun z579 => some (.inl ((z579, IntKind.wrap .i64 (i488 + 1))))) (some (.inr (s487)))
noncomputable def fn_ref17_PutType (xa : (List (Int × Bool))) : Option (List UInt8) :=
  (fn_ref02_Put (((xa.length : Nat) : Int))).bind fun s296 => (loop (fn_ref17_PutType_l1 xa) (s296, 0) : Option (List UInt8)).bind fun s439 => some (s439)
set_option maxRecDepth 100000 in
set_option maxHeartbeats 4000000 in
theorem ref17_PutType_ok {K : Hp} {xa : (List (Int × Bool))} {adxa_0 : Option Addr} {cpxa_0 : Nat} (fxa_0 : Is K (.sl (.cons (.int .i64) (.one .bool))) [.slice adxa_0 xa.length cpxa_0] xa) {r : List UInt8} (h : fn_ref17_PutType xa = some r) :
    Tr Try.prog 29 #[.agg #[.slice adxa_0 xa.length cpxa_0]] K [] (fun v K' L' => (∃ (s292 : List UInt8), s292 = r ∧ .string ⟨s292.toArray⟩ = v ∧ L' = []) ∧ K = K') := by
  refine Tr.k ?_
  refine Tr.of Try.func29 rfl Try.ntmps29 rfl (fun E F => ?_)
  unfold fn_ref17_PutType at h
  refine CJ.seq ?_
  refine CJ.region ?_
  refine J.op rfl (A.box (v := .agg #[.slice adxa_0 xa.length cpxa_0]) (cs := [.slice adxa_0 xa.length cpxa_0]) rfl rfl) ?_
  rintro _ _ _ ⟨b293, rfl, rfl, rfl⟩
  refine J.val (v := .string ⟨([] : List UInt8).toArray⟩) rfl rfl (V.as rfl) ?_
  refine J.nil ?_
  refine CJ.seq ?_
  refine CJ.region ?_
  refine J.val rfl rfl (V.fad Try.underlying26 rfl nz24 rfl) ?_
  refine J.val (v := .slice adxa_0 xa.length cpxa_0) rfl rfl (V.ld rfl (Ld.sc sc24 (Rd.cl 0 rfl rfl))) ?_
  refine J.val (v := .int .i64 (((xa.length : Nat) : Int))) rfl rfl (V.len Try.underlying24 rfl) ?_
  obtain ⟨r294, hr295, h⟩ := ob h
  refine J.op rfl (A.call (L1 := []) Try.call54 rfl (ref02_Put_ok hr295) rfl rfl) ?_
  rintro _ _ _ ⟨v297, _, rfl, ⟨⟨s296, rfl, rfl, rfl⟩, rfl⟩, _, rfl⟩
  refine J.val (v := .string ⟨s296.toArray⟩) rfl rfl (V.as rfl) ?_
  refine J.nil ?_
  refine CJ.seq ?_
  refine CJ.seq ?_
  refine CJ.region ?_
  refine J.val (v := .int .i64 0) rfl rfl (V.as rfl) ?_
  refine J.nil ?_
  obtain ⟨o440, ho441, h⟩ := ob h
  refine CJ.meetN (fun ρ K' L' => ∃ (s439 : List UInt8), s439 = o440 ∧ Fits [(3, .string ⟨s439.toArray⟩)] ρ ∧ K = K' ∧ F = L') ?_ ?_
  · skip
    refine CJ.block ?_
    refine CJ.loop (fun s ρ K' L' => ∃ (s487 : List UInt8) (i488 : Int), (s487, i488) = s ∧ Fits [(1, .pointer (some ⟨b293, 0, none⟩)), (3, .string ⟨s487.toArray⟩), (4, .int .i64 i488)] ρ ∧ K = K' ∧ L' = Cl b293 26 [.slice adxa_0 xa.length cpxa_0] :: F) ho441 ⟨s296, 0, rfl, ⟨rfl, rfl, rfl, trivial⟩, rfl, rfl⟩ ?_
    rintro s ρ _ _ r537 ⟨s487, i488, rfl, hf535, rfl, rfl⟩ h534
    obtain ⟨ρ, rfl⟩ := hf535.ex
    refine CJ.seq ?_
    refine CJ.seq ?_
    refine CJ.region ?_
    refine J.val (v := .int .i64 i488) rfl rfl (V.mv rfl) ?_
    refine J.val rfl rfl (V.fad Try.underlying26 rfl nz24 rfl) ?_
    refine J.val (v := .slice adxa_0 xa.length cpxa_0) rfl rfl (V.ld rfl (Ld.sc sc24 (Rd.cl 0 rfl rfl))) ?_
    refine J.val (v := .int .i64 (((xa.length : Nat) : Int))) rfl rfl (V.len Try.underlying24 rfl) ?_
    refine J.val (v := .bool (decide (i488 < (((xa.length : Nat) : Int))))) rfl rfl (V.lss rfl rfl) ?_
    refine J.nil ?_
    refine CJ.cond rfl (fun hc538 => ?_) (fun hc538 => ?_)
    · have h534 := ct hc538 h534
      refine CJ.skip ?_
      refine CJ.seq ?_
      refine CJ.block ?_
      refine CJ.seq ?_
      refine CJ.region ?_
      refine J.val rfl rfl (V.fad Try.underlying26 rfl nz24 rfl) ?_
      refine J.val (v := .slice adxa_0 xa.length cpxa_0) rfl rfl (V.ld rfl (Ld.sc sc24 (Rd.cl 0 rfl rfl))) ?_
      refine J.val (v := .int .i64 i488) rfl rfl (V.mv rfl) ?_
      obtain ⟨x539, hx540, h534⟩ := ob h534
      obtain ⟨p541, p542, p543⟩ := getI_some hx540
      obtain ⟨b544, o545, e546, a547⟩ := (fxa_0).at p542
      refine J.val rfl rfl (V.iad Try.underlying24 sz60 rfl e546 rfl p541 p543) ?_
      refine J.val rfl rfl (V.fad Try.underlying60 rfl nz3 rfl) ?_
      refine J.val (v := .int .i64 x539.1) rfl rfl (V.ld rfl (Ld.sc sc3 (Rd.k ((a547).fst).int (Hp.le_refl _)))) ?_
      refine J.val (v := .int .i64 (IntKind.wrap .i64 (2 * x539.1))) rfl rfl (V.mul rfl rfl) ?_
      refine J.val (v := .int .i64 (IntKind.wrap .i64 (2 * x539.1))) rfl rfl (V.as rfl) ?_
      refine J.nil ?_
      refine CJ.seq ?_
      obtain ⟨o559, ho560, h534⟩ := ob h534
      refine CJ.meetN (fun ρ K' L' => ∃ (i558 : Int), i558 = o559 ∧ Fits [(1, .pointer (some ⟨b293, 0, none⟩)), (3, .string ⟨s487.toArray⟩), (4, .int .i64 i488), (5, .int .i64 i558)] ρ ∧ K = K' ∧ L' = Cl b293 26 [.slice adxa_0 xa.length cpxa_0] :: F) ?_ ?_
      · skip
        refine CJ.seq ?_
        refine CJ.region ?_
        refine J.val rfl rfl (V.fad Try.underlying26 rfl nz24 rfl) ?_
        refine J.val (v := .slice adxa_0 xa.length cpxa_0) rfl rfl (V.ld rfl (Ld.sc sc24 (Rd.cl 0 rfl rfl))) ?_
        refine J.val (v := .int .i64 i488) rfl rfl (V.mv rfl) ?_
        obtain ⟨x561, hx562, ho560⟩ := ob ho560
        obtain ⟨p563, p564, p565⟩ := getI_some hx562
        obtain ⟨b566, o567, e568, a569⟩ := (fxa_0).at p564
        refine J.val rfl rfl (V.iad Try.underlying24 sz60 rfl e568 rfl p563 p565) ?_
        refine J.val rfl rfl (V.fad Try.underlying60 rfl nz4 rfl) ?_
        refine J.val (v := .bool x561.2) rfl rfl (V.ld rfl (Ld.sc sc4 (Rd.k (((a569).snd).one).bool (Hp.le_refl _)))) ?_
        refine J.nil ?_
        refine CJ.cond rfl (fun hc570 => ?_) (fun hc570 => ?_)
        · have ho560 := ct hc570 ho560
          refine CJ.region ?_
          refine J.val (v := .int .i64 (IntKind.wrap .i64 (2 * x539.1))) rfl rfl (V.mv rfl) ?_
          refine J.val (v := .int .i64 (IntKind.wrap .i64 ((IntKind.wrap .i64 (2 * x539.1)) + 1))) rfl rfl (V.add rfl rfl) ?_
          refine J.val (v := .int .i64 (IntKind.wrap .i64 ((IntKind.wrap .i64 (2 * x539.1)) + 1))) rfl rfl (V.as rfl) ?_
          refine J.nil ?_
          have e := Option.some.inj ho560
          subst e
          exact ⟨rfl, ⟨IntKind.wrap .i64 ((IntKind.wrap .i64 (2 * x539.1)) + 1), rfl, ⟨rfl, rfl, rfl, rfl, trivial⟩, rfl, rfl⟩⟩
        · have ho560 := cf hc570 ho560
          refine CJ.skip ?_
          have e := Option.some.inj ho560
          subst e
          exact ⟨rfl, ⟨IntKind.wrap .i64 (2 * x539.1), rfl, ⟨rfl, rfl, rfl, rfl, trivial⟩, rfl, rfl⟩⟩
      · rintro ρ _ _ ⟨i558, rfl, hf571, rfl, rfl⟩
        obtain ⟨ρ, rfl⟩ := hf571.ex
        refine PJ.done ?_
        refine CJ.region ?_
        refine J.val (v := .string ⟨s487.toArray⟩) rfl rfl (V.mv rfl) ?_
        refine J.val (v := .int .i64 i558) rfl rfl (V.mv rfl) ?_
        obtain ⟨r573, hr574, h534⟩ := ob h534
        refine J.op rfl (A.call (L1 := []) Try.call54 rfl (ref02_Put_ok hr574) rfl rfl) ?_
        rintro _ _ _ ⟨v576, _, rfl, ⟨⟨s575, rfl, rfl, rfl⟩, rfl⟩, _, rfl⟩
        obtain ⟨z579, hz580, h534⟩ := ob h534
        refine J.val (v := .string ⟨z579.toArray⟩) rfl rfl (V.cat rfl rfl hz580) ?_
        refine J.val (v := .string ⟨z579.toArray⟩) rfl rfl (V.as rfl) ?_
        refine J.nil ?_
        refine CJ.region ?_
        refine J.val (v := .int .i64 i488) rfl rfl (V.mv rfl) ?_
        refine J.val (v := .int .i64 (IntKind.wrap .i64 (i488 + 1))) rfl rfl (V.add rfl rfl) ?_
        refine J.val (v := .int .i64 (IntKind.wrap .i64 (i488 + 1))) rfl rfl (V.as rfl) ?_
        refine J.nil ?_
        have e := Option.some.inj h534
        subst e
        exact ⟨rfl, ⟨z579, IntKind.wrap .i64 (i488 + 1), rfl, ⟨rfl, rfl, rfl, trivial⟩, rfl, rfl⟩⟩
    · have h534 := cf hc538 h534
      refine CJ.dropAt 0 rfl ?_
      refine CJ.exit ?_
      have e := Option.some.inj h534
      subst e
      refine ⟨nofun, fun e => ?_⟩
      subst e
      exact ⟨rfl, ⟨s487, rfl, ⟨rfl, trivial⟩, rfl, rfl⟩⟩
  · rintro ρ _ _ ⟨s439, rfl, hf581, rfl, rfl⟩
    obtain ⟨ρ, rfl⟩ := hf581.ex
    refine PJ.done ?_
    refine CJ.seq ?_
    refine CJ.region ?_
    refine J.val (v := .string ⟨s439.toArray⟩) rfl rfl (V.mv rfl) ?_
    refine J.val (v := .string ⟨s439.toArray⟩) rfl rfl (V.as rfl) ?_
    refine J.nil ?_
    refine CJ.ret ?_
    have e := Option.some.inj h
    subst e
    exact ⟨_, [], Res.one rfl rfl, ⟨s439, rfl, rfl, rfl⟩, (Hp.le_refl _), fun w hs => hs⟩
noncomputable def fn_ref17_Put_l1 (xa : (Int × (List (Int × Int)) × (List (List (Int × Bool))) × (List (Int × Bool)))) : (List UInt8 × Int) → Option ((List UInt8 × Int) ⊕ List UInt8) := fun ((s361, i362) : (List UInt8 × Int)) => cond (decide (i362 < (((xa.2.2.1.length : Nat) : Int)))) ((getI xa.2.2.1 i362).bind fun x392 => (fn_ref17_PutType x392).bind fun s407 => (app s361 s407).bind fun z411 => some (.inl ((z411, IntKind.wrap .i64 (i362 + 1))))) (some (.inr (s361)))
noncomputable def fn_ref17_Put (xa : (Int × (List (Int × Int)) × (List (List (Int × Bool))) × (List (Int × Bool)))) : Option (List UInt8) :=
  (fn_ref02_Put xa.1).bind fun s238 => (fn_ref17_PutBounds xa.2.1).bind fun s244 => (app s238 s244).bind fun z248 => (fn_ref02_Put (((xa.2.2.1.length : Nat) : Int))).bind fun s252 => (app z248 s252).bind fun z256 => (loop (fn_ref17_Put_l1 xa) (z256, 0) : Option (List UInt8)).bind fun s334 => (fn_ref17_PutType xa.2.2.2).bind fun s417 => (app s334 s417).bind fun z421 => some (z421)
set_option maxRecDepth 100000 in
set_option maxHeartbeats 4000000 in
theorem ref17_Put_ok {K : Hp} {xa : (Int × (List (Int × Int)) × (List (List (Int × Bool))) × (List (Int × Bool)))} {adxa_1 : Option Addr} {cpxa_1 : Nat} {adxa_2 : Option Addr} {cpxa_2 : Nat} {adxa_3 : Option Addr} {cpxa_3 : Nat} (fxa_1 : Is K (.sl (.cons (.int .i64) (.one (.int .i64)))) [.slice adxa_1 xa.2.1.length cpxa_1] xa.2.1) (fxa_2 : Is K (.sl (.one (.sl (.cons (.int .i64) (.one .bool))))) [.slice adxa_2 xa.2.2.1.length cpxa_2] xa.2.2.1) (fxa_3 : Is K (.sl (.cons (.int .i64) (.one .bool))) [.slice adxa_3 xa.2.2.2.length cpxa_3] xa.2.2.2) {r : List UInt8} (h : fn_ref17_Put xa = some r) :
    Tr Try.prog 28 #[.agg #[.int .i64 xa.1, .slice adxa_1 xa.2.1.length cpxa_1, .slice adxa_2 xa.2.2.1.length cpxa_2, .slice adxa_3 xa.2.2.2.length cpxa_3]] K [] (fun v K' L' => (∃ (s212 : List UInt8), s212 = r ∧ .string ⟨s212.toArray⟩ = v ∧ L' = []) ∧ K = K') := by
  refine Tr.k ?_
  refine Tr.of Try.func28 rfl Try.ntmps28 rfl (fun E F => ?_)
  unfold fn_ref17_Put at h
  refine CJ.seq ?_
  refine CJ.region ?_
  refine J.op rfl (A.box (v := .agg #[.int .i64 xa.1, .slice adxa_1 xa.2.1.length cpxa_1, .slice adxa_2 xa.2.2.1.length cpxa_2, .slice adxa_3 xa.2.2.2.length cpxa_3]) (cs := [.int .i64 xa.1, .slice adxa_1 xa.2.1.length cpxa_1, .slice adxa_2 xa.2.2.1.length cpxa_2, .slice adxa_3 xa.2.2.2.length cpxa_3]) rfl rfl) ?_
  rintro _ _ _ ⟨b213, rfl, rfl, rfl⟩
  refine J.val (v := .string ⟨([] : List UInt8).toArray⟩) rfl rfl (V.as rfl) ?_
  refine J.nil ?_
  refine CJ.seq ?_
  refine CJ.mix [Cl b213 28 [.int .i64 xa.1, .slice adxa_1 xa.2.1.length cpxa_1, .slice adxa_2 xa.2.2.1.length cpxa_2, .slice adxa_3 xa.2.2.2.length cpxa_3]] [([0, 1, 3, 4, 7, 8, 9], 2), ([], 5), ([6], 10)] [11, 12] [] mixO (by decide +kernel) ⟨0, rfl, trivial⟩ rfl rfl rfl ?_
  refine JM.cons ?_
  refine JQ.val rfl rfl (V.fad Try.underlying28 rfl nz3 rfl) ?_
  refine JQ.val (v := .int .i64 xa.1) rfl rfl (V.ld rfl (Ld.sc sc3 (Rd.cl 0 rfl rfl))) ?_
  refine JQ.val rfl rfl (V.fad Try.underlying28 rfl nz22 rfl) ?_
  refine JQ.val (v := .slice adxa_1 xa.2.1.length cpxa_1) rfl rfl (V.ld rfl (Ld.sc sc22 (Rd.cl 0 rfl rfl))) ?_
  refine JQ.val rfl rfl (V.fad Try.underlying28 rfl nz23 rfl) ?_
  refine JQ.val (v := .slice adxa_2 xa.2.2.1.length cpxa_2) rfl rfl (V.ld rfl (Ld.sc sc23 (Rd.cl 0 rfl rfl))) ?_
  refine JQ.val (v := .int .i64 (((xa.2.2.1.length : Nat) : Int))) rfl rfl (V.len Try.underlying23 rfl) ?_
  refine JQ.nil ?_
  obtain ⟨r236, hr237, h⟩ := ob h
  refine JA.op rfl (A.call (L1 := []) Try.call54 rfl (ref02_Put_ok hr237) rfl rfl) ?_
  rintro _ _ _ ⟨v239, _, rfl, ⟨⟨s238, rfl, rfl, rfl⟩, rfl⟩, _, rfl⟩
  refine ⟨fun w hs => Hold.sub (Hp.le_refl _) ⟨0, rfl, trivial⟩ hs, ?_⟩
  refine JM.cons ?_
  refine JQ.nil ?_
  obtain ⟨r242, hr243, h⟩ := ob h
  refine JA.op rfl (A.call (L1 := []) Try.call30 rfl (ref17_PutBounds_ok fxa_1 hr243) rfl rfl) ?_
  rintro _ _ _ ⟨v245, _, rfl, ⟨⟨s244, rfl, rfl, rfl⟩, rfl⟩, _, rfl⟩
  refine ⟨fun w hs => Hold.sub (Hp.le_refl _) ⟨0, rfl, trivial⟩ hs, ?_⟩
  refine JM.cons ?_
  obtain ⟨z248, hz249, h⟩ := ob h
  refine JQ.val (v := .string ⟨z248.toArray⟩) rfl rfl (V.cat rfl rfl hz249) ?_
  refine JQ.nil ?_
  obtain ⟨r250, hr251, h⟩ := ob h
  refine JA.op rfl (A.call (L1 := []) Try.call54 rfl (ref02_Put_ok hr251) rfl rfl) ?_
  rintro _ _ _ ⟨v253, _, rfl, ⟨⟨s252, rfl, rfl, rfl⟩, rfl⟩, _, rfl⟩
  refine ⟨fun w hs => Hold.sub (Hp.le_refl _) ⟨0, rfl, trivial⟩ hs, ?_⟩
  refine JM.nil ?_
  obtain ⟨z256, hz257, h⟩ := ob h
  refine JQ.val (v := .string ⟨z256.toArray⟩) rfl rfl (V.cat rfl rfl hz257) ?_
  refine JQ.val (v := .string ⟨z256.toArray⟩) rfl rfl (V.as rfl) ?_
  refine JQ.nil ?_
  refine J.nil ?_
  refine CJ.seq ?_
  refine CJ.seq ?_
  refine CJ.region ?_
  refine J.val (v := .int .i64 0) rfl rfl (V.as rfl) ?_
  refine J.nil ?_
  obtain ⟨o335, ho336, h⟩ := ob h
  refine CJ.meetN (fun ρ K' L' => ∃ (s334 : List UInt8), s334 = o335 ∧ Fits [(1, .pointer (some ⟨b213, 0, none⟩)), (3, .string ⟨s334.toArray⟩)] ρ ∧ K = K' ∧ L' = Cl b213 28 [.int .i64 xa.1, .slice adxa_1 xa.2.1.length cpxa_1, .slice adxa_2 xa.2.2.1.length cpxa_2, .slice adxa_3 xa.2.2.2.length cpxa_3] :: F) ?_ ?_
  · skip
    refine CJ.block ?_
    refine CJ.loop (fun s ρ K' L' => ∃ (s361 : List UInt8) (i362 : Int), (s361, i362) = s ∧ Fits [(1, .pointer (some ⟨b213, 0, none⟩)), (3, .string ⟨s361.toArray⟩), (4, .int .i64 i362)] ρ ∧ K = K' ∧ L' = Cl b213 28 [.int .i64 xa.1, .slice adxa_1 xa.2.1.length cpxa_1, .slice adxa_2 xa.2.2.1.length cpxa_2, .slice adxa_3 xa.2.2.2.length cpxa_3] :: F) ho336 ⟨z256, 0, rfl, ⟨rfl, rfl, rfl, trivial⟩, rfl, rfl⟩ ?_
    rintro s ρ _ _ r390 ⟨s361, i362, rfl, hf388, rfl, rfl⟩ h387
    obtain ⟨ρ, rfl⟩ := hf388.ex
    refine CJ.seq ?_
    refine CJ.seq ?_
    refine CJ.region ?_
    refine J.val (v := .int .i64 i362) rfl rfl (V.mv rfl) ?_
    refine J.val rfl rfl (V.fad Try.underlying28 rfl nz23 rfl) ?_
    refine J.val (v := .slice adxa_2 xa.2.2.1.length cpxa_2) rfl rfl (V.ld rfl (Ld.sc sc23 (Rd.cl 0 rfl rfl))) ?_
    refine J.val (v := .int .i64 (((xa.2.2.1.length : Nat) : Int))) rfl rfl (V.len Try.underlying23 rfl) ?_
    refine J.val (v := .bool (decide (i362 < (((xa.2.2.1.length : Nat) : Int))))) rfl rfl (V.lss rfl rfl) ?_
    refine J.nil ?_
    refine CJ.cond rfl (fun hc391 => ?_) (fun hc391 => ?_)
    · have h387 := ct hc391 h387
      refine CJ.skip ?_
      refine CJ.seq ?_
      refine CJ.block ?_
      refine CJ.region ?_
      refine J.val (v := .string ⟨s361.toArray⟩) rfl rfl (V.mv rfl) ?_
      refine J.val rfl rfl (V.fad Try.underlying28 rfl nz23 rfl) ?_
      refine J.val (v := .slice adxa_2 xa.2.2.1.length cpxa_2) rfl rfl (V.ld rfl (Ld.sc sc23 (Rd.cl 0 rfl rfl))) ?_
      refine J.val (v := .int .i64 i362) rfl rfl (V.mv rfl) ?_
      obtain ⟨x392, hx393, h387⟩ := ob h387
      obtain ⟨p394, p395, p396⟩ := getI_some hx393
      obtain ⟨b397, o398, e399, a400⟩ := (fxa_2).at p395
      refine J.val rfl rfl (V.iad Try.underlying23 sz26 rfl e399 rfl p394 p396) ?_
      obtain ⟨ad401, cp402, c403, f404⟩ := ((a400).one).sl
      refine J.val (v := .agg #[.slice ad401 x392.length cp402]) rfl rfl (V.ld rfl (Ld.aggK (cs := [.slice ad401 x392.length cp402]) Try.underlying26 sz26 rfl ⟨c403, trivial⟩ (Hp.le_refl _))) ?_
      obtain ⟨r405, hr406, h387⟩ := ob h387
      refine J.op rfl (A.call (L1 := []) Try.call29 rfl (ref17_PutType_ok f404 hr406) rfl rfl) ?_
      rintro _ _ _ ⟨v408, _, rfl, ⟨⟨s407, rfl, rfl, rfl⟩, rfl⟩, _, rfl⟩
      obtain ⟨z411, hz412, h387⟩ := ob h387
      refine J.val (v := .string ⟨z411.toArray⟩) rfl rfl (V.cat rfl rfl hz412) ?_
      refine J.val (v := .string ⟨z411.toArray⟩) rfl rfl (V.as rfl) ?_
      refine J.nil ?_
      refine CJ.region ?_
      refine J.val (v := .int .i64 i362) rfl rfl (V.mv rfl) ?_
      refine J.val (v := .int .i64 (IntKind.wrap .i64 (i362 + 1))) rfl rfl (V.add rfl rfl) ?_
      refine J.val (v := .int .i64 (IntKind.wrap .i64 (i362 + 1))) rfl rfl (V.as rfl) ?_
      refine J.nil ?_
      have e := Option.some.inj h387
      subst e
      exact ⟨rfl, ⟨z411, IntKind.wrap .i64 (i362 + 1), rfl, ⟨rfl, rfl, rfl, trivial⟩, rfl, rfl⟩⟩
    · have h387 := cf hc391 h387
      refine CJ.exit ?_
      have e := Option.some.inj h387
      subst e
      refine ⟨nofun, fun e => ?_⟩
      subst e
      exact ⟨rfl, ⟨s361, rfl, ⟨rfl, rfl, trivial⟩, rfl, rfl⟩⟩
  · rintro ρ _ _ ⟨s334, rfl, hf413, rfl, rfl⟩
    obtain ⟨ρ, rfl⟩ := hf413.ex
    refine PJ.done ?_
    refine CJ.seq ?_
    refine CJ.region ?_
    refine J.val (v := .string ⟨s334.toArray⟩) rfl rfl (V.mv rfl) ?_
    refine J.val rfl rfl (V.fad Try.underlying28 rfl nz26 rfl) ?_
    refine J.val (v := .agg #[.slice adxa_3 xa.2.2.2.length cpxa_3]) rfl rfl (V.ld rfl (Ld.agg (cs := [.slice adxa_3 xa.2.2.2.length cpxa_3]) Try.underlying26 sz26 rfl (Rd.cls 0 3 rfl rfl))) ?_
    obtain ⟨r415, hr416, h⟩ := ob h
    refine J.op rfl (A.call (L1 := []) Try.call29 rfl (ref17_PutType_ok fxa_3 hr416) rfl rfl) ?_
    rintro _ _ _ ⟨v418, _, rfl, ⟨⟨s417, rfl, rfl, rfl⟩, rfl⟩, _, rfl⟩
    obtain ⟨z421, hz422, h⟩ := ob h
    refine J.val (v := .string ⟨z421.toArray⟩) rfl rfl (V.cat rfl rfl hz422) ?_
    refine J.val (v := .string ⟨z421.toArray⟩) rfl rfl (V.as rfl) ?_
    refine J.nil ?_
    refine CJ.ret ?_
    have e := Option.some.inj h
    subst e
    exact ⟨_, [], Res.one rfl rfl, ⟨z421, rfl, rfl, rfl⟩, (Hp.le_refl _), fun w hs => (Sep.dropAt 0 rfl hs)⟩
end Go.Proofs.Ytjhgiaafaahbjaa
